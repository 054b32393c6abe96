/- Plain facts on numbers and their bytes. Nothing of the program is named here. What the inner functions of package pack do, walked. What the calls of package pack do, walked. What the calls of package pack that read do, walked. What the calls of package pack on complex numbers do, walked. Plain facts on what is read and what would be written. -/
import Derived.WalkKit
import Derived.Test.YtemldmjpanmdbaaGreatDoorA1
import Derived.Test.YtemldmjpanmdbaaGreatDoorSl
import Derived.Deep.QuietTactic
import Derived.BigQuiet
import Derived.Deep.RegionWith
namespace Go.Proofs.YtemldmjpanmdbaaGreatDoor

/-- The number of some bytes, the highest first. -/
def rdN (l : List Int) : Int := l.foldl (fun a b => a * 256 + b) 0

theorem rdN_snoc (l : List Int) (b : Int) : rdN (l ++ [b]) = rdN l * 256 + b := by simp [rdN]

theorem or_byte (r z : Int) (h0 : 0 ≤ r) (h1 : r < 72057594037927936) (h2 : 0 ≤ z) (h3 : z < 256) :
    bits BinOp.or IntKind.u64 (IntKind.u64.wrap (r * 256)) (IntKind.u64.wrap z) = r * 256 + z := by
  obtain ⟨R, rfl⟩ := Int.eq_ofNat_of_zero_le h0
  obtain ⟨Z, rfl⟩ := Int.eq_ofNat_of_zero_le h2
  have e1 : IntKind.u64.wrap ((R : Int) * 256) = ((R * 256 : Nat) : Int) := by rw [IntKind.wrap_u64]; omega
  have e2 : IntKind.u64.wrap (Z : Int) = ((Z : Nat) : Int) := by rw [IntKind.wrap_u64]; omega
  rw [e1, e2, bits_or_u64_nat _ _ (by omega) (by omega)]
  have h : R * 256 ||| Z = R * 256 + Z := by
    have := Nat.two_pow_add_eq_or_of_lt (i := 8) (b := Z) (by omega) R
    rw [show (2 ^ 8 : Nat) * R = R * 256 by omega] at this
    exact this.symm
  rw [h]
  omega

theorem fold_bd (l : List Int) : ∀ a : Int, 0 ≤ a → (∀ z ∈ l, 0 ≤ z ∧ z < 256) → 0 ≤ l.foldl (fun a b => a * 256 + b) a ∧ l.foldl (fun a b => a * 256 + b) a < (a + 1) * 256 ^ l.length := by
  induction l with
  | nil => intro a h _; simp; omega
  | cons b l ih =>
    intro a h hb
    have h2 := hb b (by simp)
    have h1 := ih (a * 256 + b) (by omega) (fun z hz => hb z (by simp [hz]))
    refine ⟨h1.1, Int.lt_of_lt_of_le h1.2 ?_⟩
    rw [List.length_cons, Int.pow_succ, Int.mul_comm (256 ^ l.length) 256, ← Int.mul_assoc]
    exact Int.mul_le_mul_of_nonneg_right (by omega) (Int.le_of_lt (Int.pow_pos (by omega)))

theorem rdN_bd (l : List Int) (hb : ∀ z ∈ l, 0 ≤ z ∧ z < 256) : 0 ≤ rdN l ∧ rdN l < 256 ^ l.length := by
  have := fold_bd l 0 (by omega) hb
  simpa [rdN] using this

theorem pow256_le (k n : Nat) (h : k ≤ n) : (256 : Int) ^ k ≤ 256 ^ n := by
  obtain ⟨d, rfl⟩ := Nat.exists_eq_add_of_le h
  rw [Int.pow_add]
  have h1 : (0 : Int) < 256 ^ k := Int.pow_pos (by omega)
  have h2 : (0 : Int) < 256 ^ d := Int.pow_pos (by omega)
  have := Int.mul_le_mul_of_nonneg_left (show (1 : Int) ≤ 256 ^ d by omega) (Int.le_of_lt h1)
  omega

/-- One byte more. -/
theorem rdN_step (zs : List Int) (k : Nat) (hk : k < zs.length) (h8 : zs.length ≤ 8) (hb : ∀ z ∈ zs, 0 ≤ z ∧ z < 256) :
    bits BinOp.or IntKind.u64 (IntKind.u64.wrap (rdN (zs.take k) * 256)) (IntKind.u64.wrap zs[k]) = rdN (zs.take (k + 1)) := by
  have h1 := rdN_bd (zs.take k) (fun z hz => hb z (List.mem_of_mem_take hz))
  have h2 := pow256_le (zs.take k).length 7 (by simp; omega)
  have h3 := hb zs[k] (List.getElem_mem hk)
  rw [or_byte _ _ h1.1 (by have : (256 : Int) ^ 7 = 72057594037927936 := by decide
                           omega) h3.1 h3.2, List.take_succ_eq_append_getElem hk, rdN_snoc]

/-- The bytes of a number, so many, the highest first. -/
def wrN : Nat → Int → List Int
  | 0, _ => []
  | s + 1, n => wrN s (n / 256) ++ [n % 256]

@[simp] theorem wrN_length (s : Nat) : ∀ n, (wrN s n).length = s := by
  induction s with
  | zero => intro n; rfl
  | succ s ih => intro n; simp [wrN, ih]

theorem wrN_bd (s : Nat) : ∀ n, ∀ z ∈ wrN s n, 0 ≤ z ∧ z < 256 := by
  induction s with
  | zero => intro n z h; simp [wrN] at h
  | succ s ih =>
    intro n z h
    rw [wrN, List.mem_append] at h
    rcases h with h | h
    · exact ih _ z h
    · simp at h; omega

/-- The byte at a place. -/
theorem wrN_at (s : Nat) : ∀ (n : Int) (i : Nat) (h : i < s), (wrN s n)[i]'(by simpa using h) = n / 256 ^ (s - 1 - i) % 256 := by
  induction s with
  | zero => intro n i h; omega
  | succ s ih =>
    intro n i h
    simp only [wrN]
    by_cases hi : i < s
    · rw [List.getElem_append_left (by simpa using hi), ih _ _ hi]
      rw [show s + 1 - 1 - i = (s - 1 - i) + 1 by omega, Int.pow_succ, Int.mul_comm, Int.ediv_ediv_of_nonneg (by omega)]
    · have : i = s := by omega
      subst this
      rw [List.getElem_append_right (by simp)]
      simp

theorem two_pow_8 (k : Nat) : (2 : Int) ^ (8 * k) = 256 ^ k := by rw [Int.pow_mul]; rfl

/-- One byte more. -/
theorem wrN_snoc (zs : List Int) (s k : Nat) (v : Int) (h : k < s) : zs ++ (wrN s v).take (k + 1) = zs ++ ((wrN s v).take k ++ [v / 2 ^ (8 * (s - 1 - k)) % 256]) := by
  rw [List.take_succ_eq_append_getElem (by simpa using h), wrN_at s v k h, two_pow_8]

/-- What was written is read. -/
theorem rdN_wrN (s : Nat) : ∀ n : Int, 0 ≤ n → n < 256 ^ s → rdN (wrN s n) = n := by
  induction s with
  | zero => intro n h0 h1; simp at h1; simp [wrN, rdN]; omega
  | succ s ih =>
    intro n h0 h1
    rw [Int.pow_succ] at h1
    rw [wrN, rdN_snoc, ih (n / 256) (by omega) (by omega)]
    omega

/-- What is read would be written. -/
theorem wrN_rdN (s : Nat) : ∀ l : List Int, l.length = s → (∀ z ∈ l, 0 ≤ z ∧ z < 256) → wrN s (rdN l) = l := by
  induction s with
  | zero => intro l h _; rw [List.eq_nil_of_length_eq_zero h]; rfl
  | succ s ih =>
    intro l h hb
    obtain ⟨l', b, rfl⟩ : ∃ l' b, l = l' ++ [b] := ⟨l.dropLast, l.getLast (by intro e; subst e; simp at h), (List.dropLast_concat_getLast _).symm⟩
    have h2 := hb b (by simp)
    have h3 := ih l' (by simpa using h) (fun z hz => hb z (by simp [hz]))
    rw [wrN, rdN_snoc, show (rdN l' * 256 + b) / 256 = rdN l' by omega, h3, show (rdN l' * 256 + b) % 256 = b by omega]

end Go.Proofs.YtemldmjpanmdbaaGreatDoor

namespace Go.Proofs.YtemldmjpanmdbaaGreatDoor
open Go.RowKit
set_option linter.unusedVariables false

set_option maxHeartbeats 400000 in
theorem readForm_any (ao : Option Addr) (cap n : Nat) (zs : List Int) (w : World) (hrd : RdI w .u8 ao cap zs) (hn : zs.length = n) (h8 : n ≤ 8)
    (hb : ∀ z ∈ zs, 0 ≤ z ∧ z < 256) :
    Calls Tryz.prog 36 #[.slice ao n cap] w fun e w' => e = .returned (.int .u64 (rdN zs)) ∧ w' = w := by
  go_enter Tryz.func36, Tryz.ntmps36
  go_wp2
  go_loop [3, 8] (fun t i => ∃ k : Nat, k ≤ n ∧ i = .int .i64 k ∧ t = .int .u64 (rdN (zs.take k))) (fun _ i => n - (intOf i).toNat)
  case atStart => exact ⟨0, Nat.zero_le _, rfl, rfl⟩
  case round =>
    obtain ⟨k, hk, rfl, rfl⟩ := hrel
    by_cases hlt : k < n
    · obtain ⟨b, off, rfl, _, hc⟩ := hrd.at (t := k) (by omega)
      have hc1 := hc k (by omega)
      go_wp2
      go_round
      case rel => exact ⟨k + 1, by omega, by go_num, by rw [rdN_step zs k (by omega) (by omega) hb]⟩
      case measure => simp [intOf]; omega
    · go_wp2
      go_ret
      exact ⟨ret_int (by rw [List.take_of_length_le (by omega)]), rfl⟩

theorem info5 : (Tryz.prog.info? 5).map (fun i => (i.zero, i.size, i.bytes)) = some (some (.int .u8 0), 1, 1) := by kernel_rfl
theorem info3 : (Tryz.prog.info? 3).map (fun i => (i.zero, i.size, i.bytes)) = some (some (.int .i64 0), 1, 8) := by kernel_rfl

set_option maxHeartbeats 400000 in
theorem appendForm_any (base : Nat) (ao : Option Addr) (cap n : Nat) (zs : List Int) (v : Int) (s : Nat) (w : World) (hown : OwnI w base 5 .u8 ao cap zs) (hn : zs.length = n) (h8 : s ≤ 8)
    (hv0 : 0 ≤ v) (hv1 : v < 18446744073709551616) (hlen : n + s ≤ 140737488355328) (hbase : base ≤ w.heap.size) :
    Calls Tryz.prog 53 #[.slice ao n cap, .int .u64 v, .int .i64 s] w fun e w' => ∃ ao' cap', e = .returned (.slice ao' (n + s) cap') ∧ OwnI w' base 5 .u8 ao' cap' (zs ++ wrN s v) ∧ Below base w w' := by
  go_enter Tryz.func53, Tryz.ntmps53
  go_wp2
  go_loopw [0, 9] (fun t i wr => ∃ (k : Nat) (a : Option Addr) (c : Nat), k ≤ s ∧ i = .int .i64 k ∧ t = .slice a (n + k) c ∧ OwnI wr base 5 .u8 a c (zs ++ (wrN s v).take k) ∧ Below base w wr) (fun _ i _ => s - (intOf i).toNat)
  case atStart => exact ⟨0, ao, cap, Nat.zero_le _, rfl, rfl, by simpa using hown, Below.refl _ _⟩
  case round =>
    obtain ⟨k, a, c, hk, rfl, rfl, ho, hbel⟩ := hrel
    by_cases hlt : k < s
    · go_wp2_with (at_builtin; refine wpList_append_rdI _ rfl _ _ 29 rfl base 5 .u8 (.int .u8 0) 1 Tryz.underlying29 info5 rfl rfl rfl (OwnI.alloc ho _) (RdI.one _ _ _ _) (by simp; omega) rfl (by omega) (by unfold maxLen; omega) (by have := hbel.size; simp; omega) ?_)
      · intro ao2 cap2 w' ho' hb'
        rw [← wrN_snoc zs s k v hlt] at ho'
        have hbel' : Below base w w' := (hbel.alloc (by have := hbel.size; omega) _).trans hb'
        clear hb' ho hown hbel
        go_wp2
        go_roundw
        case rel => exact ⟨k + 1, _, _, by omega, by go_num, rfl, ho', hbel'⟩
        case measure => simp [intOf]; omega
    · go_wp2
      go_ret
      have : k = s := by omega
      subst this
      exact ⟨_, _, rfl, by rw [List.take_of_length_le (by simp)] at ho; exact ho, hbel⟩

set_option maxHeartbeats 400000 in
theorem rest_any (ao : Option Addr) (cap n i : Nat) (zs : List Int) (w : World) (hrd : RdI w .u8 ao cap zs) (hn : zs.length = n) (hi : i ≤ n) (hlen : n ≤ 140737488355328) :
    Calls Tryz.prog 37 #[.slice ao n cap, .int .i64 i] w fun e w' => ∃ ao' cap', e = .returned (.slice ao' (n - i) cap') ∧ OwnI w' w.heap.size 5 .u8 ao' cap' (zs.drop i) ∧ Below w.heap.size w w' := by
  have hle := hrd.le
  have hcut := hrd.tail i (by omega)
  go_enter Tryz.func37, Tryz.ntmps37
  go_wp2_with (at_builtin; refine wpList_append_rdI _ rfl _ _ 29 rfl w.heap.size 5 .u8 (.int .u8 0) 1 Tryz.underlying29 info5 rfl rfl rfl (OwnI.nil _ _ _ _) hcut rfl (by simp; omega) (by omega) (by unfold maxLen; omega) (Nat.le_refl _) ?_; intro ao2 cap2 w1 ho1 hb1)
  all_goals
    go_ret
    exact ⟨_, _, rfl, ho1, hb1⟩

end Go.Proofs.YtemldmjpanmdbaaGreatDoor

namespace Go.Proofs.YtemldmjpanmdbaaGreatDoor
open Go.RowKit
set_option linter.unusedVariables false

/-- Can the number be? -/
def canB (z : Int) : Bool := decide (0 ≤ z) && decide (z ≤ 16777215)

/-- The forms of the numbers. -/
def formsN (zs : List Int) : List Int := zs.flatMap (wrN 3)

theorem formsN_snoc (zs : List Int) (k : Nat) (h : k < zs.length) : formsN (zs.take k) ++ wrN 3 zs[k] = formsN (zs.take (k + 1)) := by
  rw [List.take_succ_eq_append_getElem h]; unfold formsN; rw [List.flatMap_append]; simp only [List.flatMap_cons, List.flatMap_nil, List.append_nil]

theorem formsN_length (zs : List Int) : (formsN zs).length = 3 * zs.length := by
  induction zs with
  | nil => rfl
  | cons z zs ih => simp only [formsN, List.flatMap_cons, List.length_append, wrN_length, List.length_cons] at *; omega

set_option maxHeartbeats 800000 in
theorem nums_good (ao : Option Addr) (cap n : Nat) (zs : List Int) (w : World) (hrd : RdI w .i64 ao cap zs) (hn : zs.length = n) (hlen : n * 8 ≤ 140737488355328) (hz : ∀ z ∈ zs, 0 ≤ z ∧ z ≤ 16777215) :
    Calls Tryz.prog 25 #[.slice ao n cap] w fun e w' => ∃ ao' cap', e = .returned (.tuple #[.slice ao' (3 * n) cap', .int .i64 0]) ∧ OwnI w' w.heap.size 5 .u8 ao' cap' (formsN zs) ∧ Below w.heap.size w w' := by
  have hle := hrd.le
  go_enter Tryz.func25, Tryz.ntmps25
  go_wp2_with (at_make; refine wpList_make0I _ rfl _ _ 29 rfl w.heap.size 5 .u8 (.int .u8 0) 1 Tryz.underlying29 info5 (3 * n) rfl rfl (by omega) (by omega) (by unfold maxLen; omega) (Nat.le_refl _) ?_; intro ao1 w1 ho1 hb1)
  go_loopw [4, 13] (fun t i wr => ∃ (k : Nat) (a : Option Addr) (c : Nat), k ≤ n ∧ i = .int .i64 k ∧ t = .slice a (3 * k) c ∧ OwnI wr w.heap.size 5 .u8 a c (formsN (zs.take k)) ∧ Below w.heap.size w wr) (fun _ i _ => n - (intOf i).toNat)
  case atStart => exact ⟨0, _, _, Nat.zero_le _, rfl, rfl, ho1, hb1⟩
  case round =>
    obtain ⟨k, a, c, hk, rfl, rfl, ho, hbel⟩ := hrel
    by_cases hlt : k < n
    · obtain ⟨b, off, rfl, _, hc⟩ := (hrd.below hbel).at (t := k) (by omega)
      have hc1 := hc k (by omega)
      have hzk := hz zs[k] (List.getElem_mem _)
      have hz1 := hzk.1
      have hz2 := hzk.2
      have hsz := hbel.size
      go_wp2_with (go_at_call 53; refine (appendForm_any w.heap.size a c (3 * k) (formsN (zs.take k)) zs[k] 3 _ ho (by rw [formsN_length, List.length_take]; omega) (by omega) (by omega) (by omega) (by omega) hsz).mono ?_; rintro e w2 ⟨ao2, cap2, rfl, ho2, hb2⟩)
      rw [formsN_snoc zs k (by omega)] at ho2
      go_roundw
      case rel => exact ⟨k + 1, _, _, by omega, by go_num, rfl, ho2, hbel.trans hb2⟩
      case measure => simp [intOf]; omega
    · go_wp2
      go_ret2
      have : k = n := by omega
      subst this
      exact ⟨_, _, rfl, by rw [List.take_of_length_le (by omega)] at ho; exact ho, hbel⟩

set_option maxHeartbeats 800000 in
theorem nums_bad (ao : Option Addr) (cap n : Nat) (zs : List Int) (w : World) (hrd : RdI w .i64 ao cap zs) (hn : zs.length = n) (hlen : n * 8 ≤ 140737488355328) (hbad : ¬ ∀ z ∈ zs, 0 ≤ z ∧ z ≤ 16777215) :
    Calls Tryz.prog 25 #[.slice ao n cap] w fun e w' => e = .returned (.tuple #[.slice none 0 0, .int .i64 21]) ∧ Below w.heap.size w w' := by
  have hle := hrd.le
  go_enter Tryz.func25, Tryz.ntmps25
  go_wp2_with (at_make; refine wpList_make0I _ rfl _ _ 29 rfl w.heap.size 5 .u8 (.int .u8 0) 1 Tryz.underlying29 info5 (3 * n) rfl rfl (by omega) (by omega) (by unfold maxLen; omega) (Nat.le_refl _) ?_; intro ao1 w1 ho1 hb1)
  go_loopw [4, 13] (fun t i wr => ∃ (k : Nat) (a : Option Addr) (c : Nat), k ≤ n ∧ i = .int .i64 k ∧ t = .slice a (3 * k) c ∧ OwnI wr w.heap.size 5 .u8 a c (formsN (zs.take k)) ∧ Below w.heap.size w wr ∧ ∀ z ∈ zs.take k, 0 ≤ z ∧ z ≤ 16777215) (fun _ i _ => n - (intOf i).toNat)
  case atStart => exact ⟨0, _, _, Nat.zero_le _, rfl, rfl, ho1, hb1, by simp⟩
  case round =>
    obtain ⟨k, a, c, hk, rfl, rfl, ho, hbel, hgd⟩ := hrel
    by_cases hlt : k < n
    · obtain ⟨b, off, rfl, _, hc⟩ := (hrd.below hbel).at (t := k) (by omega)
      have hc1 := hc k (by omega)
      have hsz := hbel.size
      have HB : Hid (¬ ∀ z ∈ zs, 0 ≤ z ∧ z ≤ 16777215) := hbad
      have HG : Hid (∀ z ∈ zs.take k, 0 ≤ z ∧ z ≤ 16777215) := hgd
      clear hbad hgd
      by_cases hz1 : 0 ≤ zs[k]
      · by_cases hz2 : zs[k] ≤ 16777215
        · go_wp2_with (go_at_call 53; refine (appendForm_any w.heap.size a c (3 * k) (formsN (zs.take k)) zs[k] 3 _ ho (by rw [formsN_length, List.length_take]; omega) (by omega) (by omega) (by omega) (by omega) hsz).mono ?_; rintro e w2 ⟨ao2, cap2, rfl, ho2, hb2⟩)
          rw [formsN_snoc zs k (by omega)] at ho2
          go_roundw
          case rel => exact ⟨k + 1, _, _, by omega, by go_num, rfl, ho2, hbel.trans hb2, by
            rw [List.take_succ_eq_append_getElem (by omega)]
            intro z hz
            rcases List.mem_append.1 hz with h | h
            · exact HG.out z h
            · simp at h; subst h; exact ⟨hz1, hz2⟩⟩
          case measure => simp [intOf]; omega
        · go_wp2
          go_ret2
          exact ⟨rfl, hbel⟩
      · go_wp2
        go_ret2
        exact ⟨rfl, hbel⟩
    · exact absurd (by rwa [List.take_of_length_le (by omega)] at hgd) hbad

/-- The numbers with which some bytes begin. -/
def getN (zs : List Int) (many : Nat) : List Int := (List.range many).map fun i => rdN ((zs.drop (3 * i)).take 3)

@[simp] theorem getN_length (zs : List Int) (many : Nat) : (getN zs many).length = many := by simp [getN]

set_option maxHeartbeats 800000 in
theorem get_bad (ao : Option Addr) (cap n : Nat) (m : Int) (w : World) (hn : n ≤ 9223372036854775807) (hbad : m < 0 ∨ 1000 < m ∨ (n : Int) < 3 * m) :
    Calls Tryz.prog 16 #[.slice ao n cap, .int .i64 m] w fun e w' => e = .returned (.tuple #[.slice none 0 0, .slice none 0 0, .int .i64 21]) ∧ w' = w := by
  by_cases h1 : m < 0
  · clear hbad
    go_enter Tryz.func16, Tryz.ntmps16
    go_wp2
    go_ret3
    exact ⟨rfl, rfl⟩
  · by_cases h2 : 1000 < m
    · clear hbad
      go_enter Tryz.func16, Tryz.ntmps16
      go_wp2
      go_ret3
      exact ⟨rfl, rfl⟩
    · have h3 : (n : Int) < 3 * m := by omega
      clear hbad
      go_enter Tryz.func16, Tryz.ntmps16
      go_wp2
      go_ret3
      exact ⟨rfl, rfl⟩

end Go.Proofs.YtemldmjpanmdbaaGreatDoor

namespace Go.Proofs.YtemldmjpanmdbaaGreatDoor
open Go.RowKit
set_option linter.unusedVariables false

theorem getN_step (zs : List Int) (m k : Nat) (h : k < m) : (getN zs k ++ List.replicate (m - k) 0).set k (rdN ((zs.drop (3 * k)).take 3)) = getN zs (k + 1) ++ List.replicate (m - (k + 1)) 0 := by
  rw [List.set_append_right _ _ (by simp), show m - k = (m - (k + 1)) + 1 by omega, List.replicate_succ]
  simp [getN, List.range_succ]

theorem part_bd (zs : List Int) (i j : Nat) (hb : ∀ z ∈ zs, 0 ≤ z ∧ z < 256) : ∀ z ∈ (zs.drop i).take j, 0 ≤ z ∧ z < 256 :=
  fun z hz => hb z (List.mem_of_mem_drop (List.mem_of_mem_take hz))

theorem part3_bd (zs : List Int) (i : Nat) (hb : ∀ z ∈ zs, 0 ≤ z ∧ z < 256) : 0 ≤ rdN ((zs.drop i).take 3) ∧ rdN ((zs.drop i).take 3) < 16777216 := by
  have h1 := rdN_bd _ (part_bd zs i 3 hb)
  have h2 := pow256_le ((zs.drop i).take 3).length 3 (by simp; omega)
  have h3 : (256 : Int) ^ 3 = 16777216 := by decide
  omega

set_option maxHeartbeats 800000 in
theorem get_good (ao : Option Addr) (cap n m : Nat) (zs : List Int) (w : World) (hrd : RdI w .u8 ao cap zs) (hn : zs.length = n) (hb : ∀ z ∈ zs, 0 ≤ z ∧ z < 256) (hm : m ≤ 1000) (hmn : 3 * m ≤ n) (hlen : n ≤ 140737488355328) :
    Calls Tryz.prog 16 #[.slice ao n cap, .int .i64 m] w fun e w' => ∃ a1 c1 a2 c2, e = .returned (.tuple #[.slice a1 m c1, .slice a2 (n - 3 * m) c2, .int .i64 0]) ∧
      OwnI w' w.heap.size 3 .i64 a1 c1 (getN zs m) ∧ OwnI w' w.heap.size 5 .u8 a2 c2 (zs.drop (3 * m)) ∧ Below w.heap.size w w' := by
  have hle := hrd.le
  go_enter Tryz.func16, Tryz.ntmps16
  go_wp2_with (at_make; refine wpList_makeNI _ rfl _ _ 58 rfl w.heap.size 3 .i64 8 Tryz.underlying58 info3 m rfl rfl rfl rfl (by omega) (by unfold maxLen; omega) (Nat.le_refl _) ?_; intro g w1 hg ho1 hb1)
  go_loopw [25] (fun i wr => ∃ (k : Nat), k ≤ m ∧ i = .int .i64 k ∧ OwnI wr w.heap.size 3 .i64 (some ⟨g, 0, none⟩) m (getN zs k ++ List.replicate (m - k) 0) ∧ Below w.heap.size w wr) (fun i _ => m - (intOf i).toNat)
  case atStart => exact ⟨0, Nat.zero_le _, rfl, ho1, hb1⟩
  case round =>
    obtain ⟨k, hk, rfl, ho, hbel⟩ := hrel
    by_cases hlt : k < m
    · have hcut := (hrd.below hbel).cut (3 * k) (3 * (k + 1)) (by omega) (by omega)
      rw [if_neg (by omega), show 3 * (k + 1) - 3 * k = 3 by omega] at hcut
      have hf1 := ho.frozenAt k
      have hc1 := ho.cellAt k (by simp; omega)
      have hp := part3_bd zs (3 * k) hb
      have hp1 := hp.1
      have hp2 := hp.2
      have HST : Hid (OwnI (wr.setCell ⟨g, k, none⟩ (.int .i64 (rdN ((zs.drop (3 * k)).take 3)))) w.heap.size 3 .i64 (some ⟨g, 0, none⟩) m ((getN zs k ++ List.replicate (m - k) 0).set k (rdN ((zs.drop (3 * k)).take 3)))) := ho.stored k _
      rw [getN_step zs m k hlt] at HST
      clear hp
      go_wp2_with (go_at_call 36; refine (readForm_any _ _ _ _ _ hcut (by simp; omega) (by omega) (part_bd zs _ _ hb)).mono ?_; rintro e w' ⟨rfl, rfl⟩)
      go_roundw
      case rel => exact ⟨k + 1, by omega, by go_num, HST.out, hbel.setCell hg _⟩
      case measure => simp [intOf]; omega
    · have hkm : k = m := by omega
      subst hkm
      rw [Nat.sub_self, List.replicate_zero, List.append_nil] at ho
      go_wp2_with (go_at_call 37; refine (rest_any _ _ _ (3 * k) _ _ (hrd.below hbel) hn (by omega) hlen).mono ?_; rintro e w2 ⟨ao2, cap2, rfl, ho2, hb2⟩)
      go_ret3
      exact ⟨_, _, _, _, rfl, ho.below hb2, ho2.mono hbel.size, hbel.trans (hb2.mono hbel.size)⟩

end Go.Proofs.YtemldmjpanmdbaaGreatDoor

namespace Go.Proofs.YtemldmjpanmdbaaGreatDoor
open Go.RowKit
set_option linter.unusedVariables false

/-- The form of a complex number. -/
def valN (a b : Nat) : List Int := wrN 8 (formN a : Int) ++ wrN 8 (formN b : Int)

theorem valN_length (a b : Nat) : (valN a b).length = 16 := by simp [valN]

set_option maxHeartbeats 800000 in
theorem value_any (a b : Nat) (w : World) (ha : formN a < 18446744073709551616) (hb : formN b < 18446744073709551616) :
    Calls Tryz.prog 26 #[.complex .f64 a b] w fun e w' => ∃ ao cap, e = .returned (.slice ao 16 cap) ∧ OwnI w' w.heap.size 5 .u8 ao cap (valN a b) ∧ Below w.heap.size w w' := by
  go_enter Tryz.func26, Tryz.ntmps26
  go_wp2_with (first
    | (go_at_call 54; refine (bits_any _ _ _).mono ?_; rintro e w' ⟨rfl, hw⟩; subst w')
    | (at_make; go_loud (refine wpList_make0I _ rfl _ _ 29 rfl w.heap.size 5 .u8 (.int .u8 0) 1 Tryz.underlying29 info5 16 rfl rfl (by omega) (by omega) (by unfold maxLen; omega) (Nat.le_refl _) ?_); intro ao1 w1 ho1 hb1)
    | (go_at_call_of 53 (Value.int IntKind.u64 (formN a : Int)); refine (appendForm_any w.heap.size _ _ 0 [] (formN a : Int) 8 _ ho1 rfl (by omega) (by omega) (by omega) (by omega) hb1.size).mono ?_; rintro e w2 ⟨ao2, cap2, rfl, ho2, hb2⟩)
    | (go_at_call_of 53 (Value.int IntKind.u64 (formN b : Int)); refine (appendForm_any w.heap.size _ _ 8 _ (formN b : Int) 8 _ ho2 (by simp) (by omega) (by omega) (by omega) (by omega) (hb1.trans hb2).size).mono ?_; rintro e w3 ⟨ao3, cap3, rfl, ho3, hb3⟩))
  go_ret
  exact ⟨_, _, rfl, ho3, hb1.trans (hb2.trans hb3)⟩

set_option maxHeartbeats 800000 in
theorem take_short (ao : Option Addr) (cap n : Nat) (w : World) (h : n < 16) :
    Calls Tryz.prog 38 #[.slice ao n cap] w fun e w' => e = .returned (.tuple #[.complex .f64 0 0, .slice none 0 0, .int .i64 21]) ∧ w' = w := by
  go_enter Tryz.func38, Tryz.ntmps38
  go_wp2
  go_ret3
  exact ⟨rfl, rfl⟩

/-- The word of some bytes. -/
def rdW (l : List Int) : Nat := (rdN l).toNat

theorem readForm_w (ao : Option Addr) (cap n : Nat) (zs : List Int) (w : World) (hrd : RdI w .u8 ao cap zs) (hn : zs.length = n) (h8 : n ≤ 8)
    (hb : ∀ z ∈ zs, 0 ≤ z ∧ z < 256) :
    Calls Tryz.prog 36 #[.slice ao n cap] w fun e w' => e = .returned (.int .u64 (rdW zs : Int)) ∧ w' = w := by
  refine (readForm_any ao cap n zs w hrd hn h8 hb).mono ?_
  rintro e w' ⟨rfl, rfl⟩
  exact ⟨ret_int (by have := (rdN_bd zs hb).1; unfold rdW; omega), rfl⟩

set_option maxHeartbeats 200000 in
theorem take_long (ao : Option Addr) (cap n : Nat) (zs : List Int) (w : World) (hrd : RdI w .u8 ao cap zs) (hn : zs.length = n) (hb : ∀ z ∈ zs, 0 ≤ z ∧ z < 256) (h16 : 16 ≤ n) (hlen : n ≤ 140737488355328)
    (h1 : formN (rdW (zs.take 8)) = rdW (zs.take 8)) (h2 : formN (rdW ((zs.drop 8).take 8)) = rdW ((zs.drop 8).take 8)) :
    Calls Tryz.prog 38 #[.slice ao n cap] w fun e w' => ∃ a2 c2, e = .returned (.tuple #[.complex .f64 (rdW (zs.take 8)) (rdW ((zs.drop 8).take 8)), .slice a2 (n - 16) c2, .int .i64 0]) ∧ OwnI w' w.heap.size 5 .u8 a2 c2 (zs.drop 16) ∧ Below w.heap.size w w' := by
  have hle := hrd.le
  have hcut1 := hrd.head 8 (by omega)
  have hcut2 := hrd.cut 8 16 (by omega) (by omega)
  rw [if_neg (by omega)] at hcut2
  have hbA : ∀ z ∈ zs.take 8, 0 ≤ z ∧ z < 256 := fun z hz => hb z (List.mem_of_mem_take hz)
  have hbB := part_bd zs 8 8 hb
  have hl1 : (zs.take 8).length = 8 := by simp; omega
  have hl2 : ((zs.drop 8).take 8).length = 8 := by simp; omega
  go_enter Tryz.func38, Tryz.ntmps38
  go_wp2
  go_quiet ((first
    | (go_at_call_of 36 (Value.slice ao 8 cap); refine (readForm_w ao cap 8 (zs.take 8) _ ?_ hl1 (Nat.le_refl 8) hbA).mono ?_; exact hcut1.heap rfl; rintro e w' ⟨rfl, hw⟩; subst w'; exact ⟨rfl, _, rfl⟩)
    | (go_at_call 36; refine (readForm_w _ (cap - 8) 8 ((zs.drop 8).take 8) _ ?_ hl2 (Nat.le_refl 8) hbB).mono ?_; exact hcut2.heap rfl; rintro e w' ⟨rfl, hw⟩; subst w'; exact ⟨rfl, _, rfl⟩)))
  go_wp2_with (first
    | (go_at_call 64; refine (of_any _ _ _).mono ?_; rintro e w' ⟨rfl, hw⟩; subst w')
    | (go_at_call 54; refine (bits_any _ _ _).mono ?_; rintro e w' ⟨rfl, hw⟩; subst w')
    | (go_at_call 37; refine (rest_any ao cap n 16 zs _ ?_ hn h16 hlen).mono ?_; exact hrd.heap rfl; rintro e w2 ⟨ao2, cap2, rfl, ho2, hb2⟩))
  go_ret3
  exact ⟨_, _, rfl, ho2, ⟨hb2.os, hb2.tape, hb2.output, hb2.size, hb2.block⟩⟩

set_option maxHeartbeats 400000 in
theorem take_odd (ao : Option Addr) (cap n : Nat) (zs : List Int) (w : World) (hrd : RdI w .u8 ao cap zs) (hn : zs.length = n) (hb : ∀ z ∈ zs, 0 ≤ z ∧ z < 256) (h16 : 16 ≤ n) (hlen : n ≤ 140737488355328)
    (hbad : formN (rdW (zs.take 8)) ≠ rdW (zs.take 8) ∨ formN (rdW ((zs.drop 8).take 8)) ≠ rdW ((zs.drop 8).take 8)) :
    Calls Tryz.prog 38 #[.slice ao n cap] w fun e w' => e = .returned (.tuple #[.complex .f64 0 0, .slice none 0 0, .int .i64 21]) ∧ Below w.heap.size w w' := by
  have hle := hrd.le
  have hcut1 := hrd.head 8 (by omega)
  have hcut2 := hrd.cut 8 16 (by omega) (by omega)
  rw [if_neg (by omega)] at hcut2
  have hbA : ∀ z ∈ zs.take 8, 0 ≤ z ∧ z < 256 := fun z hz => hb z (List.mem_of_mem_take hz)
  have hbB := part_bd zs 8 8 hb
  have hl1 : (zs.take 8).length = 8 := by simp; omega
  have hl2 : ((zs.drop 8).take 8).length = 8 := by simp; omega
  by_cases h1 : formN (rdW (zs.take 8)) = rdW (zs.take 8)
  have h2 : ¬ formN (rdW ((zs.drop 8).take 8)) = rdW ((zs.drop 8).take 8) := by rcases hbad with h | h; exact absurd h1 h; exact h
  all_goals clear hbad
  all_goals go_enter Tryz.func38, Tryz.ntmps38
  all_goals go_wp2
  all_goals go_quiet ((first
    | (go_at_call_of 36 (Value.slice ao 8 cap); refine (readForm_w ao cap 8 (zs.take 8) _ ?_ hl1 (Nat.le_refl 8) hbA).mono ?_; exact hcut1.heap rfl; rintro e w' ⟨rfl, hw⟩; subst w'; exact ⟨rfl, _, rfl⟩)
    | (go_at_call 36; refine (readForm_w _ (cap - 8) 8 ((zs.drop 8).take 8) _ ?_ hl2 (Nat.le_refl 8) hbB).mono ?_; exact hcut2.heap rfl; rintro e w' ⟨rfl, hw⟩; subst w'; exact ⟨rfl, _, rfl⟩)))
  all_goals go_wp2_with (first
    | (go_at_call 64; refine (of_any _ _ _).mono ?_; rintro e w' ⟨rfl, hw⟩; subst w')
    | (go_at_call 54; refine (bits_any _ _ _).mono ?_; rintro e w' ⟨rfl, hw⟩; subst w')
    | (go_at_call 37; refine (rest_any ao cap n 16 zs _ ?_ hn h16 hlen).mono ?_; exact hrd.heap rfl; rintro e w2 ⟨ao2, cap2, rfl, ho2, hb2⟩))
  all_goals
    go_ret3
    exact ⟨rfl, ⟨rfl, rfl, rfl, Nat.le_refl _, fun _ _ => rfl⟩⟩

end Go.Proofs.YtemldmjpanmdbaaGreatDoor

namespace Go.Proofs.YtemldmjpanmdbaaGreatDoor
open Go.RowKit
set_option linter.unusedVariables false

theorem u8_bd {zs : List Int} (h : ∀ z ∈ zs, (Lit.int .u8 z).wf = true) : ∀ z ∈ zs, 0 ≤ z ∧ z < 256 := by
  intro z hz
  have := h z hz
  simp [Lit.wf, IntKind.min, IntKind.max, IntKind.bits, IntKind.signed] at this
  omega

theorem strOfNums_append (a b : List Int) : strOfNums a ++ strOfNums b = strOfNums (a ++ b) := by
  simp only [strOfNums]
  apply ByteArray.ext
  simp

theorem getN_bd (zs : List Int) (m : Nat) (hb : ∀ z ∈ zs, 0 ≤ z ∧ z < 256) : ∀ z ∈ getN zs m, 0 ≤ z ∧ z ≤ 16777215 := by
  intro z hz
  simp only [getN, List.mem_map] at hz
  obtain ⟨i, _, rfl⟩ := hz
  have := part3_bd zs (3 * i) hb
  omega

/-- What is read is just what would be written. -/
theorem forms_get (zs : List Int) (m : Nat) (hb : ∀ z ∈ zs, 0 ≤ z ∧ z < 256) (h : 3 * m ≤ zs.length) : formsN (getN zs m) = zs.take (3 * m) := by
  induction m with
  | zero => simp [formsN, getN]
  | succ m ih =>
    have e1 : getN zs (m + 1) = getN zs m ++ [rdN ((zs.drop (3 * m)).take 3)] := by simp [getN, List.range_succ]
    have e2 : formsN (getN zs m ++ [rdN ((zs.drop (3 * m)).take 3)]) = formsN (getN zs m) ++ wrN 3 (rdN ((zs.drop (3 * m)).take 3)) := by
      unfold formsN; rw [List.flatMap_append]; simp only [List.flatMap_cons, List.flatMap_nil, List.append_nil]
    rw [e1, e2, ih (by omega), wrN_rdN 3 _ (by simp; omega) (part_bd zs _ _ hb), show 3 * (m + 1) = 3 * m + 3 by omega, List.take_add]

theorem val_take (zs : List Int) (hb : ∀ z ∈ zs, 0 ≤ z ∧ z < 256) (h : 16 ≤ zs.length)
    (h1 : formN (rdW (zs.take 8)) = rdW (zs.take 8)) (h2 : formN (rdW ((zs.drop 8).take 8)) = rdW ((zs.drop 8).take 8)) :
    valN (rdW (zs.take 8)) (rdW ((zs.drop 8).take 8)) = zs.take 16 := by
  have hbA : ∀ z ∈ zs.take 8, 0 ≤ z ∧ z < 256 := fun z hz => hb z (List.mem_of_mem_take hz)
  have hbB := part_bd zs 8 8 hb
  have c1 : ((rdW (zs.take 8) : Nat) : Int) = rdN (zs.take 8) := by have := (rdN_bd _ hbA).1; unfold rdW; omega
  have c2 : ((rdW ((zs.drop 8).take 8) : Nat) : Int) = rdN ((zs.drop 8).take 8) := by have := (rdN_bd _ hbB).1; unfold rdW; omega
  unfold valN
  rw [h1, h2, c1, c2, wrN_rdN 8 _ (by simp; omega) hbA, wrN_rdN 8 _ (by simp; omega) hbB, show 16 = 8 + 8 by omega, List.take_add]

theorem rdW_lt (zs : List Int) (hb : ∀ z ∈ zs, 0 ≤ z ∧ z < 256) (h : zs.length = 8) : rdW zs < 18446744073709551616 := by
  have := rdN_bd zs hb
  rw [h] at this
  have e : (256 : Int) ^ 8 = 18446744073709551616 := by decide
  unfold rdW; omega

theorem str_get (zs : List Int) (m : Nat) (hb : ∀ z ∈ zs, 0 ≤ z ∧ z < 256) (h : 3 * m ≤ zs.length) : strOfNums (formsN (getN zs m)) ++ strOfNums (zs.drop (3 * m)) = strOfNums zs := by
  rw [strOfNums_append, forms_get zs m hb h, List.take_append_drop]

theorem str_take (zs : List Int) (hb : ∀ z ∈ zs, 0 ≤ z ∧ z < 256) (h : 16 ≤ zs.length)
    (h1 : formN (rdW (zs.take 8)) = rdW (zs.take 8)) (h2 : formN (rdW ((zs.drop 8).take 8)) = rdW ((zs.drop 8).take 8)) :
    strOfNums (valN (rdW (zs.take 8)) (rdW ((zs.drop 8).take 8))) ++ strOfNums (zs.drop 16) = strOfNums zs := by
  rw [strOfNums_append, val_take zs hb h h1 h2, List.take_append_drop]

end Go.Proofs.YtemldmjpanmdbaaGreatDoor
