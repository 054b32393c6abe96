/- What the document's answer for package pack does, walked. What the document's answers for packages cnum and pack do, walked: numbers' bits, and values. What the document's answer for package pack does, walked: a value's bytes. What the document's answer for package pack does, walked: the value with which bytes begin. -/
import Derived.Test.YtemldmjpanmdbaaGreatDoorA2
import Derived.Deep.RegionHeldLaw
import Derived.Test.YtemldmjpanmdbaaGreatDoorA3
import Derived.Deep.QuietTactic
import Derived.BigQuiet
import Derived.Deep.DeepCutAuto
import Derived.Deep.CutBlock
namespace Go.Proofs.YtemldmjpanmdbaaGreatDoor
open Go.RowKit
set_option linter.unusedVariables false

theorem wr3 (z : Int) (h0 : 0 ≤ z) (h1 : z ≤ 16777215) : [z / 65536, z / 256 % 256, z % 256] = wrN 3 z := by
  simp only [wrN, List.nil_append, List.cons_append]
  rw [show z / 65536 = z / 256 / 256 % 256 by omega]

set_option maxHeartbeats 800000 in
theorem refNums_good (ao : Option Addr) (cap n : Nat) (zs : List Int) (w : World) (hrd : RdI w .i64 ao cap zs) (hn : zs.length = n) (hlen : n * 8 ≤ 140737488355328) (hz : ∀ z ∈ zs, 0 ≤ z ∧ z ≤ 16777215) :
    Calls Tryz.prog 43 #[.slice ao n cap] w fun e w' => ∃ ao' cap', e = .returned (.tuple #[.slice ao' (3 * n) cap', .int .i64 0]) ∧ OwnI w' w.heap.size 5 .u8 ao' cap' (formsN zs) ∧ Below w.heap.size w w' := by
  have hle := hrd.le
  go_enter Tryz.func43, Tryz.ntmps43
  go_wp2
  go_loopw [4, 10] (fun t i wr => ∃ (k : Nat) (a : Option Addr) (c : Nat), k ≤ n ∧ i = .int .i64 k ∧ t = .slice a (3 * k) c ∧ OwnI wr w.heap.size 5 .u8 a c (formsN (zs.take k)) ∧ Below w.heap.size w wr) (fun _ i _ => n - (intOf i).toNat)
  case atStart => exact ⟨0, _, _, Nat.zero_le _, rfl, rfl, OwnI.fresh w _ _ _ (Nat.le_refl _), (Below.refl _ _).alloc (Nat.le_refl _) _⟩
  case round =>
    obtain ⟨k, a, c, hk, rfl, rfl, ho, hbel⟩ := hrel
    by_cases hlt : k < n
    · obtain ⟨b, off, rfl, _, hc⟩ := (hrd.below hbel).at (t := k) (by omega)
      have hc1 := hc k (by omega)
      have hzk := hz zs[k] (List.getElem_mem _)
      have hz1 := hzk.1
      have hz2 := hzk.2
      have hsz := hbel.size
      go_wp2_with (at_builtin; refine wpList_append_rdI _ rfl _ _ 29 rfl w.heap.size 5 .u8 (.int .u8 0) 1 Tryz.underlying29 info5 rfl rfl rfl (OwnI.alloc ho _) (RdI.built wr 5 .u8 _ 3 [_, _, _] rfl rfl (by decide)) (by rw [formsN_length, List.length_take]; omega) rfl (by omega) (by unfold maxLen; omega) (by simp; omega) ?_; intro ao2 cap2 w2 ho2 hb2)
      rw [wr3 _ hz1 hz2, formsN_snoc zs k (by omega)] at ho2
      go_roundw
      case rel => exact ⟨k + 1, _, _, by omega, by go_num, rfl, ho2, (hbel.alloc hsz _).trans hb2⟩
      case measure => simp [intOf]; omega
    · go_wp2
      go_ret2
      have : k = n := by omega
      subst this
      exact ⟨_, _, rfl, by rw [List.take_of_length_le (by omega)] at ho; exact ho, hbel⟩

set_option maxHeartbeats 800000 in
theorem refNums_bad (ao : Option Addr) (cap n : Nat) (zs : List Int) (w : World) (hrd : RdI w .i64 ao cap zs) (hn : zs.length = n) (hlen : n * 8 ≤ 140737488355328) (hbad : ¬ ∀ z ∈ zs, 0 ≤ z ∧ z ≤ 16777215) :
    Calls Tryz.prog 43 #[.slice ao n cap] w fun e w' => e = .returned (.tuple #[.slice none 0 0, .int .i64 21]) ∧ Below w.heap.size w w' := by
  have hle := hrd.le
  go_enter Tryz.func43, Tryz.ntmps43
  go_wp2
  go_loopw [4, 10] (fun t i wr => ∃ (k : Nat) (a : Option Addr) (c : Nat), k ≤ n ∧ i = .int .i64 k ∧ t = .slice a (3 * k) c ∧ OwnI wr w.heap.size 5 .u8 a c (formsN (zs.take k)) ∧ Below w.heap.size w wr ∧ ∀ z ∈ zs.take k, 0 ≤ z ∧ z ≤ 16777215) (fun _ i _ => n - (intOf i).toNat)
  case atStart => exact ⟨0, _, _, Nat.zero_le _, rfl, rfl, OwnI.fresh w _ _ _ (Nat.le_refl _), (Below.refl _ _).alloc (Nat.le_refl _) _, by simp⟩
  case round =>
    obtain ⟨k, a, c, hk, rfl, rfl, ho, hbel, hgd⟩ := hrel
    by_cases hlt : k < n
    · obtain ⟨b, off, rfl, _, hc⟩ := (hrd.below hbel).at (t := k) (by omega)
      have hc1 := hc k (by omega)
      have hsz := hbel.size
      have HB : Hid (¬ ∀ z ∈ zs, 0 ≤ z ∧ z ≤ 16777215) := hbad
      have HG : Hid (∀ z ∈ zs.take k, 0 ≤ z ∧ z ≤ 16777215) := hgd
      clear hbad hgd
      by_cases hz1 : 0 ≤ zs[k]
      · by_cases hz2 : zs[k] ≤ 16777215
        · go_wp2_with (at_builtin; refine wpList_append_rdI _ rfl _ _ 29 rfl w.heap.size 5 .u8 (.int .u8 0) 1 Tryz.underlying29 info5 rfl rfl rfl (OwnI.alloc ho _) (RdI.built wr 5 .u8 _ 3 [_, _, _] rfl rfl (by decide)) (by rw [formsN_length, List.length_take]; omega) rfl (by omega) (by unfold maxLen; omega) (by simp; omega) ?_; intro ao2 cap2 w2 ho2 hb2)
          rw [wr3 _ hz1 hz2, formsN_snoc zs k (by omega)] at ho2
          go_roundw
          case rel => exact ⟨k + 1, _, _, by omega, by go_num, rfl, ho2, (hbel.alloc hsz _).trans hb2, by
            rw [List.take_succ_eq_append_getElem (by omega)]
            intro z hz
            rcases List.mem_append.1 hz with h | h
            · exact HG.out z h
            · simp at h; subst h; exact ⟨hz1, hz2⟩⟩
          case measure => simp [intOf]; omega
        · go_wp2
          go_ret2
          exact ⟨rfl, hbel⟩
      · go_wp2
        go_ret2
        exact ⟨rfl, hbel⟩
    · exact absurd (by rwa [List.take_of_length_le (by omega)] at hgd) hbad

set_option maxHeartbeats 800000 in
theorem refGet_bad (ao : Option Addr) (cap n : Nat) (m : Int) (w : World) (hn : n ≤ 9223372036854775807) (hbad : m < 0 ∨ 1000 < m ∨ (n : Int) < 3 * m) :
    Calls Tryz.prog 18 #[.slice ao n cap, .int .i64 m] w fun e w' => e = .returned (.tuple #[.slice none 0 0, .slice none 0 0, .int .i64 21]) ∧ w' = w := by
  by_cases h1 : m < 0
  · clear hbad
    go_enter Tryz.func18, Tryz.ntmps18
    go_wp2
    go_ret3
    exact ⟨rfl, rfl⟩
  · by_cases h2 : 1000 < m
    · clear hbad
      go_enter Tryz.func18, Tryz.ntmps18
      go_wp2
      go_ret3
      exact ⟨rfl, rfl⟩
    · have h3 : (n : Int) < 3 * m := by omega
      clear hbad
      go_enter Tryz.func18, Tryz.ntmps18
      go_wp2
      go_ret3
      exact ⟨rfl, rfl⟩

theorem get3 (zs : List Int) (k : Nat) (h : 3 * k + 2 < zs.length) : rdN ((zs.drop (3 * k)).take 3) = 65536 * zs[3 * k] + 256 * zs[3 * k + 1] + zs[3 * k + 2] := by
  rw [List.drop_eq_getElem_cons (by omega), List.drop_eq_getElem_cons (by omega), List.drop_eq_getElem_cons (by omega)]
  simp only [List.take_succ_cons, List.take_zero, rdN, List.foldl_cons, List.foldl_nil]
  have e : zs[3 * k + 1 + 1] = zs[3 * k + 2] := rfl
  rw [e]
  omega

set_option maxHeartbeats 1600000 in
theorem refGet_good (ao : Option Addr) (cap n m : Nat) (zs : List Int) (w : World) (hrd : RdI w .u8 ao cap zs) (hn : zs.length = n) (hb : ∀ z ∈ zs, 0 ≤ z ∧ z < 256) (hm : m ≤ 1000) (hmn : 3 * m ≤ n) (hlen : n ≤ 140737488355328) :
    Calls Tryz.prog 18 #[.slice ao n cap, .int .i64 m] w fun e w' => ∃ a1 c1 a2 c2, e = .returned (.tuple #[.slice a1 m c1, .slice a2 (n - 3 * m) c2, .int .i64 0]) ∧
      OwnI w' w.heap.size 3 .i64 a1 c1 (getN zs m) ∧ OwnI w' w.heap.size 5 .u8 a2 c2 (zs.drop (3 * m)) ∧ Below w.heap.size w w' := by
  have hle := hrd.le
  go_enter Tryz.func18, Tryz.ntmps18
  go_wp2
  go_loopw [7, 8] (fun t i wr => ∃ (k : Nat) (a : Option Addr) (c : Nat), k ≤ m ∧ i = .int .i64 k ∧ t = .slice a k c ∧ OwnI wr w.heap.size 3 .i64 a c (getN zs k) ∧ Below w.heap.size w wr) (fun _ i _ => m - (intOf i).toNat)
  case atStart => exact ⟨0, _, _, Nat.zero_le _, rfl, rfl, OwnI.fresh w _ _ _ (Nat.le_refl _), (Below.refl _ _).alloc (Nat.le_refl _) _⟩
  case round =>
    obtain ⟨k, a, c, hk, rfl, rfl, ho, hbel⟩ := hrel
    by_cases hlt : k < m
    · obtain ⟨b, off, rfl, hbl, hc⟩ := hrd.at (t := 3 * k) (by omega)
      have hx0 : (0 : Int) ≤ 3 * (k : Int) := by omega
      have hx1 : 3 * (k : Int) < (n : Int) := by omega
      have hx2 : 3 * (k : Int) + 1 < (n : Int) := by omega
      have hx3 : 3 * (k : Int) + 2 < (n : Int) := by omega
      have hsz := hbel.size
      have hb0 := hb zs[3 * k] (List.getElem_mem _)
      have hb1 := hb zs[3 * k + 1] (List.getElem_mem _)
      have hb2 := hb zs[3 * k + 2] (List.getElem_mem _)
      have hS : Hid (∀ w', Below w.heap.size w w' → w'.cell? ⟨b, off + 3 * k, none⟩ = some (.int .u8 zs[3 * k]) ∧ w'.cell? ⟨b, off + (3 * k + 1), none⟩ = some (.int .u8 zs[3 * k + 1]) ∧ w'.cell? ⟨b, off + (3 * k + 2), none⟩ = some (.int .u8 zs[3 * k + 2])) :=
        fun w' h => ⟨(h.cell (p := ⟨b, off + 3 * k, none⟩) hbl).trans (hc _ (by omega)), (h.cell (p := ⟨b, off + (3 * k + 1), none⟩) hbl).trans (hc _ (by omega)), (h.cell (p := ⟨b, off + (3 * k + 2), none⟩) hbl).trans (hc _ (by omega))⟩
      have hS0 := hS.out _ hbel
      have hw1 : IntKind.i64.wrap (3 * (k : Int)) = 3 * (k : Int) := by rw [IntKind.wrap_i64]; omega
      have hw2 : IntKind.i64.wrap (3 * (k : Int) + 1) = 3 * (k : Int) + 1 := by rw [IntKind.wrap_i64]; omega
      have hw3 : IntKind.i64.wrap (3 * (k : Int) + 2) = 3 * (k : Int) + 2 := by rw [IntKind.wrap_i64]; omega
      have hw4 : IntKind.i64.wrap (65536 * zs[3 * k]) = 65536 * zs[3 * k] := by rw [IntKind.wrap_i64]; omega
      have hw5 : IntKind.i64.wrap (256 * zs[3 * k + 1]) = 256 * zs[3 * k + 1] := by rw [IntKind.wrap_i64]; omega
      have hw6 : IntKind.i64.wrap (65536 * zs[3 * k] + 256 * zs[3 * k + 1]) = 65536 * zs[3 * k] + 256 * zs[3 * k + 1] := by rw [IntKind.wrap_i64]; omega
      have hw7 : IntKind.i64.wrap (65536 * zs[3 * k] + 256 * zs[3 * k + 1] + zs[3 * k + 2]) = 65536 * zs[3 * k] + 256 * zs[3 * k + 1] + zs[3 * k + 2] := by rw [IntKind.wrap_i64]; omega
      have hn0 : IntKind.i64.wrap zs[3 * k] = zs[3 * k] := by rw [IntKind.wrap_i64]; omega
      have hn1 : IntKind.i64.wrap zs[3 * k + 1] = zs[3 * k + 1] := by rw [IntKind.wrap_i64]; omega
      have hn2 : IntKind.i64.wrap zs[3 * k + 2] = zs[3 * k + 2] := by rw [IntKind.wrap_i64]; omega
      have ht0 : (3 * (k : Int)).toNat = 3 * k := by omega
      have ht1 : (3 * (k : Int) + 1).toNat = 3 * k + 1 := by omega
      have ht2 : (3 * (k : Int) + 2).toNat = 3 * k + 2 := by omega
      have hx4 : (0 : Int) ≤ 3 * (k : Int) + 1 := by omega
      have hx5 : (0 : Int) ≤ 3 * (k : Int) + 2 := by omega
      have ho' : OwnI wr.drew w.heap.size 3 .i64 a c (getN zs k) := ho
      go_wp2
      first
        | go_region_held_law (fun w' => w'.cell? ⟨b, off + 3 * k, none⟩ = some (.int .u8 zs[3 * k]) ∧ w'.cell? ⟨b, off + (3 * k + 1), none⟩ = some (.int .u8 zs[3 * k + 1]) ∧ w'.cell? ⟨b, off + (3 * k + 2), none⟩ = some (.int .u8 zs[3 * k + 2]))
            (first | exact hS.out _ hbel.drew | exact hS.out _ (hbel.drew.alloc hsz _) | exact hS.out _ ((hbel.drew.alloc hsz _).trans hb3))
            ((refine step_append_rdI (n := k) (m := 1) _ (by rfl) _ _ _ (by rfl) w.heap.size 3 .i64 (.int .i64 0) 8 Tryz.underlying58 info3 rfl (by rfl) (by rfl) (OwnI.alloc ho' _) (RdI.one wr.drew _ _ _) (by simp) rfl (by omega) (by unfold maxLen; omega) (by simp; omega) ?_; intro ao3 cap3 w3 ho3 hb3))
        | fail
      have e3 : getN zs k ++ [65536 * zs[3 * k] + 256 * zs[3 * k + 1] + zs[3 * k + 2]] = getN zs (k + 1) := by rw [← get3 zs k (by omega)]; simp [getN, List.range_succ]
      rw [e3] at ho3
      clear hS0 hw1 hw2 hw3 hw4 hw5 hw6 hw7 hn0 hn1 hn2 ht0 ht1 ht2
      go_wp2
      go_roundw
      case rel => exact ⟨k + 1, _, _, by omega, by go_num, rfl, ho3, (hbel.drew.alloc hsz _).trans hb3⟩
      case measure => simp [intOf]; omega
    · have hkm : k = m := by omega
      subst hkm
      have hcut := (hrd.below hbel).tail (3 * k) (by omega)
      have hsz := hbel.size
      go_wp2_with (at_builtin; refine wpList_append_rdI _ rfl _ _ 29 rfl wr.heap.size 5 .u8 (.int .u8 0) 1 Tryz.underlying29 info5 rfl rfl rfl (OwnI.fresh wr _ _ _ (Nat.le_refl _)) (hcut.alloc _) rfl (by simp; omega) (by omega) (by unfold maxLen; omega) (by simp) ?_; intro ao2 cap2 w2 ho2 hb2)
      all_goals
        go_ret3
        exact ⟨_, _, _, _, rfl, ho.below (below_alloc hb2), ho2.mono hsz, below_step hbel (below_alloc hb2)⟩

end Go.Proofs.YtemldmjpanmdbaaGreatDoor

namespace Go.Proofs.YtemldmjpanmdbaaGreatDoor
open Go.RowKit
set_option linter.unusedVariables false

set_option maxHeartbeats 400000 in
theorem refBits_any (a b : Nat) (ha : a < 18446744073709551616) (hb : b < 18446744073709551616) (w : World) :
    Calls Tryz.prog 67 #[.complex .f64 a b] w fun e w' => e = .returned (.tuple #[.int .u64 (formN a : Int), .int .u64 (formN b : Int)]) ∧ w' = w := by
  have hf := bits_run
  go_enter Tryz.func67, Tryz.ntmps67
  go_wp2_with (first
    | (go_at_call_of 40 (Value.int IntKind.u64 (a : Int)); refine (refForm_any a ha _).mono ?_; rintro e w' ⟨rfl, hw⟩; subst w')
    | (go_at_call 40; refine (refForm_any b hb _).mono ?_; rintro e w' ⟨rfl, hw⟩; subst w'))
  go_ret2
  exact ⟨rfl, rfl⟩

set_option maxHeartbeats 400000 in
theorem refSame_any (x y : Nat × Nat) (hx : wordB x) (hy : wordB y) (w : World) :
    Calls Tryz.prog 45 #[.complex .f64 x.1 x.2, .complex .f64 y.1 y.2] w fun e w' => e = .returned (.bool (sameB x.1 x.2 y.1 y.2)) ∧ w' = w := by
  obtain ⟨a, b⟩ := x
  obtain ⟨c, d⟩ := y
  obtain ⟨h1, h2⟩ := hx
  obtain ⟨h3, h4⟩ := hy
  simp only at h1 h2 h3 h4 ⊢
  cases h : ((formN a : Int) == (formN c : Int))
  · go_enter Tryz.func45, Tryz.ntmps45
    go_wp2_with (first
      | (go_at_call_of 67 (Value.complex FloatKind.f64 a b); refine (refBits_any a b h1 h2 _).mono ?_; rintro e w' ⟨rfl, hw⟩; subst w')
      | (go_at_call 67; refine (refBits_any c d h3 h4 _).mono ?_; rintro e w' ⟨rfl, hw⟩; subst w'))
    go_ret
    exact ⟨ret_bool (by simp only [sameB, h, Bool.false_and]), rfl⟩
  · go_enter Tryz.func45, Tryz.ntmps45
    go_wp2_with (first
      | (go_at_call_of 67 (Value.complex FloatKind.f64 a b); refine (refBits_any a b h1 h2 _).mono ?_; rintro e w' ⟨rfl, hw⟩; subst w')
      | (go_at_call 67; refine (refBits_any c d h3 h4 _).mono ?_; rintro e w' ⟨rfl, hw⟩; subst w'))
    go_ret
    exact ⟨ret_bool (by simp only [sameB, h, Bool.true_and]), rfl⟩

set_option maxHeartbeats 400000 in
theorem refBitsOf_any (ao : Option Addr) (cap n : Nat) (zs : List Int) (w : World) (hrd : RdI w .u8 ao cap zs) (hn : zs.length = n) (h8 : n ≤ 8) (hb : ∀ z ∈ zs, 0 ≤ z ∧ z < 256) :
    Calls Tryz.prog 39 #[.slice ao n cap] w fun e w' => e = .returned (.int .u64 (rdW zs : Int)) ∧ w' = w := by
  have HB : Hid (∀ z ∈ zs, 0 ≤ z ∧ z < 256) := hb
  clear hb
  go_enter Tryz.func39, Tryz.ntmps39
  go_wp2
  go_loop [3, 8] (fun t i => ∃ k : Nat, k ≤ n ∧ i = .int .i64 k ∧ t = .int .u64 (rdN (zs.take k))) (fun _ i => n - (intOf i).toNat)
  case atStart => exact ⟨0, Nat.zero_le _, rfl, rfl⟩
  case round =>
    obtain ⟨k, hk, rfl, rfl⟩ := hrel
    by_cases hlt : k < n
    · obtain ⟨b, off, rfl, _, hc⟩ := hrd.at (t := k) (by omega)
      have hc1 := hc k (by omega)
      have h1 := rdN_bd (zs.take k) (fun z hz => HB.out z (List.mem_of_mem_take hz))
      have h2 := pow256_le (zs.take k).length 7 (by simp; omega)
      have e7 : (256 : Int) ^ 7 = 72057594037927936 := by decide
      have r0 : 0 ≤ rdN (zs.take k) := h1.1
      have r1 : rdN (zs.take k) < 72057594037927936 := by omega
      have h3 := HB.out zs[k] (List.getElem_mem _)
      have z0 : 0 ≤ zs[k] := h3.1
      have z1 : zs[k] < 256 := h3.2
      have HE : Hid (rdN (zs.take (k + 1)) = rdN (zs.take k) * 256 + zs[k]) := by rw [Hid, List.take_succ_eq_append_getElem (by omega), rdN_snoc]
      clear h1 h2 e7 h3 hc
      generalize rdN (zs.take k) = r at *
      generalize zs[k] = z at *
      go_wp2
      go_round
      case rel => exact ⟨k + 1, by omega, by go_num, by rw [HE.out]; congr 1; first | omega | (rw [Int.mul_comm])⟩
      case measure => simp [intOf]; omega
    · go_wp2
      go_ret
      refine ⟨ret_int ?_, rfl⟩
      have := (rdN_bd zs HB.out).1
      rw [List.take_of_length_le (by omega)]
      unfold rdW
      omega

end Go.Proofs.YtemldmjpanmdbaaGreatDoor

namespace Go.Proofs.YtemldmjpanmdbaaGreatDoor
open Go.RowKit
set_option linter.unusedVariables false

theorem wrN_cons (k : Nat) : ∀ v : Int, wrN (k + 1) v = [v / 256 ^ k % 256] ++ wrN k v := by
  induction k with
  | zero => intro v; simp [wrN]
  | succ k ih =>
    intro v
    have e : wrN (k + 1 + 1) v = wrN (k + 1) (v / 256) ++ [v % 256] := rfl
    rw [e, ih (v / 256)]
    have e2 : wrN (k + 1) v = wrN k (v / 256) ++ [v % 256] := rfl
    rw [e2, List.append_assoc, Int.pow_succ, Int.mul_comm (256 ^ k) 256, Int.ediv_ediv_of_nonneg (by omega)]

theorem OwnI.one (w : World) (base : Nat) (e : TypeId) (k : IntKind) (z : Int) (hb : base ≤ w.heap.size) : OwnI (w.alloc (.cells #[.int k z] e)) base e k (some ⟨w.heap.size, 0, none⟩) 1 [z] := OwnS.built w base e [.int k z] (by simp [maxLen]) hb

set_option maxHeartbeats 400000 in
theorem refPart_any (v : Int) (h0 : 0 ≤ v) (h1 : v < 18446744073709551616) (w : World) :
    Calls Tryz.prog 68 #[.int .u64 v] w fun e w' => ∃ ao cap, e = .returned (.slice ao 8 cap) ∧ OwnI w' w.heap.size 5 .u8 ao cap (wrN 8 v) ∧ Below w.heap.size w w' := by
  go_enter Tryz.func68, Tryz.ntmps68
  go_wp2
  go_loopw [0, 3, 4] (fun n t i wr => ∃ (k : Nat) (a : Option Addr) (c : Nat), k ≤ 8 ∧ i = .int .i64 k ∧ n = .int .u64 (v / 256 ^ k) ∧ t = .slice a k c ∧ OwnI wr w.heap.size 5 .u8 a c (wrN k v) ∧ Below w.heap.size w wr) (fun _ _ i _ => 8 - (intOf i).toNat)
  case atStart => exact ⟨0, _, _, Nat.zero_le _, rfl, by simp, rfl, OwnI.fresh w _ _ _ (Nat.le_refl _), below_box _ _⟩
  case round =>
    obtain ⟨k, a, c, hk, rfl, rfl, rfl, ho, hbel⟩ := hrel
    have hsz := hbel.size
    by_cases hlt : k < 8
    · have HC : Hid ([v / 256 ^ k % 256] ++ wrN k v = wrN (k + 1) v) := (wrN_cons k v).symm
      have HD : Hid (v / 256 ^ k / 256 = v / 256 ^ (k + 1)) := by
        rw [Hid, Int.pow_succ, Int.ediv_ediv_of_nonneg (Int.le_of_lt (Int.pow_pos (by omega)))]
      have hp : (0 : Int) < 256 ^ k := Int.pow_pos (by omega)
      have q0 : 0 ≤ v / 256 ^ k := Int.ediv_nonneg h0 (Int.le_of_lt hp)
      have q1 : v / 256 ^ k < 18446744073709551616 := Int.lt_of_le_of_lt (Int.ediv_le_self _ h0) h1
      clear hp
      generalize v / 256 ^ k = r at *
      go_wp2_with (first
        | (at_builtin; refine wpList_append_rdI _ rfl (.tmp 13) (.tmp 14) 29 rfl w.heap.size 5 .u8 (.int .u8 0) 1 Tryz.underlying29 info5 rfl rfl rfl (OwnI.one wr w.heap.size 5 .u8 _ hsz) (ho.alloc _).rd rfl (wrN_length k v) (by omega) (by unfold maxLen; omega) (by simp; omega) ?_; intro ao2 cap2 w2 ho2 hb2)
        | (fail))
      go_roundw
      case rel => exact ⟨k + 1, ao2, cap2, by omega, by go_num, by rw [← HD.out], by rw [Nat.add_comm], by rw [← HC.out]; exact ho2, (hbel.alloc hsz _).trans hb2⟩
      case measure => simp [intOf]; omega
    · obtain rfl : k = 8 := by omega
      go_wp2
      go_ret
      exact ⟨_, _, rfl, ho, hbel⟩

set_option maxHeartbeats 400000 in
theorem refValue_any (a b : Nat) (w : World) (ha : a < 18446744073709551616) (hb : b < 18446744073709551616) :
    Calls Tryz.prog 44 #[.complex .f64 a b] w fun e w' => ∃ ao cap, e = .returned (.slice ao 16 cap) ∧ OwnI w' w.heap.size 5 .u8 ao cap (valN a b) ∧ Below w.heap.size w w' := by
  have fa := formN_lt a ha
  have fb := formN_lt b hb
  go_enter Tryz.func44, Tryz.ntmps44
  go_wp2_with (first
    | (go_at_call 67; refine (refBits_any a b ha hb _).mono ?_; rintro e w' ⟨rfl, hw⟩; subst w')
    | (at_builtin; refine wpList_append_rdI _ rfl (.tmp 11) (.tmp 13) 29 rfl w.heap.size 5 .u8 (.int .u8 0) 1 Tryz.underlying29 info5 rfl rfl rfl (ho1.below hb2) ho2.rd (wrN_length 8 _) (wrN_length 8 _) (by omega) (by unfold maxLen; omega) (below_step hb1 hb2).size ?_; intro ao3 cap3 w3 ho3 hb3)
    | (go_at_call_of 68 (Value.int IntKind.u64 (formN a : Int)); refine (refPart_any (formN a : Int) (by omega) (by omega) w).mono ?_; rintro e w1 ⟨ao1, cap1, rfl, ho1, hb1⟩)
    | (go_at_call 68; refine (refPart_any (formN b : Int) (by omega) (by omega) _).mono ?_; rintro e w2 ⟨ao2, cap2, rfl, ho2, hb2⟩))
  go_ret
  exact ⟨_, _, rfl, ho3, (below_step hb1 hb2).trans hb3⟩

set_option maxHeartbeats 400000 in
theorem refTake_short (ao : Option Addr) (cap n : Nat) (w : World) (h : n < 16) :
    Calls Tryz.prog 19 #[.slice ao n cap] w fun e w' => e = .returned (.tuple #[.complex .f64 0 0, .slice none 0 0, .int .i64 21]) ∧ w' = w := by
  go_enter Tryz.func19, Tryz.ntmps19
  go_wp2
  go_ret3
  exact ⟨rfl, rfl⟩

end Go.Proofs.YtemldmjpanmdbaaGreatDoor

namespace Go.Proofs.YtemldmjpanmdbaaGreatDoor
open Go.RowKit
set_option linter.unusedVariables false

set_option maxRecDepth 100000 in
set_option maxHeartbeats 1600000 in
theorem refTake_long (ao : Option Addr) (cap n : Nat) (zs : List Int) (w : World) (hrd : RdI w .u8 ao cap zs) (hn : zs.length = n) (hb : ∀ z ∈ zs, 0 ≤ z ∧ z < 256) (h16 : 16 ≤ n) (hlen : n ≤ 140737488355328)
    (h1 : formN (rdW (zs.take 8)) = rdW (zs.take 8)) (h2 : formN (rdW ((zs.drop 8).take 8)) = rdW ((zs.drop 8).take 8)) :
    Calls Tryz.prog 19 #[.slice ao n cap] w fun e w' => ∃ a2 c2, e = .returned (.tuple #[.complex .f64 (rdW (zs.take 8)) (rdW ((zs.drop 8).take 8)), .slice a2 (n - 16) c2, .int .i64 0]) ∧ OwnI w' w.heap.size 5 .u8 a2 c2 (zs.drop 16) ∧ Below w.heap.size w w' := by
  have hfb := frombits_runI
  have hle := hrd.le
  have hcut1 := hrd.head 8 (by omega)
  have hcut2 := hrd.cut 8 16 (by omega) (by omega)
  have hcut3 := hrd.tail 16 (by omega)
  rw [if_neg (by omega)] at hcut2
  have hbA : ∀ z ∈ zs.take 8, 0 ≤ z ∧ z < 256 := fun z hz => hb z (List.mem_of_mem_take hz)
  have hbB := part_bd zs 8 8 hb
  have hl1 : (zs.take 8).length = 8 := by simp; omega
  have hl2 : ((zs.drop 8).take 8).length = 8 := by simp; omega
  have w1 := rdW_lt _ hbA hl1
  have w2 := rdW_lt _ hbB hl2
  have HA : Hid _ := hbA
  have HB : Hid _ := hbB
  have HH : Hid _ := hb
  clear hbA hbB hb
  generalize ea : rdW (zs.take 8) = ra at *
  generalize eb : rdW ((zs.drop 8).take 8) = rb at *
  have EA : Hid (rdW (zs.take 8) = ra) := ea
  have EB : Hid (rdW ((zs.drop 8).take 8) = rb) := eb
  clear ea eb
  go_enter Tryz.func19, Tryz.ntmps19
  go_wp2
  go_quiet ((first
    | (go_at_call_of 39 (Value.slice ao 8 cap); refine (refBitsOf_any ao cap 8 (zs.take 8) _ ?_ hl1 (Nat.le_refl 8) HA.out).mono ?_; exact hcut1.heap rfl; rw [EA.out]; rintro e w' ⟨rfl, hw⟩; subst w'; exact ⟨rfl, _, rfl⟩)
    | (go_at_call 39; refine (refBitsOf_any _ (cap - 8) 8 ((zs.drop 8).take 8) _ ?_ hl2 (Nat.le_refl 8) HB.out).mono ?_; exact hcut2.heap rfl; rw [EB.out]; rintro e w' ⟨rfl, hw⟩; subst w'; exact ⟨rfl, _, rfl⟩)))
  go_upto_region 6 with (first
    | (go_at_call_of 40 (Value.int IntKind.u64 (ra : Int)); refine (refForm_any ra w1 _).mono ?_; rw [h1]; rintro e w' ⟨rfl, hw⟩; subst w')
    | (go_at_call 40; refine (refForm_any rb w2 _).mono ?_; rw [h2]; rintro e w' ⟨rfl, hw⟩; subst w')
    | (fail))
  have hc3 := hcut3.heap (w' := w.drewN nq) rfl
  clear hcut1 hcut2 hcut3 hrd h1 h2
  generalize hW : w.drewN nq = W at *
  have HBW : Hid (Below w.heap.size w W) := by rw [← hW]; exact ⟨rfl, rfl, rfl, Nat.le_refl _, fun _ _ => rfl⟩
  have HSZ : Hid (W.heap.size = w.heap.size) := by rw [← hW]; rfl
  clear hW
  have hsz : w.heap.size ≤ W.heap.size := HBW.out.size
  have hc4 : RdI W.drew .u8 (if cap = 16 then ao else ao.map (fun x => x.add 16)) (cap - 16) (zs.drop 16) := hc3.drew
  have hl3 : (zs.drop 16).length = n - 16 := by simp; omega
  first
    | go_region_held_law (fun _ => True) (exact trivial)
        ((refine step_append_rdI (n := 0) (m := n - 16) _ (by rfl) _ _ _ (by rfl) w.heap.size 5 .u8 (.int .u8 0) 1 Tryz.underlying29 info5 rfl (by rfl) (by rfl) (OwnI.fresh W.drew _ _ _ hsz) (hc4.alloc _) rfl hl3 (by omega) (by unfold maxLen; omega) (by simp; omega) ?_; intro ao3 cap3 w3 ho3 hb3))
    | fail
  all_goals go_wp2
  all_goals
    go_ret3
    exact ⟨ao3, cap3, rfl, by simpa using ho3, (HBW.out.drew.alloc hsz _).trans hb3⟩

set_option maxHeartbeats 400000 in
theorem refTake_odd (ao : Option Addr) (cap n : Nat) (zs : List Int) (w : World) (hrd : RdI w .u8 ao cap zs) (hn : zs.length = n) (hb : ∀ z ∈ zs, 0 ≤ z ∧ z < 256) (h16 : 16 ≤ n)
    (hbad : formN (rdW (zs.take 8)) ≠ rdW (zs.take 8) ∨ formN (rdW ((zs.drop 8).take 8)) ≠ rdW ((zs.drop 8).take 8)) :
    Calls Tryz.prog 19 #[.slice ao n cap] w fun e w' => e = .returned (.tuple #[.complex .f64 0 0, .slice none 0 0, .int .i64 21]) ∧ Below w.heap.size w w' := by
  have hle := hrd.le
  have hcut1 := hrd.head 8 (by omega)
  have hcut2 := hrd.cut 8 16 (by omega) (by omega)
  rw [if_neg (by omega)] at hcut2
  have hbA : ∀ z ∈ zs.take 8, 0 ≤ z ∧ z < 256 := fun z hz => hb z (List.mem_of_mem_take hz)
  have hbB := part_bd zs 8 8 hb
  have hl1 : (zs.take 8).length = 8 := by simp; omega
  have hl2 : ((zs.drop 8).take 8).length = 8 := by simp; omega
  have w1 := rdW_lt _ hbA hl1
  have w2 := rdW_lt _ hbB hl2
  have HA : Hid _ := hbA
  have HB : Hid _ := hbB
  clear hbA hbB hb
  generalize ea : rdW (zs.take 8) = ra at *
  generalize eb : rdW ((zs.drop 8).take 8) = rb at *
  have EA : Hid (rdW (zs.take 8) = ra) := ea
  have EB : Hid (rdW ((zs.drop 8).take 8) = rb) := eb
  clear ea eb
  have HW : Hid (∀ j, Below w.heap.size w (w.drewN j)) := fun j => ⟨rfl, rfl, rfl, Nat.le_refl _, fun _ _ => rfl⟩
  by_cases h1 : formN ra = ra
  · have h2 : ((rb : Int) != (formN rb : Int)) = true := by
      rcases hbad with h | h
      · exact absurd h1 h
      · simp only [bne_iff_ne, ne_eq]; omega
    clear hbad
    go_enter Tryz.func19, Tryz.ntmps19
    go_wp2
    go_quiet ((first
      | (go_at_call_of 39 (Value.slice ao 8 cap); refine (refBitsOf_any ao cap 8 (zs.take 8) _ ?_ hl1 (Nat.le_refl 8) HA.out).mono ?_; exact hcut1.heap rfl; rw [EA.out]; rintro e w' ⟨rfl, hw⟩; subst w'; exact ⟨rfl, _, rfl⟩)
      | (go_at_call 39; refine (refBitsOf_any _ (cap - 8) 8 ((zs.drop 8).take 8) _ ?_ hl2 (Nat.le_refl 8) HB.out).mono ?_; exact hcut2.heap rfl; rw [EB.out]; rintro e w' ⟨rfl, hw⟩; subst w'; exact ⟨rfl, _, rfl⟩)))
    go_wp2_with (first
      | (go_at_call_of 40 (Value.int IntKind.u64 (ra : Int)); refine (refForm_any ra w1 _).mono ?_; rw [h1]; rintro e w' ⟨rfl, hw⟩; subst w')
      | (go_at_call 40; refine (refForm_any rb w2 _).mono ?_; rintro e w' ⟨rfl, hw⟩; subst w')
      | (fail))
    go_ret3
    exact ⟨rfl, HW.out _⟩
  · have h2 : ((ra : Int) != (formN ra : Int)) = true := by simp only [bne_iff_ne, ne_eq]; omega
    clear hbad h1
    go_enter Tryz.func19, Tryz.ntmps19
    go_wp2
    go_quiet ((first
      | (go_at_call_of 39 (Value.slice ao 8 cap); refine (refBitsOf_any ao cap 8 (zs.take 8) _ ?_ hl1 (Nat.le_refl 8) HA.out).mono ?_; exact hcut1.heap rfl; rw [EA.out]; rintro e w' ⟨rfl, hw⟩; subst w'; exact ⟨rfl, _, rfl⟩)
      | (go_at_call 39; refine (refBitsOf_any _ (cap - 8) 8 ((zs.drop 8).take 8) _ ?_ hl2 (Nat.le_refl 8) HB.out).mono ?_; exact hcut2.heap rfl; rw [EB.out]; rintro e w' ⟨rfl, hw⟩; subst w'; exact ⟨rfl, _, rfl⟩)))
    go_wp2_with (first
      | (go_at_call 40; refine (refForm_any ra w1 _).mono ?_; rintro e w' ⟨rfl, hw⟩; subst w')
      | (fail))
    go_ret3
    exact ⟨rfl, HW.out _⟩

theorem refTake_some (ao : Option Addr) (cap n m : Nat) (zs r : List Int) (c : Nat × Nat) (w : World) (hrd : RdI w .u8 ao cap zs) (hn : zs.length = n) (hb : ∀ z ∈ zs, 0 ≤ z ∧ z < 256) (hlen : n ≤ 140737488355328) (h : val1 zs = some (c, r)) (hm : r.length = m) :
    Calls Tryz.prog 19 #[.slice ao n cap] w fun e w' => ∃ a2 c2, e = .returned (.tuple #[.complex .f64 c.1 c.2, .slice a2 m c2, .int .i64 0]) ∧ OwnI w' w.heap.size 5 .u8 a2 c2 r ∧ Below w.heap.size w w' := by
  unfold val1 at h
  split at h
  · rename_i hc
    obtain ⟨h1, h2, h3⟩ := hc
    simp only [Option.some.injEq, Prod.mk.injEq] at h
    obtain ⟨rfl, rfl⟩ := h
    have : n - 16 = m := by simp at hm; omega
    subst this
    exact refTake_long ao cap n zs w hrd hn hb (by omega) hlen h2 h3
  · cases h

theorem refTake_none (ao : Option Addr) (cap n : Nat) (zs : List Int) (w : World) (hrd : RdI w .u8 ao cap zs) (hn : zs.length = n) (hb : ∀ z ∈ zs, 0 ≤ z ∧ z < 256) (hlen : n ≤ 140737488355328) (h : val1 zs = none) :
    Calls Tryz.prog 19 #[.slice ao n cap] w fun e w' => e = .returned (.tuple #[.complex .f64 0 0, .slice none 0 0, .int .i64 21]) ∧ Below w.heap.size w w' := by
  unfold val1 at h
  split at h
  · cases h
  · rename_i hc
    by_cases h1 : 16 ≤ zs.length
    · refine refTake_odd ao cap n zs w hrd hn hb (by omega) ?_
      by_cases h2 : formN (rdW (zs.take 8)) = rdW (zs.take 8)
      · exact .inr fun h3 => hc ⟨h1, h2, h3⟩
      · exact .inl h2
    · exact (refTake_short ao cap n w (by omega)).mono fun e w' he => ⟨he.1, by rw [he.2]; exact Below.refl _ _⟩

end Go.Proofs.YtemldmjpanmdbaaGreatDoor
