/- What the document's answer for package pack does, walked. -/
import Derived.Test.YtgeoeaadeemmcaaPk6
import Derived.Deep.RegionHeldLaw
namespace Go.Proofs.Ytgeoeaadeemmcaa
open Go.RowKit
set_option linter.unusedVariables false

theorem wr3 (z : Int) (h0 : 0 ≤ z) (h1 : z ≤ 16777215) : [z / 65536, z / 256 % 256, z % 256] = wrN 3 z := by
  simp only [wrN, List.nil_append, List.cons_append]
  rw [show z / 65536 = z / 256 / 256 % 256 by omega]

set_option maxHeartbeats 800000 in
theorem refNums_good (ao : Option Addr) (cap n : Nat) (zs : List Int) (w : World) (hrd : RdI w .i64 ao cap zs) (hn : zs.length = n) (hlen : n * 8 ≤ 140737488355328) (hz : ∀ z ∈ zs, 0 ≤ z ∧ z ≤ 16777215) :
    Calls Try.prog 34 #[.slice ao n cap] w fun e w' => ∃ ao' cap', e = .returned (.tuple #[.slice ao' (3 * n) cap', .int .i64 0]) ∧ OwnI w' w.heap.size 5 .u8 ao' cap' (formsN zs) ∧ Below w.heap.size w w' := by
  have hle := hrd.le
  go_enter Try.func34, Try.ntmps34
  go_wp2
  go_loopw [4, 10] (fun t i wr => ∃ (k : Nat) (a : Option Addr) (c : Nat), k ≤ n ∧ i = .int .i64 k ∧ t = .slice a (3 * k) c ∧ OwnI wr w.heap.size 5 .u8 a c (formsN (zs.take k)) ∧ Below w.heap.size w wr) (fun _ i _ => n - (intOf i).toNat)
  case atStart => exact ⟨0, _, _, Nat.zero_le _, rfl, rfl, OwnI.fresh w _ _ _ (Nat.le_refl _), (Below.refl _ _).alloc (Nat.le_refl _) _⟩
  case round =>
    obtain ⟨k, a, c, hk, rfl, rfl, ho, hbel⟩ := hrel
    by_cases hlt : k < n
    · obtain ⟨b, off, rfl, _, hc⟩ := (hrd.below hbel).at (t := k) (by omega)
      have hc1 := hc k (by omega)
      have hzk := hz zs[k] (List.getElem_mem _)
      have hz1 := hzk.1
      have hz2 := hzk.2
      have hsz := hbel.size
      go_wp2_with (at_builtin; refine wpList_append_rdI _ rfl _ _ 22 rfl w.heap.size 5 .u8 (.int .u8 0) 1 Try.underlying22 info5 rfl rfl rfl (OwnI.alloc ho _) (RdI.built wr 5 .u8 _ 3 [_, _, _] rfl rfl (by decide)) (by rw [formsN_length, List.length_take]; omega) rfl (by omega) (by unfold maxLen; omega) (by simp; omega) ?_; intro ao2 cap2 w2 ho2 hb2)
      rw [wr3 _ hz1 hz2, formsN_snoc zs k (by omega)] at ho2
      go_roundw
      case rel => exact ⟨k + 1, _, _, by omega, by go_num, rfl, ho2, (hbel.alloc hsz _).trans hb2⟩
      case measure => simp [intOf]; omega
    · go_wp2
      go_ret2
      have : k = n := by omega
      subst this
      exact ⟨_, _, rfl, by rw [List.take_of_length_le (by omega)] at ho; exact ho, hbel⟩

set_option maxHeartbeats 800000 in
theorem refNums_bad (ao : Option Addr) (cap n : Nat) (zs : List Int) (w : World) (hrd : RdI w .i64 ao cap zs) (hn : zs.length = n) (hlen : n * 8 ≤ 140737488355328) (hbad : ¬ ∀ z ∈ zs, 0 ≤ z ∧ z ≤ 16777215) :
    Calls Try.prog 34 #[.slice ao n cap] w fun e w' => e = .returned (.tuple #[.slice none 0 0, .int .i64 21]) ∧ Below w.heap.size w w' := by
  have hle := hrd.le
  go_enter Try.func34, Try.ntmps34
  go_wp2
  go_loopw [4, 10] (fun t i wr => ∃ (k : Nat) (a : Option Addr) (c : Nat), k ≤ n ∧ i = .int .i64 k ∧ t = .slice a (3 * k) c ∧ OwnI wr w.heap.size 5 .u8 a c (formsN (zs.take k)) ∧ Below w.heap.size w wr ∧ ∀ z ∈ zs.take k, 0 ≤ z ∧ z ≤ 16777215) (fun _ i _ => n - (intOf i).toNat)
  case atStart => exact ⟨0, _, _, Nat.zero_le _, rfl, rfl, OwnI.fresh w _ _ _ (Nat.le_refl _), (Below.refl _ _).alloc (Nat.le_refl _) _, by simp⟩
  case round =>
    obtain ⟨k, a, c, hk, rfl, rfl, ho, hbel, hgd⟩ := hrel
    by_cases hlt : k < n
    · obtain ⟨b, off, rfl, _, hc⟩ := (hrd.below hbel).at (t := k) (by omega)
      have hc1 := hc k (by omega)
      have hsz := hbel.size
      have HB : Hid (¬ ∀ z ∈ zs, 0 ≤ z ∧ z ≤ 16777215) := hbad
      have HG : Hid (∀ z ∈ zs.take k, 0 ≤ z ∧ z ≤ 16777215) := hgd
      clear hbad hgd
      by_cases hz1 : 0 ≤ zs[k]
      · by_cases hz2 : zs[k] ≤ 16777215
        · go_wp2_with (at_builtin; refine wpList_append_rdI _ rfl _ _ 22 rfl w.heap.size 5 .u8 (.int .u8 0) 1 Try.underlying22 info5 rfl rfl rfl (OwnI.alloc ho _) (RdI.built wr 5 .u8 _ 3 [_, _, _] rfl rfl (by decide)) (by rw [formsN_length, List.length_take]; omega) rfl (by omega) (by unfold maxLen; omega) (by simp; omega) ?_; intro ao2 cap2 w2 ho2 hb2)
          rw [wr3 _ hz1 hz2, formsN_snoc zs k (by omega)] at ho2
          go_roundw
          case rel => exact ⟨k + 1, _, _, by omega, by go_num, rfl, ho2, (hbel.alloc hsz _).trans hb2, by
            rw [List.take_succ_eq_append_getElem (by omega)]
            intro z hz
            rcases List.mem_append.1 hz with h | h
            · exact HG.out z h
            · simp at h; subst h; exact ⟨hz1, hz2⟩⟩
          case measure => simp [intOf]; omega
        · go_wp2
          go_ret2
          exact ⟨rfl, hbel⟩
      · go_wp2
        go_ret2
        exact ⟨rfl, hbel⟩
    · exact absurd (by rwa [List.take_of_length_le (by omega)] at hgd) hbad

set_option maxHeartbeats 800000 in
theorem refGet_bad (ao : Option Addr) (cap n : Nat) (m : Int) (w : World) (hn : n ≤ 9223372036854775807) (hbad : m < 0 ∨ 1000 < m ∨ (n : Int) < 3 * m) :
    Calls Try.prog 26 #[.slice ao n cap, .int .i64 m] w fun e w' => e = .returned (.tuple #[.slice none 0 0, .slice none 0 0, .int .i64 21]) ∧ w' = w := by
  by_cases h1 : m < 0
  · clear hbad
    go_enter Try.func26, Try.ntmps26
    go_wp2
    go_ret3
    exact ⟨rfl, rfl⟩
  · by_cases h2 : 1000 < m
    · clear hbad
      go_enter Try.func26, Try.ntmps26
      go_wp2
      go_ret3
      exact ⟨rfl, rfl⟩
    · have h3 : (n : Int) < 3 * m := by omega
      clear hbad
      go_enter Try.func26, Try.ntmps26
      go_wp2
      go_ret3
      exact ⟨rfl, rfl⟩

theorem get3 (zs : List Int) (k : Nat) (h : 3 * k + 2 < zs.length) : rdN ((zs.drop (3 * k)).take 3) = 65536 * zs[3 * k] + 256 * zs[3 * k + 1] + zs[3 * k + 2] := by
  rw [List.drop_eq_getElem_cons (by omega), List.drop_eq_getElem_cons (by omega), List.drop_eq_getElem_cons (by omega)]
  simp only [List.take_succ_cons, List.take_zero, rdN, List.foldl_cons, List.foldl_nil]
  have e : zs[3 * k + 1 + 1] = zs[3 * k + 2] := rfl
  rw [e]
  omega

set_option maxHeartbeats 1600000 in
theorem refGet_good (ao : Option Addr) (cap n m : Nat) (zs : List Int) (w : World) (hrd : RdI w .u8 ao cap zs) (hn : zs.length = n) (hb : ∀ z ∈ zs, 0 ≤ z ∧ z < 256) (hm : m ≤ 1000) (hmn : 3 * m ≤ n) (hlen : n ≤ 140737488355328) :
    Calls Try.prog 26 #[.slice ao n cap, .int .i64 m] w fun e w' => ∃ a1 c1 a2 c2, e = .returned (.tuple #[.slice a1 m c1, .slice a2 (n - 3 * m) c2, .int .i64 0]) ∧
      OwnI w' w.heap.size 3 .i64 a1 c1 (getN zs m) ∧ OwnI w' w.heap.size 5 .u8 a2 c2 (zs.drop (3 * m)) ∧ Below w.heap.size w w' := by
  have hle := hrd.le
  go_enter Try.func26, Try.ntmps26
  go_wp2
  go_loopw [7, 8] (fun t i wr => ∃ (k : Nat) (a : Option Addr) (c : Nat), k ≤ m ∧ i = .int .i64 k ∧ t = .slice a k c ∧ OwnI wr w.heap.size 3 .i64 a c (getN zs k) ∧ Below w.heap.size w wr) (fun _ i _ => m - (intOf i).toNat)
  case atStart => exact ⟨0, _, _, Nat.zero_le _, rfl, rfl, OwnI.fresh w _ _ _ (Nat.le_refl _), (Below.refl _ _).alloc (Nat.le_refl _) _⟩
  case round =>
    obtain ⟨k, a, c, hk, rfl, rfl, ho, hbel⟩ := hrel
    by_cases hlt : k < m
    · obtain ⟨b, off, rfl, hbl, hc⟩ := hrd.at (t := 3 * k) (by omega)
      have hx0 : (0 : Int) ≤ 3 * (k : Int) := by omega
      have hx1 : 3 * (k : Int) < (n : Int) := by omega
      have hx2 : 3 * (k : Int) + 1 < (n : Int) := by omega
      have hx3 : 3 * (k : Int) + 2 < (n : Int) := by omega
      have hsz := hbel.size
      have hb0 := hb zs[3 * k] (List.getElem_mem _)
      have hb1 := hb zs[3 * k + 1] (List.getElem_mem _)
      have hb2 := hb zs[3 * k + 2] (List.getElem_mem _)
      have hS : Hid (∀ w', Below w.heap.size w w' → w'.cell? ⟨b, off + 3 * k, none⟩ = some (.int .u8 zs[3 * k]) ∧ w'.cell? ⟨b, off + (3 * k + 1), none⟩ = some (.int .u8 zs[3 * k + 1]) ∧ w'.cell? ⟨b, off + (3 * k + 2), none⟩ = some (.int .u8 zs[3 * k + 2])) :=
        fun w' h => ⟨(h.cell (p := ⟨b, off + 3 * k, none⟩) hbl).trans (hc _ (by omega)), (h.cell (p := ⟨b, off + (3 * k + 1), none⟩) hbl).trans (hc _ (by omega)), (h.cell (p := ⟨b, off + (3 * k + 2), none⟩) hbl).trans (hc _ (by omega))⟩
      have hS0 := hS.out _ hbel
      have hw1 : IntKind.i64.wrap (3 * (k : Int)) = 3 * (k : Int) := by rw [IntKind.wrap_i64]; omega
      have hw2 : IntKind.i64.wrap (3 * (k : Int) + 1) = 3 * (k : Int) + 1 := by rw [IntKind.wrap_i64]; omega
      have hw3 : IntKind.i64.wrap (3 * (k : Int) + 2) = 3 * (k : Int) + 2 := by rw [IntKind.wrap_i64]; omega
      have hw4 : IntKind.i64.wrap (65536 * zs[3 * k]) = 65536 * zs[3 * k] := by rw [IntKind.wrap_i64]; omega
      have hw5 : IntKind.i64.wrap (256 * zs[3 * k + 1]) = 256 * zs[3 * k + 1] := by rw [IntKind.wrap_i64]; omega
      have hw6 : IntKind.i64.wrap (65536 * zs[3 * k] + 256 * zs[3 * k + 1]) = 65536 * zs[3 * k] + 256 * zs[3 * k + 1] := by rw [IntKind.wrap_i64]; omega
      have hw7 : IntKind.i64.wrap (65536 * zs[3 * k] + 256 * zs[3 * k + 1] + zs[3 * k + 2]) = 65536 * zs[3 * k] + 256 * zs[3 * k + 1] + zs[3 * k + 2] := by rw [IntKind.wrap_i64]; omega
      have hn0 : IntKind.i64.wrap zs[3 * k] = zs[3 * k] := by rw [IntKind.wrap_i64]; omega
      have hn1 : IntKind.i64.wrap zs[3 * k + 1] = zs[3 * k + 1] := by rw [IntKind.wrap_i64]; omega
      have hn2 : IntKind.i64.wrap zs[3 * k + 2] = zs[3 * k + 2] := by rw [IntKind.wrap_i64]; omega
      have ht0 : (3 * (k : Int)).toNat = 3 * k := by omega
      have ht1 : (3 * (k : Int) + 1).toNat = 3 * k + 1 := by omega
      have ht2 : (3 * (k : Int) + 2).toNat = 3 * k + 2 := by omega
      have hx4 : (0 : Int) ≤ 3 * (k : Int) + 1 := by omega
      have hx5 : (0 : Int) ≤ 3 * (k : Int) + 2 := by omega
      have ho' : OwnI wr.drew w.heap.size 3 .i64 a c (getN zs k) := ho
      go_wp2
      first
        | go_region_held_law (fun w' => w'.cell? ⟨b, off + 3 * k, none⟩ = some (.int .u8 zs[3 * k]) ∧ w'.cell? ⟨b, off + (3 * k + 1), none⟩ = some (.int .u8 zs[3 * k + 1]) ∧ w'.cell? ⟨b, off + (3 * k + 2), none⟩ = some (.int .u8 zs[3 * k + 2]))
            (first | exact hS.out _ hbel.drew | exact hS.out _ (hbel.drew.alloc hsz _) | exact hS.out _ ((hbel.drew.alloc hsz _).trans hb3))
            ((refine step_append_rdI (n := k) (m := 1) _ (by rfl) _ _ _ (by rfl) w.heap.size 3 .i64 (.int .i64 0) 8 Try.underlying57 info3 rfl (by rfl) (by rfl) (OwnI.alloc ho' _) (RdI.one wr.drew _ _ _) (by simp) rfl (by omega) (by unfold maxLen; omega) (by simp; omega) ?_; intro ao3 cap3 w3 ho3 hb3))
        | fail
      have e3 : getN zs k ++ [65536 * zs[3 * k] + 256 * zs[3 * k + 1] + zs[3 * k + 2]] = getN zs (k + 1) := by rw [← get3 zs k (by omega)]; simp [getN, List.range_succ]
      rw [e3] at ho3
      clear hS0 hw1 hw2 hw3 hw4 hw5 hw6 hw7 hn0 hn1 hn2 ht0 ht1 ht2
      go_wp2
      go_roundw
      case rel => exact ⟨k + 1, _, _, by omega, by go_num, rfl, ho3, (hbel.drew.alloc hsz _).trans hb3⟩
      case measure => simp [intOf]; omega
    · have hkm : k = m := by omega
      subst hkm
      have hcut := (hrd.below hbel).tail (3 * k) (by omega)
      have hsz := hbel.size
      go_wp2_with (at_builtin; refine wpList_append_rdI _ rfl _ _ 22 rfl wr.heap.size 5 .u8 (.int .u8 0) 1 Try.underlying22 info5 rfl rfl rfl (OwnI.fresh wr _ _ _ (Nat.le_refl _)) (hcut.alloc _) rfl (by simp; omega) (by omega) (by unfold maxLen; omega) (by simp) ?_; intro ao2 cap2 w2 ho2 hb2)
      all_goals
        go_ret3
        exact ⟨_, _, _, _, rfl, ho.below (below_alloc hb2), ho2.mono hsz, below_step hbel (below_alloc hb2)⟩

end Go.Proofs.Ytgeoeaadeemmcaa
