/- What the document's answer for package pack does, walked: the value with which bytes begin. -/
import Derived.Test.YtgeoeaadeemmcaaN2
import Derived.Deep.DeepCutAuto
import Derived.Deep.CutBlock
namespace Go.Proofs.Ytgeoeaadeemmcaa
open Go.RowKit
set_option linter.unusedVariables false

set_option maxHeartbeats 800000 in
theorem refTake_long (ao : Option Addr) (cap n : Nat) (zs : List Int) (w : World) (hrd : RdI w .u8 ao cap zs) (hn : zs.length = n) (hb : ∀ z ∈ zs, 0 ≤ z ∧ z < 256) (h16 : 16 ≤ n) (hlen : n ≤ 140737488355328)
    (h1 : formN (rdW (zs.take 8)) = rdW (zs.take 8)) (h2 : formN (rdW ((zs.drop 8).take 8)) = rdW ((zs.drop 8).take 8)) :
    Calls Try.prog 27 #[.slice ao n cap] w fun e w' => ∃ a2 c2, e = .returned (.tuple #[.complex .f64 (rdW (zs.take 8)) (rdW ((zs.drop 8).take 8)), .slice a2 (n - 16) c2, .int .i64 0]) ∧ OwnI w' w.heap.size 5 .u8 a2 c2 (zs.drop 16) ∧ Below w.heap.size w w' := by
  have hfb := frombits_runI
  have hle := hrd.le
  have hcut1 := hrd.head 8 (by omega)
  have hcut2 := hrd.cut 8 16 (by omega) (by omega)
  have hcut3 := hrd.tail 16 (by omega)
  rw [if_neg (by omega)] at hcut2
  have hbA : ∀ z ∈ zs.take 8, 0 ≤ z ∧ z < 256 := fun z hz => hb z (List.mem_of_mem_take hz)
  have hbB := part_bd zs 8 8 hb
  have hl1 : (zs.take 8).length = 8 := by simp; omega
  have hl2 : ((zs.drop 8).take 8).length = 8 := by simp; omega
  have w1 := rdW_lt _ hbA hl1
  have w2 := rdW_lt _ hbB hl2
  have HA : Hid _ := hbA
  have HB : Hid _ := hbB
  have HH : Hid _ := hb
  clear hbA hbB hb
  generalize ea : rdW (zs.take 8) = ra at *
  generalize eb : rdW ((zs.drop 8).take 8) = rb at *
  have EA : Hid (rdW (zs.take 8) = ra) := ea
  have EB : Hid (rdW ((zs.drop 8).take 8) = rb) := eb
  clear ea eb
  go_enter Try.func27, Try.ntmps27
  go_wp2
  go_quiet ((first
    | (go_at_call_of 50 (Value.slice ao 8 cap); refine (refBitsOf_any ao cap 8 (zs.take 8) _ ?_ hl1 (Nat.le_refl 8) HA.out).mono ?_; exact hcut1.heap rfl; rw [EA.out]; rintro e w' ⟨rfl, hw⟩; subst w'; exact ⟨rfl, _, rfl⟩)
    | (go_at_call 50; refine (refBitsOf_any _ (cap - 8) 8 ((zs.drop 8).take 8) _ ?_ hl2 (Nat.le_refl 8) HB.out).mono ?_; exact hcut2.heap rfl; rw [EB.out]; rintro e w' ⟨rfl, hw⟩; subst w'; exact ⟨rfl, _, rfl⟩)))
  go_upto_region 6 with (first
    | (go_at_call_of 51 (Value.int IntKind.u64 (ra : Int)); refine (refForm_any ra w1 _).mono ?_; rw [h1]; rintro e w' ⟨rfl, hw⟩; subst w')
    | (go_at_call 51; refine (refForm_any rb w2 _).mono ?_; rw [h2]; rintro e w' ⟨rfl, hw⟩; subst w')
    | (fail))
  have hc3 := hcut3.heap (w' := w.drewN nq) rfl
  clear hcut1 hcut2 hcut3 hrd h1 h2
  generalize hW : w.drewN nq = W at *
  have HBW : Hid (Below w.heap.size w W) := by rw [← hW]; exact ⟨rfl, rfl, rfl, Nat.le_refl _, fun _ _ => rfl⟩
  have HSZ : Hid (W.heap.size = w.heap.size) := by rw [← hW]; rfl
  clear hW
  have hsz : w.heap.size ≤ W.heap.size := HBW.out.size
  have hc4 : RdI W.drew .u8 (if cap = 16 then ao else ao.map (fun x => x.add 16)) (cap - 16) (zs.drop 16) := hc3.drew
  have hl3 : (zs.drop 16).length = n - 16 := by simp; omega
  first
    | go_region_held_law (fun _ => True) (exact trivial)
        ((refine step_append_rdI (n := 0) (m := n - 16) _ (by rfl) _ _ _ (by rfl) w.heap.size 5 .u8 (.int .u8 0) 1 Try.underlying22 info5 rfl (by rfl) (by rfl) (OwnI.fresh W.drew _ _ _ hsz) (hc4.alloc _) rfl hl3 (by omega) (by unfold maxLen; omega) (by simp; omega) ?_; intro ao3 cap3 w3 ho3 hb3))
    | fail
  all_goals go_wp2
  all_goals
    go_ret3
    exact ⟨ao3, cap3, rfl, by simpa using ho3, (HBW.out.drew.alloc hsz _).trans hb3⟩

set_option maxHeartbeats 400000 in
theorem refTake_odd (ao : Option Addr) (cap n : Nat) (zs : List Int) (w : World) (hrd : RdI w .u8 ao cap zs) (hn : zs.length = n) (hb : ∀ z ∈ zs, 0 ≤ z ∧ z < 256) (h16 : 16 ≤ n)
    (hbad : formN (rdW (zs.take 8)) ≠ rdW (zs.take 8) ∨ formN (rdW ((zs.drop 8).take 8)) ≠ rdW ((zs.drop 8).take 8)) :
    Calls Try.prog 27 #[.slice ao n cap] w fun e w' => e = .returned (.tuple #[.complex .f64 0 0, .slice none 0 0, .int .i64 21]) ∧ Below w.heap.size w w' := by
  have hle := hrd.le
  have hcut1 := hrd.head 8 (by omega)
  have hcut2 := hrd.cut 8 16 (by omega) (by omega)
  rw [if_neg (by omega)] at hcut2
  have hbA : ∀ z ∈ zs.take 8, 0 ≤ z ∧ z < 256 := fun z hz => hb z (List.mem_of_mem_take hz)
  have hbB := part_bd zs 8 8 hb
  have hl1 : (zs.take 8).length = 8 := by simp; omega
  have hl2 : ((zs.drop 8).take 8).length = 8 := by simp; omega
  have w1 := rdW_lt _ hbA hl1
  have w2 := rdW_lt _ hbB hl2
  have HA : Hid _ := hbA
  have HB : Hid _ := hbB
  clear hbA hbB hb
  generalize ea : rdW (zs.take 8) = ra at *
  generalize eb : rdW ((zs.drop 8).take 8) = rb at *
  have EA : Hid (rdW (zs.take 8) = ra) := ea
  have EB : Hid (rdW ((zs.drop 8).take 8) = rb) := eb
  clear ea eb
  have HW : Hid (∀ j, Below w.heap.size w (w.drewN j)) := fun j => ⟨rfl, rfl, rfl, Nat.le_refl _, fun _ _ => rfl⟩
  by_cases h1 : formN ra = ra
  · have h2 : ((rb : Int) != (formN rb : Int)) = true := by
      rcases hbad with h | h
      · exact absurd h1 h
      · simp only [bne_iff_ne, ne_eq]; omega
    clear hbad
    go_enter Try.func27, Try.ntmps27
    go_wp2
    go_quiet ((first
      | (go_at_call_of 50 (Value.slice ao 8 cap); refine (refBitsOf_any ao cap 8 (zs.take 8) _ ?_ hl1 (Nat.le_refl 8) HA.out).mono ?_; exact hcut1.heap rfl; rw [EA.out]; rintro e w' ⟨rfl, hw⟩; subst w'; exact ⟨rfl, _, rfl⟩)
      | (go_at_call 50; refine (refBitsOf_any _ (cap - 8) 8 ((zs.drop 8).take 8) _ ?_ hl2 (Nat.le_refl 8) HB.out).mono ?_; exact hcut2.heap rfl; rw [EB.out]; rintro e w' ⟨rfl, hw⟩; subst w'; exact ⟨rfl, _, rfl⟩)))
    go_wp2_with (first
      | (go_at_call_of 51 (Value.int IntKind.u64 (ra : Int)); refine (refForm_any ra w1 _).mono ?_; rw [h1]; rintro e w' ⟨rfl, hw⟩; subst w')
      | (go_at_call 51; refine (refForm_any rb w2 _).mono ?_; rintro e w' ⟨rfl, hw⟩; subst w')
      | (fail))
    go_ret3
    exact ⟨rfl, HW.out _⟩
  · have h2 : ((ra : Int) != (formN ra : Int)) = true := by simp only [bne_iff_ne, ne_eq]; omega
    clear hbad h1
    go_enter Try.func27, Try.ntmps27
    go_wp2
    go_quiet ((first
      | (go_at_call_of 50 (Value.slice ao 8 cap); refine (refBitsOf_any ao cap 8 (zs.take 8) _ ?_ hl1 (Nat.le_refl 8) HA.out).mono ?_; exact hcut1.heap rfl; rw [EA.out]; rintro e w' ⟨rfl, hw⟩; subst w'; exact ⟨rfl, _, rfl⟩)
      | (go_at_call 50; refine (refBitsOf_any _ (cap - 8) 8 ((zs.drop 8).take 8) _ ?_ hl2 (Nat.le_refl 8) HB.out).mono ?_; exact hcut2.heap rfl; rw [EB.out]; rintro e w' ⟨rfl, hw⟩; subst w'; exact ⟨rfl, _, rfl⟩)))
    go_wp2_with (first
      | (go_at_call 51; refine (refForm_any ra w1 _).mono ?_; rintro e w' ⟨rfl, hw⟩; subst w')
      | (fail))
    go_ret3
    exact ⟨rfl, HW.out _⟩

theorem refTake_some (ao : Option Addr) (cap n m : Nat) (zs r : List Int) (c : Nat × Nat) (w : World) (hrd : RdI w .u8 ao cap zs) (hn : zs.length = n) (hb : ∀ z ∈ zs, 0 ≤ z ∧ z < 256) (hlen : n ≤ 140737488355328) (h : val1 zs = some (c, r)) (hm : r.length = m) :
    Calls Try.prog 27 #[.slice ao n cap] w fun e w' => ∃ a2 c2, e = .returned (.tuple #[.complex .f64 c.1 c.2, .slice a2 m c2, .int .i64 0]) ∧ OwnI w' w.heap.size 5 .u8 a2 c2 r ∧ Below w.heap.size w w' := by
  unfold val1 at h
  split at h
  · rename_i hc
    obtain ⟨h1, h2, h3⟩ := hc
    simp only [Option.some.injEq, Prod.mk.injEq] at h
    obtain ⟨rfl, rfl⟩ := h
    have : n - 16 = m := by simp at hm; omega
    subst this
    exact refTake_long ao cap n zs w hrd hn hb (by omega) hlen h2 h3
  · cases h

theorem refTake_none (ao : Option Addr) (cap n : Nat) (zs : List Int) (w : World) (hrd : RdI w .u8 ao cap zs) (hn : zs.length = n) (hb : ∀ z ∈ zs, 0 ≤ z ∧ z < 256) (hlen : n ≤ 140737488355328) (h : val1 zs = none) :
    Calls Try.prog 27 #[.slice ao n cap] w fun e w' => e = .returned (.tuple #[.complex .f64 0 0, .slice none 0 0, .int .i64 21]) ∧ Below w.heap.size w w' := by
  unfold val1 at h
  split at h
  · cases h
  · rename_i hc
    by_cases h1 : 16 ≤ zs.length
    · refine refTake_odd ao cap n zs w hrd hn hb (by omega) ?_
      by_cases h2 : formN (rdW (zs.take 8)) = rdW (zs.take 8)
      · exact .inr fun h3 => hc ⟨h1, h2, h3⟩
      · exact .inl h2
    · exact (refTake_short ao cap n w (by omega)).mono fun e w' he => ⟨he.1, by rw [he.2]; exact Below.refl _ _⟩

end Go.Proofs.Ytgeoeaadeemmcaa
