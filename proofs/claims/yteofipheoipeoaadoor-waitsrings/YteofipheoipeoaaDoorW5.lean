/- Who gives way: what Victim tells, what is left without one; nobody of the laws. -/
import Derived.Test.YteofipheoipeoaaDoorW4
import Derived.WalkKit
import Derived.Below
import Derived.Deep.QuietTactic
import Derived.BigQuiet
import Derived.Deep.RegionWith
import Derived.Deep.RegionHeld
import Derived.Deep.RegionHeldLaw
import Derived.RegionTactic
namespace Go.Proofs.YteofipheoipeoaaDoor
open Go.RowKit
set_option linter.unusedVariables false
theorem vc_spec {R : List (Int × Int)} (h : vcB R = true) : ∃ m : Nat, m < 4 ∧ vcI R = m ∧ rB R m m = true ∧ ∀ j, m < j → j < 4 → rB R j j = false := by
  unfold vcB at h
  unfold vcI
  cases h3 : rB R 3 3
  · cases h2 : rB R 2 2
    · cases h1 : rB R 1 1
      · cases h0 : rB R 0 0
        · simp [h0, h1, h2, h3] at h
        · refine ⟨0, by omega, by simp, h0, fun j hj hj4 => ?_⟩
          match j, hj, hj4 with
          | 1, _, _ => exact h1
          | 2, _, _ => exact h2
          | 3, _, _ => exact h3
      · refine ⟨1, by omega, by simp, h1, fun j hj hj4 => ?_⟩
        match j, hj, hj4 with
        | 2, _, _ => exact h2
        | 3, _, _ => exact h3
    · refine ⟨2, by omega, by simp, h2, fun j hj hj4 => ?_⟩
      match j, hj, hj4 with
      | 3, _, _ => exact h3
  · exact ⟨3, by omega, by simp, h3, fun j hj hj4 => by omega⟩
theorem vc_none {R : List (Int × Int)} (h : vcB R = false) : ∀ c, c < 4 → rB R c c = false := by
  unfold vcB at h
  simp only [Bool.or_eq_false_iff] at h
  intro c hc
  match c, hc with
  | 0, _ => exact h.2
  | 1, _ => exact h.1.2
  | 2, _ => exact h.1.1.2
  | 3, _ => exact h.1.1.1
theorem wo_self (R : List (Int × Int)) (m : Nat) : rB (wo R (m : Int)) m m = false := by
  cases h : rB (wo R (m : Int)) m m
  · rfl
  · obtain ⟨j, hj⟩ := r_first h
    have := ((ad_iff _ _ _).1 hj).2.2
    simp [wo] at this
theorem wo_less {R : List (Int × Int)} {c : Int} {j : Nat} (h : rB R j j = false) : rB (wo R c) j j = false := by
  cases e : rB (wo R c) j j
  · rfl
  · rw [r_sub (F := R) (fun x hx => (List.mem_filter.1 hx).1) e] at h
    cases h

theorem nobody_true (w : World) (ao : Option Addr) (n cap : Nat) (R : List (Int × Int)) (hr : RdE w ao cap R) (hn : R.length = n) (H : Tz w) (hno : ∀ c, c < 4 → rB R c c = false) : Calls Tryd.prog 20 #[.slice ao n cap] w fun e w' => e = .returned (.bool true) ∧ Below w.heap.size w w' := by
  have HN : Hid (∀ c, c < 4 → rB R c c = false) := hno
  clear hno
  go_enter Tryd.func20, Tryd.ntmps20
  go_wp2
  go_loopw [3] (fun i wr => ∃ c : Nat, i = .int .i64 c ∧ c ≤ 4 ∧ Below w.heap.size w wr) (fun i _ => 4 - (intOf i).toNat)
  case atStart => exact ⟨0, rfl, by omega, Below.refl _ _⟩
  case round =>
    obtain ⟨c, rfl, hc, hbel⟩ := hrel
    rename World => wr
    by_cases hlt : c < 4
    · have hcy := cycle_any wr ao n cap R (hr.below hbel) hn (H.on hbel) (c : Int)
      rw [cy_nat hlt, HN.out c hlt] at hcy
      go_wp2_with (go_at_call 12; refine hcy.mono ?_; rintro e w2 ⟨rfl, hb2⟩)
      go_roundw
      case rel => exact ⟨c + 1, by go_num, by omega, below_step hbel hb2⟩
      case measure => simp [intOf]; omega
    · obtain rfl : c = 4 := by omega
      go_wp2
      go_ret
      exact ⟨rfl, hbel⟩

end Go.Proofs.YteofipheoipeoaaDoor
