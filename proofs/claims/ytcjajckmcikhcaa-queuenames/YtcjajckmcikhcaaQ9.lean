/- Of a new queue, and of what can't be: walked. -/
import Derived.Test.YtcjajckmcikhcaaQ8
namespace Go.Proofs.Ytcjajckmcikhcaa
open Go.RowKit Go.Maps
set_option linter.unusedVariables false

abbrev x4 : Wt := ⟨4, 0, 0, false⟩
abbrev x6 : Wt := ⟨0, 6, 0, false⟩
abbrev x0 : Wt := ⟨0, 0, 0, false⟩
abbrev y4 : Wt := ⟨0, 0, 4, false⟩
theorem n1 : addB [] x4 = false := by decide +kernel
theorem n2 : addB [] x6 = false := by decide +kernel
theorem m1 : addL [] x4 = [] := by unfold addL; rw [n1]; rfl
theorem m2 : addL [] x6 = [] := by unfold addL; rw [n2]; rfl
theorem n3 : callB C0 4 x0 = false := by decide +kernel
theorem n4 : callB C0 0 y4 = false := by decide +kernel
theorem m3 : callC C0 4 x0 = C0 := by unfold callC; rw [n3]; rfl
theorem m4 : callC C0 0 y4 = C0 := by unfold callC; rw [n4]; rfl
theorem n5 : hasB [] 0 = false := by decide +kernel
theorem m5 : rmL [] 0 = [] := rfl
theorem n6 : (C0 (kyOf 0 x0)).isSome = false := rfl
theorem m6 : busyC C0 0 x0 = C0 := by unfold busyC; rw [n6]; rfl
theorem ok0 : (kyOf 0 x0).ok := by refine ⟨?_, ?_, ?_⟩ <;> (unfold inR; decide)

/-- An empty queue. -/
structure Ex (w W : World) (q n : Nat) : Prop where
  qx : Qx w.heap.size (fun _ => False) W q [] C0 n
  bel : Below w.heap.size w W
theorem Ex.step {w W W' : World} {q n n' : Nat} (h : Ex w W q n) (s : Sx w.heap.size (fun _ => False) W W' q [] C0 n') : Ex w W' q n' := ⟨s.qx, h.bel.trans s.bel⟩
theorem Ex.below {w W W' : World} {q n : Nat} (h : Ex w W q n) (hb : Below W.heap.size W W') : Ex w W' q n := ⟨h.qx.below hb, below_step h.bel hb⟩
theorem no_v {W : World} : ∀ k, False → k < W.heap.size := fun _ h => h.elim
theorem no_rt : ∀ x ∈ ([] : List Wt), Rt x := fun x h => by cases h

set_option maxHeartbeats 1600000 in
theorem names_main (w : World) : Calls Try.prog 3 #[] w fun e w' => e = .returned (.bool true) ∧ Below w.heap.size w w' := by
  go_enter Try.func3, Try.ntmps3
  go_wp2_with (first
    | (go_at_call 15; refine (reserved_any _ _ _ _ _ _ (H8.out.qx : Qx _ _ _ _ _ _ _) (by decide) no_rt 0 0).mono ?_; rintro e w9 ⟨rfl, hb9⟩; have HB : Hid (Below w.heap.size w w9) := (H8.out.below hb9).bel; clear hb9; simp only [resN])
    | (go_at_call 14; refine (busyX H7.out.qx no_v H7.out.bel.size (by decide) 0 x0 ok0).mono ?_; rw [n6, m6]; rintro e w8 ⟨rfl, s8⟩; have H8 : Hid (Ex w w8 q 3) := H7.out.step s8; clear s8)
    | (go_at_call 13; refine (removeX H6.out.qx no_v H6.out.bel.size (by decide) 0).mono ?_; rw [n5, m5]; rintro e w7 ⟨rfl, s7⟩; have H7 : Hid (Ex w w7 q 2) := H6.out.step s7; clear s7)
    | (go_at_call 12; refine (callX H5.out.qx no_v H5.out.bel.size (by decide) 0 y4).mono ?_; rw [n4, m4]; rintro e w6 ⟨rfl, s6⟩; have H6 : Hid (Ex w w6 q 2) := H5.out.step s6; clear s6)
    | (go_at_call 12; refine (callX H4.out.qx no_v H4.out.bel.size (by decide) 4 x0).mono ?_; rw [n3, m3]; rintro e w5 ⟨rfl, s5⟩; have H5 : Hid (Ex w w5 q 1) := H4.out.step s5; clear s5)
    | (go_at_call 11; refine (addX H3.out.qx no_v H3.out.bel.size (by decide) x6).mono ?_; rw [n2, m2]; rintro e w4 ⟨rfl, s4⟩; have H4 : Hid (Ex w w4 q 0) := H3.out.step s4; clear s4)
    | (go_at_call 11; refine (addX H2.out.qx no_v H2.out.bel.size (by decide) x4).mono ?_; rw [n1, m1]; rintro e w3 ⟨rfl, s3⟩; have H3 : Hid (Ex w w3 q 0) := H2.out.step s3; clear s3)
    | (go_at_call 10; refine (all_any _ _ _ _ _ _ (H1.out.qx : Qx _ _ _ _ _ _ _) (by decide)).mono ?_; rintro e w2 ⟨a2, c2, rfl, ho2, -, hb2⟩; clear ho2; have H2 : Hid (Ex w w2 q 0) := H1.out.below hb2; clear hb2; simp only [List.length_nil])
    | (go_at_call 9; refine (alive_any _).mono ?_; rintro e w1 ⟨rfl, hb1⟩; have H1 : Hid (Ex w w1 q 0) := H0.out.below hb1; clear hb1)
    | (go_at_call 8; refine (newX w).mono ?_; rintro e w0 ⟨q, rfl, hq0, hb0⟩; have H0 : Hid (Ex w w0 q 0) := ⟨hq0, hb0⟩; clear hq0 hb0)
    | fail)
  go_ret
  exact ⟨rfl, HB.out⟩

end Go.Proofs.Ytcjajckmcikhcaa
