/- The chapter's example, walked whole. -/
import Derived.Test.YthmoiogmdgdflaaP9
namespace Go.Proofs.Ythmoiogmdgdflaa
open Go.RowKit
set_option linter.unusedVariables false

/-- What was read stays where it is. -/
theorem xBlock {w6 w7 w8 w9 : World} {B gp gf g gl gt : Nat} {V : Nat → Prop} {L : List Sec} {F : List Fr} (h : Ex w6 B gp gf g gl gt V L F) (hb7 : Below w6.heap.size w6 w7) (hb8 : Below w7.heap.size w7 w8) (hO : Off3 gp gf g (w8.alloc (pgO 0 o7 zO zO zO)) w9) : PgAt w9 w8.heap.size 0 o7 zO zO zO := by
  obtain ⟨h1, h2, h3⟩ := h.lt
  have s7 := hb7.size
  have s8 := hb8.size
  exact (PgAt.new w8 0 o7 zO zO zO).keep (hO.block w8.heap.size (by simp) (by omega) (by omega) (by omega)) hO.size

set_option maxRecDepth 100000 in
set_option maxHeartbeats 1600000 in
theorem alive_any (w : World) : Calls Try.prog 9 #[] w fun e w' => e = .returned (.bool true) ∧ Below w.heap.size w w' := by
  have hst := fun (ad : Addr) (re im : Nat) (W : World) => run_store Try.prog W ad (.complex .f64 re im) .plain rfl
  go_enter Try.func9, Try.ntmps9
  have heq7 : ∀ W : World, (binOp .eql 30 (.complex .f64 4619567317775286272 0) (.complex .f64 4619567317775286272 0)).run Try.prog W = .ok (.bool true) W := fun W => by rfl
  have heq8 : ∀ W : World, (binOp .eql 30 (.complex .f64 4620693217682128896 0) (.complex .f64 4620693217682128896 0)).run Try.prog W = .ok (.bool true) W := fun W => by rfl
  have hi7 := fun W : World => (idx4 o7 zO zO zO W).1
  have hi8 := fun W : World => (idx4 o8 zO zO zO W).1
  go_wp2_with (first
    | (go_at_call 22; refine (held_one _ _ _ _ x8 _ hE11.s.p rfl).mono ?_; rintro e w12 ⟨ao12, cap12, rfl, hb12⟩)
    | (go_at_call 21; refine (dirty_one _ _ _ _ x8 _ hE10.s.p rfl).mono ?_; rintro e w11 ⟨ao11, cap11, rfl, hb11⟩; have hE11 := hE10.below hb11)
    | (go_at_call 8; refine (get8 hE8).mono ?_; rintro e w9 ⟨rfl, ⟨V9, hE9⟩, hO9⟩; have hq9 := xBlock hE6 hb7 hb8 hO9; have hqx := hq9.below (below_box w9 (pgO 0 o8 zO zO zO)) hq9.lt; have a0 := hqx.c0; have a1 := hqx.c1; have a2 := hqx.c2; have a3 := hqx.c3; have a4 := hqx.c4; have hqy := PgAt.new w9 0 o8 zO zO zO; have b0 := hqy.c0; have b1 := hqy.c1; have b2 := hqy.c2; have b3 := hqy.c3; have b4 := hqy.c4; clear hqx hqy; have hE10 := hE9.below (below_box w9 (pgO 0 o8 zO zO zO)))
    | (go_at_call 20; refine (back7 _ _ hr7).mono ?_; rintro e w8 ⟨rfl, hb8⟩; have hE8 := ((hE6.below hb7).below hb8).below (below_box w8 (pgO 0 o7 zO zO zO)))
    | (go_at_call 19; refine (read0 hE6).mono ?_; rintro e w7 ⟨ao7, cap7, rfl, hr7, hb7⟩)
    | (go_at_call 18; refine (set8 hE5).mono ?_; rintro e w6 ⟨rfl, ⟨V6, hE6⟩, hO6⟩)
    | (go_at_call 18; refine (set7 hE4).mono ?_; rintro e w5 ⟨rfl, ⟨V5, hE5⟩, hO5⟩)
    | (go_at_call 4; refine (pnew_any 1 _ _ (by omega) (by omega) _).mono ?_; rintro e w4 ⟨rfl, hP4, -, hb4⟩; have hE4 := Ex.start hD1 HS1.out hb2 HS2.out hG3 hb3 hgl hP4 hb4)
    | (go_at_call 6; refine (open_none w1.heap.size _ 0 100 _ hT2).mono ?_; rintro e w3 ⟨gl, rfl, hG3, hb3, hgl⟩)
    | (go_at_call 7; refine (new_any 100 _).mono ?_; rintro e w2 ⟨rfl, hN, hs2, hb2⟩; have HS2 : Hid (w2.heap.size = w1.heap.size + 1) := hs2; clear hs2; have hT2 : Tp w2 w1.heap.size w1.heap.size none 0 0 [] 0 100 := hN _ (Nat.le_refl _); clear hN)
    | (go_at_call 5; refine (snew_any 3 _).mono ?_; rintro e w1 ⟨rfl, hD1, hs1, hb1⟩; have HS1 : Hid (w1.heap.size = w.heap.size + 2) := hs1; clear hs1)
    | fail)
  go_ret
  refine ⟨rfl, ?_⟩
  have hB3 : Below w.heap.size w w3 := (below_step hb1 hb2).trans (hb3.mono hb1.size)
  have hB4 : Below w.heap.size w w4 := below_step hB3 hb4
  have s3 := hB3.size
  have hB5 : Below w.heap.size w w5 := hB4.trans (hO5.below (by omega) s3 (Nat.le_refl _) hB4.size)
  have hB6 : Below w.heap.size w w6 := hB5.trans (hO6.below (by omega) s3 (Nat.le_refl _) hB5.size)
  have hB8 : Below w.heap.size w w8 := below_step (below_step hB6 hb7) hb8
  have hB8' : Below w.heap.size w (w8.alloc (pgO 0 o7 zO zO zO)) := hB8.alloc hB8.size _
  have hB9 : Below w.heap.size w w9 := hB8'.trans (hO9.below (by omega) s3 (Nat.le_refl _) hB8'.size)
  have hB9' : Below w.heap.size w (w9.alloc (pgO 0 o8 zO zO zO)) := hB9.alloc hB9.size _
  exact below_step (below_step hB9' hb11) hb12

set_option maxRecDepth 100000 in
set_option maxHeartbeats 1600000 in
/-- The law's function, walked. -/
theorem names_any (w : World) : Calls Try.prog 3 #[] w fun e w' => e = .returned (.bool true) ∧ Below w.heap.size w w' := by
  have hst := fun (ad : Addr) (re im : Nat) (W : World) => run_store Try.prog W ad (.complex .f64 re im) .plain rfl
  go_enter Try.func3, Try.ntmps3
  go_wp2_with (first
    | (go_at_call 11; refine (pin1 hE9).mono ?_; rintro e w10 ⟨rfl, ⟨V10, hE10⟩, hO10⟩)
    | (go_at_call 10; refine (unpin0 hE8).mono ?_; rintro e w9 ⟨rfl, ⟨V9, hE9⟩, hO9⟩)
    | (go_at_call 11; refine (pin1_full hE7).mono ?_; rintro e w8 ⟨rfl, ⟨V8, hE8⟩, hO8⟩)
    | (go_at_call 11; refine (pin0 hE6).mono ?_; rintro e w7 ⟨rfl, ⟨V7, hE7⟩, hO7⟩)
    | (go_at_call 10; refine (unpin_first hE6).mono ?_; rintro e w' ⟨rfl, hw⟩; subst w')
    | (go_at_call 9; refine (alive_any _).mono ?_; rintro e w6 ⟨rfl, hb6⟩; have hE6 := (hE5.below (below_box w5 pgZ)).below hb6)
    | (go_at_call 8; refine (get3 hE4).mono ?_; rintro e w5 ⟨rfl, hb5⟩; have hE5 := hE4.below hb5)
    | (go_at_call 4; refine (pnew_any 1 _ _ (by omega) (by omega) _).mono ?_; rintro e w4 ⟨rfl, hP4, -, hb4⟩; have hE4 := Ex.start hD1 HS1.out hb2 HS2.out hG3 hb3 hgl hP4 hb4)
    | (go_at_call 6; refine (open_none w1.heap.size _ 0 100 _ hT2).mono ?_; rintro e w3 ⟨gl, rfl, hG3, hb3, hgl⟩)
    | (go_at_call 7; refine (new_any 100 _).mono ?_; rintro e w2 ⟨rfl, hN, hs2, hb2⟩; have HS2 : Hid (w2.heap.size = w1.heap.size + 1) := hs2; clear hs2; have hT2 : Tp w2 w1.heap.size w1.heap.size none 0 0 [] 0 100 := hN _ (Nat.le_refl _); clear hN)
    | (go_at_call 5; refine (snew_any 3 _).mono ?_; rintro e w1 ⟨rfl, hD1, hs1, hb1⟩; have HS1 : Hid (w1.heap.size = w.heap.size + 2) := hs1; clear hs1)
    | fail)
  go_ret
  refine ⟨rfl, ?_⟩
  have hB3 : Below w.heap.size w w3 := (below_step hb1 hb2).trans (hb3.mono hb1.size)
  have s3 := hB3.size
  have hB5 : Below w.heap.size w w5 := below_step (below_step hB3 hb4) hb5
  have hB6 : Below w.heap.size w w6 := below_step (hB5.alloc hB5.size _) hb6
  have hB7 : Below w.heap.size w w7 := hB6.trans (hO7.below (by omega) s3 (Nat.le_refl _) hB6.size)
  have hB8 : Below w.heap.size w w8 := hB7.trans (hO8.below (by omega) s3 (Nat.le_refl _) hB7.size)
  have hB9 : Below w.heap.size w w9 := hB8.trans (hO9.below (by omega) s3 (Nat.le_refl _) hB8.size)
  exact hB9.trans (hO10.below (by omega) s3 (Nat.le_refl _) hB9.size)

end Go.Proofs.Ythmoiogmdgdflaa
