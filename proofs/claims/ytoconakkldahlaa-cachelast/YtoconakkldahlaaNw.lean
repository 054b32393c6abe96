/- CacheNames, walked. -/
import Derived.Test.YtoconakkldahlaaAl
namespace Go.Proofs.Ytoconakkldahlaa
open Go.RowKit
set_option linter.unusedVariables false

theorem esOk_nil : EsOk [] := by intro x hx; cases hx
theorem n_put1 (B S : Nat) (W : World) (c : Nat) (H : Cx B S W c 3 []) : Calls Try.prog 6 #[cp c, .int .i64 6, .int .i64 1, .int .i64 0, .agg #[.complex .f64 0 0, .complex .f64 0 0, .complex .f64 0 0, .complex .f64 0 0], .slice none 0 0] W fun e w' => e = .returned (.tuple #[.int .i64 (-1), .bool false]) ∧ Cx B w'.heap.size w' c 3 [] ∧ Below B W w' := by
  refine (put_bad W c 6 1 0 (.inl (by decide)) (fun _ => (0, 0)) _).mono ?_
  rintro e w' ⟨rfl, h1⟩
  exact ⟨rfl, (H.below h1).wide, h1.mono (by have := H.base; have := H.le; omega)⟩
theorem n_put2 (B S : Nat) (W : World) (c : Nat) (H : Cx B S W c 3 []) : Calls Try.prog 6 #[cp c, .int .i64 0, .int .i64 1, .int .i64 2, .agg #[.complex .f64 0 0, .complex .f64 0 0, .complex .f64 0 0, .complex .f64 0 0], .slice none 0 0] W fun e w' => e = .returned (.tuple #[.int .i64 (-1), .bool false]) ∧ Cx B w'.heap.size w' c 3 [] ∧ Below B W w' := by
  refine (put_bad W c 0 1 2 (.inr ⟨by decide, by decide, by kernel_rfl⟩) (fun _ => (0, 0)) _).mono ?_
  rintro e w' ⟨rfl, h1⟩
  exact ⟨rfl, (H.below h1).wide, h1.mono (by have := H.base; have := H.le; omega)⟩
theorem n_get (B S : Nat) (W : World) (c : Nat) (H : Cx B S W c 3 []) : Calls Try.prog 7 #[cp c, .int .i64 0, .int .i64 0] W fun e w' => e = .returned (.tuple #[.complex .f64 0 0, .bool false]) ∧ Cx B w'.heap.size w' c 3 [] ∧ Below B W w' := by
  refine (get_noX H (by simp) esOk_nil 0 0 (by decide)).mono ?_
  rintro e w' ⟨rfl, h1⟩
  exact ⟨rfl, (H.below h1).wide, h1.mono (by have := H.base; have := H.le; omega)⟩
theorem n_alive (B S : Nat) (W : World) (c : Nat) (H : Cx B S W c 3 []) : Calls Try.prog 8 #[] W fun e w' => e = .returned (.bool true) ∧ Cx B w'.heap.size w' c 3 [] ∧ Below B W w' := by
  refine (alive_any W).mono ?_
  rintro e w' ⟨rfl, h1⟩
  exact ⟨rfl, (H.below h1).wide, h1.mono (by have := H.base; have := H.le; omega)⟩
theorem n_pages (B S : Nat) (W : World) (c : Nat) (H : Cx B S W c 3 []) : Calls Try.prog 9 #[cp c] W fun e w' => ∃ a2 c2, e = .returned (.slice a2 0 c2) ∧ Cx B w'.heap.size w' c 3 [] ∧ Below B W w' := by
  refine (pagesX H (by simp)).mono ?_
  rintro e w' ⟨a2, c2, rfl, -, h1⟩
  exact ⟨a2, c2, rfl, (H.below h1).wide, h1.mono (by have := H.base; have := H.le; omega)⟩
theorem n_copies (B S : Nat) (W : World) (c : Nat) (H : Cx B S W c 3 []) : Calls Try.prog 10 #[cp c, .int .i64 (-1)] W fun e w' => e = .returned (.int .i64 0) ∧ Cx B w'.heap.size w' c 3 [] ∧ Below B W w' := by
  refine (copiesX H (by simp) (-1)).mono ?_
  rintro e w' ⟨rfl, h1⟩
  exact ⟨rfl, (H.below h1).wide, h1.mono (by have := H.base; have := H.le; omega)⟩
theorem n_own (B S : Nat) (W : World) (c : Nat) (H : Cx B S W c 3 []) : Calls Try.prog 11 #[cp c, .int .i64 9] W fun e w' => e = .returned (.int .i64 0) ∧ Below B W w' := by
  refine (ownX H (by simp) 9).mono ?_
  rintro e w' ⟨rfl, h1⟩
  exact ⟨rfl, h1.mono (by have := H.base; have := H.le; omega)⟩

set_option maxHeartbeats 1600000 in
theorem names_walk (w : World) : Calls Try.prog 3 #[] w fun e w' => e = .returned (.bool true) ∧ Below w.heap.size w w' := by
  go_enter Try.func3, Try.ntmps3
  go_upto_region 3 with (first
    | (go_at_call 5; refine (newX 3 w).mono ?_; rintro e W1 ⟨c, rfl, HC1, HB1⟩)
    | (go_at_call 6; (with_reducible refine (n_put1 w.heap.size _ W1 c HC1).mono ?_); rintro e W2 ⟨rfl, HC2, HB2⟩)
    | fail)
  have HB2' : Hid (Below w.heap.size w W2) := HB1.trans HB2
  have HC2' : Hid (Cx w.heap.size W2.heap.size W2 c 3 []) := HC2
  clear HB1 HB2 HC1 HC2
  go_upto_region 4 with (first
    | (go_at_call 6; (with_reducible refine (n_put2 w.heap.size _ W2 c HC2'.out).mono ?_); rintro e W3 ⟨rfl, HC3, HB3⟩)
    | fail)
  have HB3' : Hid (Below w.heap.size w W3) := HB2'.out.trans HB3
  have HC3' : Hid (Cx w.heap.size W3.heap.size W3 c 3 []) := HC3
  clear HB3 HC3 HB2' HC2'
  go_upto_region 5 with (first
    | (go_at_call 7; (with_reducible refine (n_get w.heap.size _ W3 c HC3'.out).mono ?_); rintro e W4 ⟨rfl, HC4, HB4⟩)
    | fail)
  have HB4' : Hid (Below w.heap.size w W4) := HB3'.out.trans HB4
  have HC4' : Hid (Cx w.heap.size W4.heap.size W4 c 3 []) := HC4
  clear HB4 HC4 HB3' HC3'
  go_wp2_with (first
    | (go_at_call 11; (with_reducible refine (n_own w.heap.size _ W7 c HC7).mono ?_); rintro e W8 ⟨rfl, HB8⟩)
    | (go_at_call 10; (with_reducible refine (n_copies w.heap.size _ W6 c HC6).mono ?_); rintro e W7 ⟨rfl, HC7, HB7⟩)
    | (go_at_call 9; (with_reducible refine (n_pages w.heap.size _ W5 c HC5).mono ?_); rintro e W6 ⟨a2, c2, rfl, HC6, HB6⟩)
    | (go_at_call 8; (with_reducible refine (n_alive w.heap.size _ W4 c HC4'.out).mono ?_); rintro e W5 ⟨rfl, HC5, HB5⟩)
    | fail)
  go_ret
  exact ⟨rfl, (((HB4'.out.trans HB5).trans HB6).trans HB7).trans HB8⟩

end Go.Proofs.Ytoconakkldahlaa
