/- cacheAlive, walked. -/
import Derived.Test.YtoconakkldahlaaC9
namespace Go.Proofs.Ytoconakkldahlaa
open Go.RowKit
set_option linter.unusedVariables false

def v1 : Nat → Nat × Nat
  | 0 => (4607182418800017408, 0) | 1 => (4611686018427387904, 0) | 2 => (4613937818241073152, 0) | 3 => (4616189618054758400, 0) | _ => (0, 0)
def v7 : Nat → Nat × Nat
  | 0 => (4619567317775286272, 0) | _ => (0, 0)
def e1 : En := fillE ⟨2, 0, 0, fun _ => (0, 0)⟩ 15 4 v1
def e2 : En := ⟨2, 15, 4, updV e1.v 2 (4621256167635550208, 0)⟩
def e3 : En := fillE ⟨3, 0, 0, fun _ => (0, 0)⟩ 1 0 v7

theorem putOk_2 : PutOk 2 15 4 := ⟨by omega, by omega, by omega, by omega, by kernel_rfl⟩
theorem putOk_3 : PutOk 3 1 0 := ⟨by omega, by omega, by omega, by omega, by kernel_rfl⟩

theorem a_put1 (B S : Nat) (W : World) (c : Nat) (H : Cx B S W c 1 []) : Calls Try.prog 6 #[cp c, .int .i64 2, .int .i64 15, .int .i64 4, .agg #[.complex .f64 4607182418800017408 0, .complex .f64 4611686018427387904 0, .complex .f64 4613937818241073152 0, .complex .f64 4616189618054758400 0], .slice none 0 0] W fun e w' => e = .returned (.tuple #[.int .i64 (-1), .bool true]) ∧ Cx B w'.heap.size w' c 1 [e1] ∧ Below B W w' := by
  refine (putX H (by simp) 2 15 4 putOk_2 v1 none 0 0 [] (RdI.empty W .i64) rfl (by omega)).mono ?_
  rintro e w' ⟨rfl, h1, h2⟩
  exact ⟨rfl, h1, h2.belB (by have := H.base; have := H.le; omega)⟩
theorem a_get1 (B S : Nat) (W : World) (c : Nat) (H : Cx B S W c 1 [e1]) : Calls Try.prog 7 #[cp c, .int .i64 2, .int .i64 1] W fun e w' => e = .returned (.tuple #[.complex .f64 4611686018427387904 0, .bool true]) ∧ Cx B w'.heap.size w' c 1 [e1] ∧ Below B W w' := by
  refine (get_yesX H (by simp) 2 0 e1 rfl rfl 1 (by omega) (by decide) (by decide)).mono ?_
  rintro e w' ⟨rfl, h1, h2⟩
  exact ⟨rfl, h1, h2.belB (by have := H.base; have := H.le; omega)⟩
theorem a_set1 (B S : Nat) (W : World) (c : Nat) (H : Cx B S W c 1 [e1]) : Calls Try.prog 21 #[cp c, .int .i64 2, .int .i64 2, .complex .f64 4621256167635550208 0] W fun e w' => e = .returned (.bool true) ∧ Cx B w'.heap.size w' c 1 [e2] ∧ Below B W w' := by
  refine (set_yesX H (by simp) 2 0 e1 rfl rfl 2 (by omega) (4621256167635550208, 0) (by decide) (by decide)).mono ?_
  rintro e w' ⟨rfl, h1, h2⟩
  exact ⟨rfl, h1, h2.belB (by have := H.base; have := H.le; omega)⟩
theorem esOk_2 : EsOk [e2] := by
  intro x hx
  obtain rfl : x = e2 := by simpa using hx
  exact ⟨by decide, by decide⟩
theorem a_set2 (B S : Nat) (W : World) (c : Nat) (H : Cx B S W c 1 [e2]) : Calls Try.prog 21 #[cp c, .int .i64 2, .int .i64 1, .complex .f64 4621256167635550208 0] W fun e w' => e = .returned (.bool false) ∧ Cx B w'.heap.size w' c 1 [e2] ∧ Below B W w' := by
  refine (set_noX H (by simp) esOk_2 2 1 (4621256167635550208, 0) (by decide)).mono ?_
  rintro e w' ⟨rfl, h1⟩
  exact ⟨rfl, (H.below h1).wide, h1.mono (by have := H.base; have := H.le; omega)⟩
theorem a_put2 (B S : Nat) (W : World) (c : Nat) (H : Cx B S W c 1 [e2]) : Calls Try.prog 6 #[cp c, .int .i64 3, .int .i64 1, .int .i64 0, .agg #[.complex .f64 4619567317775286272 0, .complex .f64 0 0, .complex .f64 0 0, .complex .f64 0 0], .slice (some ⟨W.heap.size, 0, none⟩) 1 1] (W.alloc (.cells #[.int .i64 2] 3)) fun e w' => e = .returned (.tuple #[.int .i64 (-1), .bool false]) ∧ Cx B w'.heap.size w' c 1 [e2] ∧ Below B W w' := by
  have hb : Below W.heap.size W (W.alloc (.cells #[.int .i64 2] 3)) := (Below.refl _ _).alloc (Nat.le_refl _) _
  refine (putX (H.below hb) (by simp) 3 1 0 putOk_3 v7 (some ⟨W.heap.size, 0, none⟩) 1 1 [2] (RdI.one W 3 .i64 2) rfl (by omega)).mono ?_
  rintro e w' ⟨rfl, h1, h2⟩
  exact ⟨rfl, h1, (hb.mono (by have := H.base; have := H.le; omega)).trans (h2.belB (by have := H.base; have := H.le; have := hb.size; omega))⟩
theorem a_put3 (B S : Nat) (W : World) (c : Nat) (H : Cx B S W c 1 [e2]) : Calls Try.prog 6 #[cp c, .int .i64 3, .int .i64 1, .int .i64 0, .agg #[.complex .f64 4619567317775286272 0, .complex .f64 0 0, .complex .f64 0 0, .complex .f64 0 0], .slice none 0 0] W fun e w' => e = .returned (.tuple #[.int .i64 2, .bool true]) ∧ Cx B w'.heap.size w' c 1 [e3] ∧ Below B W w' := by
  refine (putX H (by simp) 3 1 0 putOk_3 v7 none 0 0 [] (RdI.empty W .i64) rfl (by omega)).mono ?_
  rintro e w' ⟨rfl, h1, h2⟩
  exact ⟨rfl, h1, h2.belB (by have := H.base; have := H.le; omega)⟩
theorem a_get2 (B S : Nat) (W : World) (c : Nat) (H : Cx B S W c 1 [e3]) : Calls Try.prog 7 #[cp c, .int .i64 3, .int .i64 0] W fun e w' => e = .returned (.tuple #[.complex .f64 4619567317775286272 0, .bool true]) ∧ Cx B w'.heap.size w' c 1 [e3] ∧ Below B W w' := by
  refine (get_yesX H (by simp) 3 0 e3 rfl rfl 0 (by omega) (by decide) (by decide)).mono ?_
  rintro e w' ⟨rfl, h1, h2⟩
  exact ⟨rfl, h1, h2.belB (by have := H.base; have := H.le; omega)⟩
theorem a_copies (B S : Nat) (W : World) (c : Nat) (H : Cx B S W c 1 [e3]) : Calls Try.prog 10 #[cp c, .int .i64 2] W fun e w' => e = .returned (.int .i64 0) ∧ Cx B w'.heap.size w' c 1 [e3] ∧ Below B W w' := by
  refine (copiesX H (by simp) 2).mono ?_
  rintro e w' ⟨rfl, h1⟩
  exact ⟨rfl, (H.below h1).wide, h1.mono (by have := H.base; have := H.le; omega)⟩
theorem a_pages (B S : Nat) (W : World) (c : Nat) (H : Cx B S W c 1 [e3]) : Calls Try.prog 9 #[cp c] W fun e w' => ∃ a2 c2, e = .returned (.slice a2 1 c2) ∧ Below B W w' := by
  refine (pagesX H (by simp)).mono ?_
  rintro e w' ⟨a2, c2, rfl, -, h1⟩
  exact ⟨a2, c2, rfl, h1.mono (by have := H.base; have := H.le; omega)⟩

set_option maxHeartbeats 1600000 in
theorem alive_any (w : World) : Calls Try.prog 8 #[] w fun e w' => e = .returned (.bool true) ∧ Below w.heap.size w w' := by
  have hne : ∀ W : World, (binOp .neq 26 (.complex .f64 4611686018427387904 0) (.complex .f64 4611686018427387904 0)).run Try.prog W = .ok (.bool false) W := fun _ => by kernel_rfl
  have heq : ∀ W : World, (binOp .eql 26 (.complex .f64 4619567317775286272 0) (.complex .f64 4619567317775286272 0)).run Try.prog W = .ok (.bool true) W := fun _ => by kernel_rfl
  go_enter Try.func8, Try.ntmps8
  go_upto_region 5 with (first
    | (go_at_call 5; refine (newX 1 w).mono ?_; rintro e W1 ⟨c, rfl, HC1, HB1⟩)
    | (go_at_call 6; (with_reducible refine (a_put1 w.heap.size _ W1 c HC1).mono ?_); rintro e W2 ⟨rfl, HC2, HB2⟩)
    | fail)
  have HB2' : Hid (Below w.heap.size w W2) := HB1.trans HB2
  have HC2' : Hid (Cx w.heap.size W2.heap.size W2 c 1 [e1]) := HC2
  clear HB1 HB2 HC1 HC2
  go_upto_region 6 with (first
    | (go_at_call 7; (with_reducible refine (a_get1 w.heap.size _ W2 c HC2'.out).mono ?_); rintro e W3 ⟨rfl, HC3, HB3⟩)
    | fail)
  have HB3' : Hid (Below w.heap.size w W3) := HB2'.out.trans HB3
  have HC3' : Hid (Cx w.heap.size W3.heap.size W3 c 1 [e1]) := HC3
  clear HB3 HC3 HB2' HC2'
  go_upto_region 8 with (first
    | (go_at_call 21; (with_reducible refine (a_set2 w.heap.size _ W4 c HC4).mono ?_); rintro e W5 ⟨rfl, HC5, HB5⟩)
    | (go_at_call 21; (with_reducible refine (a_set1 w.heap.size _ W3 c HC3'.out).mono ?_); rintro e W4 ⟨rfl, HC4, HB4⟩)
    | fail)
  have HB5' : Hid (Below w.heap.size w W5) := (HB3'.out.trans HB4).trans HB5
  have HC5' : Hid (Cx w.heap.size W5.heap.size W5 c 1 [e2]) := HC5
  clear HB4 HC4 HB5 HC5 HB3' HC3'
  go_upto_region 9 with (first
    | (go_at_call 6; (with_reducible refine (a_put2 w.heap.size _ W5 c HC5'.out).mono ?_); rintro e W6 ⟨rfl, HC6, HB6⟩)
    | fail)
  have HB6' : Hid (Below w.heap.size w W6) := HB5'.out.trans HB6
  have HC6' : Hid (Cx w.heap.size W6.heap.size W6 c 1 [e2]) := HC6
  clear HB6 HC6 HB5' HC5'
  go_upto_region 10 with (first
    | (go_at_call 6; (with_reducible refine (a_put3 w.heap.size _ W6 c HC6'.out).mono ?_); rintro e W7 ⟨rfl, HC7, HB7⟩)
    | fail)
  have HB7' : Hid (Below w.heap.size w W7) := HB6'.out.trans HB7
  have HC7' : Hid (Cx w.heap.size W7.heap.size W7 c 1 [e3]) := HC7
  clear HB7 HC7 HB6' HC6'
  go_upto_region 11 with (first
    | (go_at_call 7; (with_reducible refine (a_get2 w.heap.size _ W7 c HC7'.out).mono ?_); rintro e W8 ⟨rfl, HC8, HB8⟩)
    | fail)
  have HB8' : Hid (Below w.heap.size w W8) := HB7'.out.trans HB8
  have HC8' : Hid (Cx w.heap.size W8.heap.size W8 c 1 [e3]) := HC8
  clear HB8 HC8 HB7' HC7'
  go_wp2_with (first
    | (go_at_call 9; (with_reducible refine (a_pages w.heap.size _ W9 c HC9).mono ?_); rintro e W10 ⟨a2, c2, rfl, HB10⟩)
    | (go_at_call 10; (with_reducible refine (a_copies w.heap.size _ W8 c HC8'.out).mono ?_); rintro e W9 ⟨rfl, HC9, HB9⟩)
    | fail)
  go_ret
  exact ⟨rfl, (HB8'.out.trans HB9).trans HB10⟩

end Go.Proofs.Ytoconakkldahlaa
