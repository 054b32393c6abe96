/- The steps of the chapter's example. -/
import Derived.Test.YthmoiogmdgdflaaP8
namespace Go.Proofs.Ythmoiogmdgdflaa
open Go.RowKit
set_option linter.unusedVariables false

abbrev o7 : Nat × Nat := (4619567317775286272, 0)
abbrev o8 : Nat × Nat := (4620693217682128896, 0)
abbrev pg7 : Value := .agg #[.int .i64 0, .complex .f64 4619567317775286272 0, .complex .f64 0 0, .complex .f64 0 0, .complex .f64 0 0]
abbrev pg8 : Value := .agg #[.int .i64 0, .complex .f64 4620693217682128896 0, .complex .f64 0 0, .complex .f64 0 0, .complex .f64 0 0]
abbrev L0 : List Sec := [Sec.e, Sec.e, Sec.e]
abbrev x7 : Fr := ⟨true, 0, 0, o7, zO, zO, zO, true, 0, true⟩
abbrev x8 : Fr := ⟨true, 2, 0, o8, zO, zO, zO, true, 0, true⟩
def L1 : List Sec := [Sec.e.wrote x7.bytes, Sec.e, Sec.e]

theorem word_z : wordB zO := ⟨by decide, by decide⟩
theorem word_7 : wordB o7 := ⟨by decide, by decide⟩
theorem form0 : formN 0 = 0 := by decide +kernel
theorem form7 : formN 4619567317775286272 = 4619567317775286272 := by decide +kernel
theorem can0 : canO zO = zO := by
  unfold canO; simp only [form0]
theorem can7 : canO o7 = o7 := by
  unfold canO; simp only [form0, form7]

theorem L1_at (h : 0 < L1.length) : (L1[0]'h).b = pageN 0 o7 zO zO zO := by simp [L1, Sec.wrote, Fr.bytes]

/-- What a step leaves of the example. -/
def Goes (w w' : World) (B gp gf g gl gt : Nat) (L : List Sec) (F : List Fr) : Prop := (∃ V', Ex w' B gp gf g gl gt V' L F) ∧ Off3 gp gf g w w'

section
variable {w : World} {B gp gf g gl gt : Nat} {V : Nat → Prop}

theorem set7 (h : Ex w B gp gf g gl gt V L0 [Fr.e]) : Calls Try.prog 18 #[tp gp, .int .i64 0, pg7] w fun e w' => e = .returned (.int .i64 0) ∧ Goes w w' B gp gf g gl gt L0 [x7] := by
  refine (pool_set_ok gp gf g gl V L0 [Fr.of 0 0 zO zO zO zO] 0 0 0 (by simp) 0 o7 zO zO zO w h.lt h.v (by decide) (loads_first h 0 (by simp) rfl)).mono ?_
  rintro e w' ⟨rfl, hl⟩
  exact ⟨rfl, h.left hl⟩

theorem set8 (h : Ex w B gp gf g gl gt V L0 [x7]) : Calls Try.prog 18 #[tp gp, .int .i64 2, pg8] w fun e w' => e = .returned (.int .i64 0) ∧ Goes w w' B gp gf g gl gt L1 [x8] := by
  have hF := over_dirty h rfl 0 (by simp) ⟨rfl, by simp, by decide, word_7, word_z, word_z, word_z⟩ (by decide)
  refine (pool_set_ok gp gf g gl V L1 [Fr.of 2 0 zO zO zO zO] 0 2 0 (by simp) 0 o8 zO zO zO w h.lt h.v (by decide) (loads_over h.s 2 (by simp) rfl (by decide) rfl rfl rfl hF)).mono ?_
  rintro e w' ⟨rfl, hl⟩
  exact ⟨rfl, h.left hl⟩

theorem read0 (h : Ex w B gp gf g gl gt V L1 [x8]) : Calls Try.prog 19 #[dp g, .int .i64 0] w fun e w' => ∃ ao cap, e = .returned (.tuple #[.slice ao 69 cap, .int .i64 0]) ∧ Rd8 w' ao 69 cap (pageN 0 o7 zO zO zO) ∧ Below w.heap.size w w' := by
  refine (read_ok g V L1 0 w h.s.d (by simp [L1])).mono ?_
  rintro e w' ⟨ao, n, cap, rfl, ho, hn, hb⟩
  rw [L1_at] at ho
  have ho2 := ho
  obtain rfl : n = 69 := ho2.len.symm.trans (pageN_length _ _ _ _ _)
  exact ⟨ao, cap, rfl, ho2.rd, hb⟩

theorem back7 (ao : Option Addr) (cap : Nat) (hr : Rd8 w ao 69 cap (pageN 0 o7 zO zO zO)) : Calls Try.prog 20 #[.slice ao 69 cap] w fun e w' => e = .returned (.tuple #[pg7, .int .i64 0]) ∧ Below w.heap.size w w' := by
  refine (read_back 0 o7 zO zO zO ao cap w hr ⟨by omega, by omega⟩ word_7 word_z word_z word_z).mono ?_
  rintro e w' ⟨rfl, hb⟩
  rw [can0, can7]
  exact ⟨rfl, hb⟩

theorem get8 (h : Ex w B gp gf g gl gt V L1 [x8]) : Calls Try.prog 8 #[tp gp, .int .i64 2] w fun e w' => e = .returned (.tuple #[pg8, .int .i64 0]) ∧ Goes w w' B gp gf g gl gt L1 [x8] := by
  refine (pool_get_ok gp gf g gl V L1 [x8] 0 2 0 (by simp) w h.lt h.v (loads_hit h.s 2 (by decide))).mono ?_
  rintro e w' ⟨rfl, hl⟩
  exact ⟨rfl, h.left hl⟩

/-! ### what is pinned stays -/

abbrev y0 (k : Nat) : Fr := ⟨true, 0, 0, zO, zO, zO, zO, false, k, true⟩
abbrev y1 : Fr := ⟨true, 1, 0, zO, zO, zO, zO, false, 1, true⟩

theorem get3 (h : Ex w B gp gf g gl gt V L0 [Fr.e]) : Calls Try.prog 8 #[tp gp, .int .i64 3] w fun e w' => e = .returned (.tuple #[.agg #[.int .i64 0, .complex .f64 0 0, .complex .f64 0 0, .complex .f64 0 0, .complex .f64 0 0], .int .i64 51]) ∧ Below w.heap.size w w' :=
  pool_get_bad gp gf g gl V L0 [Fr.e] 0 3 w h.s (none_one rfl) (by decide)

theorem unpin_first (h : Ex w B gp gf g gl gt V L0 [Fr.e]) : Calls Try.prog 10 #[tp gp, .int .i64 0] w fun e w' => e = .returned (.int .i64 81) ∧ w' = w :=
  pool_unpin_none gp gf g gl [Fr.e] 0 0 w h.s.p (none_one rfl)

theorem pin0 (h : Ex w B gp gf g gl gt V L0 [Fr.e]) : Calls Try.prog 11 #[tp gp, .int .i64 0] w fun e w' => e = .returned (.int .i64 0) ∧ Goes w w' B gp gf g gl gt L0 [y0 1] := by
  refine (pool_pin_ok gp gf g gl V L0 [Fr.of 0 0 zO zO zO zO] 0 0 0 (by simp) w (by decide) (loads_first h 0 (by simp) rfl)).mono ?_
  rintro e w' ⟨rfl, hl⟩
  exact ⟨rfl, h.left hl⟩

theorem pin1_full (h : Ex w B gp gf g gl gt V L0 [y0 1]) : Calls Try.prog 11 #[tp gp, .int .i64 1] w fun e w' => e = .returned (.int .i64 81) ∧ Goes w w' B gp gf g gl gt L0 [y0 1] := by
  refine (pool_pin_full gp gf g gl V L0 [y0 1] 0 1 w (full_pinned h.s 1 (by simp) rfl (by decide) rfl (by decide))).mono ?_
  rintro e w' ⟨rfl, hs, hO⟩
  exact ⟨rfl, ⟨V, h.stay hs hO⟩, hO⟩

theorem unpin0 (h : Ex w B gp gf g gl gt V L0 [y0 1]) : Calls Try.prog 10 #[tp gp, .int .i64 0] w fun e w' => e = .returned (.int .i64 0) ∧ Goes w w' B gp gf g gl gt L0 [y0 0] := by
  refine (pool_unpin_ok gp gf g gl V L0 [y0 1] 0 0 0 (by simp) 0 w h.s (by intro j hj; omega) (by decide) rfl (by omega)).mono ?_
  rintro e w' ⟨rfl, hs, hO⟩
  exact ⟨rfl, ⟨V, h.stay hs hO⟩, hO⟩

theorem pin1 (h : Ex w B gp gf g gl gt V L0 [y0 0]) : Calls Try.prog 11 #[tp gp, .int .i64 1] w fun e w' => e = .returned (.int .i64 0) ∧ Goes w w' B gp gf g gl gt L0 [y1] := by
  refine (pool_pin_ok gp gf g gl V L0 [Fr.of 1 0 zO zO zO zO] 0 1 0 (by simp) w (by decide) (loads_over h.s 1 (by simp) rfl (by decide) rfl rfl rfl (over_clean rfl))).mono ?_
  rintro e w' ⟨rfl, hl⟩
  exact ⟨rfl, h.left hl⟩
end

/-- A new pool of one frame, in front of a new drive of three sectors and the log of a new tape. -/
theorem Ex.start {w w1 w2 w3 w4 : World} {gl : Nat} (hD : ∀ V : Nat → Prop, ¬ V w.heap.size → Drv w1 w.heap.size V (List.replicate (newN 3) Sec.e)) (hs1 : w1.heap.size = w.heap.size + 2)
    (hb2 : Below w1.heap.size w1 w2) (hs2 : w2.heap.size = w1.heap.size + 1) (hG : LogAt w3 w1.heap.size gl w1.heap.size none 0 0 [] 0 100 0) (hb3 : Below w1.heap.size w2 w3) (hgl : w2.heap.size ≤ gl)
    (hP : Pl w4 (w3.heap.size + 1) w3.heap.size w.heap.size gl (List.replicate 1 Fr.e) 0) (hb4 : Below w3.heap.size w3 w4) : Ex w4 w1.heap.size (w3.heap.size + 1) w3.heap.size w.heap.size gl w1.heap.size (fun _ => False) L0 [Fr.e] := by
  have hd1 : Drv w1 w.heap.size (fun _ => False) L0 := hD (fun _ => False) (fun h => h)
  have hb13 : Below w1.heap.size w1 w3 := hb2.trans hb3
  have hs3 := hb3.size
  have hgt := hG.l.lt
  exact ⟨⟨hP, (hd1.below hb13).below hb4, by omega, by omega, by omega, by omega, fun h => h, fun h => h⟩, hG.below hb4, fun k hk => hk.elim, ⟨by omega, by omega, by omega⟩, ⟨by omega, by omega, by omega⟩⟩

end Go.Proofs.Ythmoiogmdgdflaa
