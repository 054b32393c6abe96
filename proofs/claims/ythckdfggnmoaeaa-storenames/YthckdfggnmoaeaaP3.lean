/- What the functions of package pool do, walked: flush, and sweep with one frame. -/
import Derived.Test.YthckdfggnmoaeaaP2
namespace Go.Proofs.Ythckdfggnmoaeaa
open Go.RowKit
set_option linter.unusedVariables false

/-- The pointer to a frame. -/
abbrev fp (gf i : Nat) : Value := .pointer (some ⟨gf, i * 10, none⟩)

theorem flush_clean (gp gf g gl : Nat) (F : List Fr) (hd : Nat) (i : Nat) (hi : i < F.length) (w : World) (h : Pl w gp gf g gl F hd) (hd0 : F[i].dr = false) :
    Calls Try.prog 82 #[tp gp, fp gf i] w fun e w' => e = .returned (.tuple #[]) ∧ w' = w := by
  have c7 := h.cell i hi 7 _ rfl
  rw [hd0] at c7
  go_enter Try.func82, Try.ntmps82
  go_wp2
  refine bodyPost_ret (results_none rfl _ _ _) rfl ?_
  exact ⟨rfl, rfl⟩

/-- The page of a frame as bytes. -/
def Fr.bytes (x : Fr) : List Nat := pageN x.l x.a x.b x.c x.d

/-- A frame whose page can be written. -/
structure FrOk (L : List Sec) (x : Fr) (n : Nat) : Prop where
  nm : x.nm = (n : Int)
  lt : n < L.length
  l : lsnB x.l = true
  a : wordB x.a
  b : wordB x.b
  c : wordB x.c
  d : wordB x.d

def Fr.clean (x : Fr) : Fr := { x with dr := false }

set_option maxHeartbeats 800000 in
theorem flush_dirty (gp gf g gl : Nat) (V : Nat → Prop) (L : List Sec) (F : List Fr) (hd : Nat) (i n : Nat) (hi : i < F.length) (z : Int) (w : World) (h : St w gp gf g gl V L F hd) (hd1 : F[i].dr = true) (hok : FrOk L F[i] n) (hlz : F[i].l ≤ z) (hln : n < L.length)
    (HD : ∀ W, Below w.heap.size w W → Calls Try.prog 42 #[tp gl] W fun x w' => x = .returned (.int .i64 z) ∧ Below W.heap.size W w') :
    Calls Try.prog 82 #[tp gp, fp gf i] w fun e w' => e = .returned (.tuple #[]) ∧ ∃ V', St w' gp gf g gl V' (L.set n (L[n].wrote F[i].bytes)) (F.set i F[i].clean) hd ∧ (∀ k, k < w.heap.size → V' k → V k) ∧ Off3 gp gf g w w' := by
  have HH : Hid (∀ W, Below w.heap.size w W → Calls Try.prog 42 #[tp gl] W fun x w' => x = .returned (.int .i64 z) ∧ Below W.heap.size W w') := HD
  clear HD
  have hw := h.below ((Below.refl _ _).drew)
  have p0 := h.p.c0
  have p1 := h.p.c1
  have c2 := h.p.cell i hi 2 _ rfl
  have c3 := h.p.cell i hi 3 _ rfl
  have c4 := h.p.cell i hi 4 _ rfl
  have c5 := h.p.cell i hi 5 _ rfl
  have c6 := h.p.cell i hi 6 _ rfl
  have c7 := h.p.cell i hi 7 _ rfl
  rw [hd1] at c7
  have HN : Hid (F[i].nm = (n : Int)) := hok.nm
  have HO : Hid (FrOk L F[i] n) := hok
  clear hok
  go_enter Try.func82, Try.ntmps82
  go_wp2
  go_region_with (first
    | (go_at_call 42; refine (HH.out _ ((Below.refl _ _).drew)).mono ?_; rintro e w1 ⟨rfl, hb1⟩; have hw1 := hw.below hb1; have d2 := hw1.p.cell i hi 2 _ rfl)
    | fail)
  all_goals (
    have hB1 : Below w.heap.size w w1 := below_drewn hb1
    have hS1 := h.below hB1
    have k0 := hS1.p.c0
    have k1 := hS1.p.c1
    have e2 := hS1.p.cell i hi 2 _ rfl
    have e3 := hS1.p.cell i hi 3 _ rfl
    have e4 := hS1.p.cell i hi 4 _ rfl
    have e5 := hS1.p.cell i hi 5 _ rfl
    have e6 := hS1.p.cell i hi 6 _ rfl
    clear p0 p1 c2 c3 c4 c5 c6 c7
    go_wp2_with (first
      | (go_at_call 86; refine (bytes_ok F[i].l F[i].a F[i].b F[i].c F[i].d _ HO.out.l HO.out.a HO.out.b HO.out.c HO.out.d).mono ?_; rintro e w2 ⟨ao2, cap2, rfl, ho2, hb2⟩; have hS2 := hS1.below hb2; have m0 := hS2.p.c0; have f1 := hS2.p.cell i hi 1 _ rfl; rw [HN.out] at f1; have hS2d := hS2.below ((Below.refl _ _).drew); have hr2 : Rd8 w2.drew ao2 69 cap2 F[i].bytes := ho2.rd.heap rfl)
      | fail)
    go_region_with (first
      | (go_at_call 87; refine (write_ok g V L n _ _ _ _ _ hS2d.d hln hr2 (by omega)).mono ?_; rintro e w3 ⟨rfl, hD3, hO3⟩; have hP3 := hS2d.p.keep (hO3.block gp hS2d.p.lp hS2d.pg) (hO3.block gf hS2d.p.lf hS2d.fg) hO3.size; have g7 := hP3.cell i hi 7 _ rfl; have y7 := hP3.ff (i * 10 + 7))
      | fail)
    all_goals (
      go_wp2
      go_end0
      have hB2 : Below w.heap.size w w2.drew := (below_step hB1 hb2).drew
      have hO : Off3 gp gf g w w3 := (Off3.of_below hB2).trans (Off3.of_off hO3)
      have hs2 := hB2.size
      have hlp := h.p.lp
      have hlf := h.p.lf
      refine ⟨rfl, fun k => V k ∨ w2.drew.heap.size ≤ k, St.turn ⟨hP3, hD3, h.pg, h.pg1, h.fg, h.fg1, fun hx => ?_, fun hx => ?_⟩ (hP3.put i hi 7 (by omega) (.bool false) F[i].clean rfl) (keepF _ _ _ _ _) (by simp [World.setCell]), fun k hk hx => ?_, hO.setF _ _⟩
      · rcases hx with hx | hx
        · exact h.vp hx
        · omega
      · rcases hx with hx | hx
        · exact h.vf hx
        · omega
      · rcases hx with hx | hx
        · exact hx
        · omega))

end Go.Proofs.Ythckdfggnmoaeaa
