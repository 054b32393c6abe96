/- What comes in as an array of six slices of bytes. -/
import Derived.Test.YtnapkcejpllmcaaAc
import Derived.Test.YtnapkcejpllmcaaS4
namespace Go.Proofs.Ytnapkcejpllmcaa
open Go.RowKit Go.ChangeShapes Go.WideShapes
set_option linter.unusedVariables false

theorem cells56 : Try.prog.cellsOf 56 = 6 := by kernel_rfl

theorem rd_of {H : Type} {enc : TypeId × Value → H} {W : World} {fuel : Nat} {cs : List Value} {x : DataW H × List MemPlace} (h : DataW.trod enc Try.prog W 0 (fun _ => true) true fuel 22 cs = some x) :
    ∃ p : Pt, cs = [.slice p.ao p.n p.cap] ∧ Rd8 W p.ao p.n p.cap p.bs := by
  rcases open_ints Try.underlying22 Try.underlying5 cells5 h with ⟨hcs, _⟩ | ⟨y, l, c, zs, hcs, _, hl, hm, hz, hx, hcell, hwz⟩
  · exact ⟨⟨none, 0, 0, []⟩, hcs, Rd8.empty W⟩
  · have hz2 : zs.length = c := by simpa using hz
    obtain ⟨bs, hbs⟩ := rd8_of (n := l) (rdI_of_row hl hm hz2 hcell) (by simp; omega) (fun z h => hwz z (List.mem_of_mem_take h))
    exact ⟨⟨some y, l, c, bs⟩, hcs, hbs⟩

theorem open_six {H : Type} {enc : TypeId × Value → H} {W : World} {r : Reach} {b0 : Nat} {v : Value} {d : DataW H} {p : List MemPlace}
    (hv : Value.okWide Try.prog W r b0 56 v) (h : DataW.Trod enc Try.prog W 0 (fun _ => true) true 56 v d p) :
    ∃ x0 x1 x2 x3 x4 x5 : Pt, v = .agg #[.slice x0.ao x0.n x0.cap, .slice x1.ao x1.n x1.cap, .slice x2.ao x2.n x2.cap, .slice x3.ao x3.n x3.cap, .slice x4.ao x4.n x4.cap, .slice x5.ao x5.n x5.cap] ∧
      ∀ q ∈ [x0, x1, x2, x3, x4, x5], Rd8 W q.ao q.n q.cap q.bs := by
  simp only [Value.okWide, Try.underlying56] at hv
  obtain ⟨cs, rfl, hsz, _⟩ := hv
  rw [cells56] at hsz
  obtain ⟨l⟩ := cs
  match l, hsz with
  | [c0, c1, c2, c3, c4, c5], _ =>
    obtain ⟨fuel, hf⟩ := h
    obtain ⟨ys, m, _, hx, _, hl, hi⟩ := DataW.trod_array Try.underlying56 hf
    match ys, hl with
    | [y0, y1, y2, y3, y4, y5], _ =>
      have h0 := hi 0 (by omega)
      have h1 := hi 1 (by omega)
      have h2 := hi 2 (by omega)
      have h3 := hi 3 (by omega)
      have h4 := hi 4 (by omega)
      have h5 := hi 5 (by omega)
      simp only [cells22, Value.cells] at h0 h1 h2 h3 h4 h5
      obtain ⟨p0, e0, r0⟩ := rd_of h0
      obtain ⟨p1, e1, r1⟩ := rd_of h1
      obtain ⟨p2, e2, r2⟩ := rd_of h2
      obtain ⟨p3, e3, r3⟩ := rd_of h3
      obtain ⟨p4, e4, r4⟩ := rd_of h4
      obtain ⟨p5, e5, r5⟩ := rd_of h5
      simp at e0 e1 e2 e3 e4 e5
      subst e0 e1 e2 e3 e4 e5
      refine ⟨p0, p1, p2, p3, p4, p5, rfl, ?_⟩
      intro q hq
      simp at hq
      rcases hq with rfl | rfl | rfl | rfl | rfl | rfl
      all_goals assumption

end Go.Proofs.Ytnapkcejpllmcaa
