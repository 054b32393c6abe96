/- A parameter that is an array of two arrays of two bytes, by value: opened. -/
import Derived.Test.YtdnebhhmjmcfjaaCr7
import Derived.ProofKit
import Derived.OpenShut
namespace Go.Proofs.Ytdnebhhmjmcfjaa
open Go.ChangeShapes Go.WideShapes Go.RowKit
set_option linter.unusedVariables false

theorem cell5 : Try.prog.cellsOf 5 = 1 := by kernel_rfl
theorem cell38 : Try.prog.cellsOf 38 = 2 := by kernel_rfl
theorem cell39 : Try.prog.cellsOf 39 = 4 := by kernel_rfl

theorem u8_of {a : Int} (h : (Lit.int .u8 a).wf = true) : ∃ m : Nat, a = (m : Int) ∧ m < 256 := by
  simp [Lit.wf, IntKind.min, IntKind.max, IntKind.bits, IntKind.signed] at h
  exact ⟨a.toNat, by omega, by omega⟩

theorem open_grid {H : Type} {enc : TypeId × Value → H} {w : World} {base : Nat} {spare : Nat → Bool} {held : Bool} {r : Reach} {b0 : Nat} {v : Value} {d : DataW H} {p : List MemPlace}
    (hv : Value.okWide Try.prog w r b0 39 v) (h : DataW.Trod enc Try.prog w base spare held 39 v d p) :
    ∃ x y z t : Nat, v = .agg #[.int .u8 (x : Int), .int .u8 (y : Int), .int .u8 (z : Int), .int .u8 (t : Int)] ∧ x < 256 ∧ y < 256 ∧ z < 256 ∧ t < 256 := by
  simp only [Value.okWide, Try.underlying39] at hv
  obtain ⟨cs, rfl, hsz, _⟩ := hv
  rw [cell39] at hsz
  obtain ⟨l⟩ := cs
  match l, hsz with
  | [c0, c1, c2, c3], _ =>
    obtain ⟨fuel, hf⟩ := h
    obtain ⟨ys, m, _, hx, _, hl, hi⟩ := DataW.trod_array Try.underlying39 hf
    match ys, hl with
    | [y0, y1], _ =>
      have h0 := hi 0 (by omega)
      have h1 := hi 1 (by omega)
      simp only [cell38, Value.cells] at h0 h1
      obtain ⟨us, m0, _, _, _, hl0, hi0⟩ := DataW.trod_array Try.underlying38 h0
      obtain ⟨vs, m1, _, _, _, hl1, hi1⟩ := DataW.trod_array Try.underlying38 h1
      match us, hl0, vs, hl1 with
      | [u0, u1], _, [v0, v1], _ =>
        have g0 := hi0 0 (by omega)
        have g1 := hi0 1 (by omega)
        have g2 := hi1 0 (by omega)
        have g3 := hi1 1 (by omega)
        simp only [cell5] at g0 g1 g2 g3
        obtain ⟨a, e0, _, wa⟩ := DataW.trod_int Try.underlying5 g0
        obtain ⟨b, e1, _, wb⟩ := DataW.trod_int Try.underlying5 g1
        obtain ⟨c, e2, _, wc⟩ := DataW.trod_int Try.underlying5 g2
        obtain ⟨d, e3, _, wd⟩ := DataW.trod_int Try.underlying5 g3
        simp at e0 e1 e2 e3
        subst e0 e1 e2 e3
        obtain ⟨x, rfl, hx⟩ := u8_of wa
        obtain ⟨y, rfl, hy⟩ := u8_of wb
        obtain ⟨z, rfl, hz⟩ := u8_of wc
        obtain ⟨t, rfl, ht⟩ := u8_of wd
        exact ⟨x, y, z, t, rfl, hx, hy, hz, ht⟩

end Go.Proofs.Ytdnebhhmjmcfjaa
