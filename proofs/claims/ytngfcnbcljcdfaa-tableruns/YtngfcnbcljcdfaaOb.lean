/- What comes in: an act by value. -/
import Derived.Test.YtngfcnbcljcdfaaOa
namespace Go.Proofs.Ytngfcnbcljcdfaa
open Go.RowKit Go.ChangeShapes Go.WideShapes
set_option linter.unusedVariables false

set_option maxRecDepth 100000 in
theorem open_act {H : Type} {enc : TypeId × Value → H} {W : World} {r : Reach} {b0 : Nat} {v : Value} {d : DataW H} {p : List MemPlace}
    (hv : Value.okWide Try.prog W r b0 32 v) (h : DataW.Trod enc Try.prog W 0 (fun _ => true) true 32 v d p) :
    ∃ g : ActG, v = .agg #[.int .i64 g.k, .int .i64 g.c, .int .i64 g.p, .int .i64 g.a, .int .i64 g.b] := by
  simp only [Value.okWide, Try.underlying32] at hv
  obtain ⟨cs, rfl, hsz, _⟩ := hv
  rw [cells32] at hsz
  obtain ⟨l⟩ := cs
  obtain ⟨fuel, hf⟩ := h
  obtain ⟨g, hg⟩ := act_of (cs := l) (by simpa using hsz) (by simpa [Value.cells] using hf)
  exact ⟨g, by rw [hg]⟩

end Go.Proofs.Ytngfcnbcljcdfaa
