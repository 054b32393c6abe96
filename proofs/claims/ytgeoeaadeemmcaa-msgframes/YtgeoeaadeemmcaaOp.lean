/- What comes in as a packet, by value. -/
import Derived.Test.YtgeoeaadeemmcaaPa
import Derived.Test.YtgeoeaadeemmcaaCr7
import Derived.Deep.Slices
import Derived.ChangeSame
import Derived.ChangeSlices
import Derived.SizedLaws
import Derived.OpenShut
import Derived.RowKit3
namespace Go.Proofs.Ytgeoeaadeemmcaa
open Go.RowKit Go.ChangeShapes Go.WideShapes
set_option linter.unusedVariables false

theorem cells3 : Try.prog.cellsOf 3 = 1 := by kernel_rfl
theorem cells4 : Try.prog.cellsOf 4 = 1 := by kernel_rfl
theorem cells5 : Try.prog.cellsOf 5 = 1 := by kernel_rfl
theorem cells22 : Try.prog.cellsOf 22 = 1 := by kernel_rfl
theorem cells39 : Try.prog.cellsOf 39 = 7 := by kernel_rfl
theorem bytesOf5 : Try.prog.bytesOf 5 = 1 := by kernel_rfl

theorem bytes_of {H : Type} {enc : TypeId × Value → H} {W : World} {fuel : Nat} {cs : List Value} {x : DataW H × List MemPlace} (h : DataW.trod enc Try.prog W 0 (fun _ => true) true fuel 22 cs = some x) (hw : ∀ n ∈ x.1.weights Try.prog 22, n ≤ reachBytes) :
    ∃ ao m cap bs, cs = [.slice ao m cap] ∧ Rd8 W ao m cap bs ∧ m ≤ 140737488351232 := by
  rcases open_ints Try.underlying22 Try.underlying5 cells5 h with ⟨hcs, _⟩ | ⟨y, l, c, zs, hcs, _, hl, hm, hz, hx, hcell, hwz⟩
  · exact ⟨none, 0, 0, [], hcs, Rd8.empty W, by omega⟩
  · have hz2 : zs.length = c := by simpa using hz
    obtain ⟨bs, hbs⟩ := rd8_of (n := l) (rdI_of_row hl hm hz2 hcell) (by simp; omega) (fun z h => hwz z (List.mem_of_mem_take h))
    refine ⟨some y, l, c, bs, hcs, hbs, ?_⟩
    subst hx
    have := hw (((lits (H := H) .u8 (zs.take l)).length + (lits (H := H) .u8 (zs.drop l)).length) * Try.prog.bytesOf 5) (by simp [DataW.weights, Try.underlying22])
    rw [bytesOf5] at this
    simp only [lits, List.length_map, List.length_take, List.length_drop, reachBytes] at this
    omega

set_option maxRecDepth 100000 in
theorem open_packet {H : Type} {enc : TypeId × Value → H} {W : World} {r : Reach} {b0 : Nat} {v : Value} {d : DataW H} {p : List MemPlace}
    (hv : Value.okWide Try.prog W r b0 39 v) (h : DataW.Trod enc Try.prog W 0 (fun _ => true) true 39 v d p) (hw : ∀ n ∈ d.weights Try.prog 39, n ≤ reachBytes) :
    ∃ (P : PkG) (ao : Option Addr) (n cap : Nat), v = pkV P ao n cap ∧ Rd8 W ao n cap P.bs ∧ n ≤ 140737488351232 := by
  simp only [Value.okWide, Try.underlying39] at hv
  obtain ⟨cs, rfl, hsz, _⟩ := hv
  rw [cells39] at hsz
  obtain ⟨l⟩ := cs
  match l, hsz with
  | [c0, c1, c2, c3, c4, c5, c6], _ =>
    obtain ⟨fuel, hf⟩ := h
    obtain ⟨xs, k, hk, hxy, _, hxl, hi⟩ := DataW.trod_struct Try.underlying39 hf
    match xs, hxl with
    | [y0, y1, y2, y3, y4, y5, y6], _ =>
      have h0 := hi 0 _ rfl
      have h1 := hi 1 _ rfl
      have h2 := hi 2 _ rfl
      have h3 := hi 3 _ rfl
      have h4 := hi 4 _ rfl
      have h5 := hi 5 _ rfl
      have h6 := hi 6 _ rfl
      simp [cells3, cells4, cells22, Value.cells] at h0 h1 h2 h3 h4 h5 h6
      obtain ⟨z0, e0, _, _⟩ := DataW.trod_int Try.underlying3 h0
      obtain ⟨z1, e1, _, _⟩ := DataW.trod_int Try.underlying3 h1
      obtain ⟨z2, e2, _, _⟩ := DataW.trod_int Try.underlying3 h2
      obtain ⟨z3, e3, _, _⟩ := DataW.trod_int Try.underlying3 h3
      obtain ⟨z4, e4, _, _⟩ := DataW.trod_int Try.underlying3 h4
      obtain ⟨z5, e5, _⟩ := DataW.trod_bool Try.underlying4 h5
      have hd : d = .agg [y0.1, y1.1, y2.1, y3.1, y4.1, y5.1, y6.1] := by have := (Prod.mk.inj hxy).1; simpa using this
      obtain ⟨ao, mm, cc, bs, e6, hr, hs⟩ := bytes_of h6 (by
        intro k hk
        refine hw k ?_
        rw [hd]
        simp only [DataW.weights, Try.underlying39]
        simp [DataW.weightsEach, hk])
      simp only [List.cons.injEq, and_true] at e0 e1 e2 e3 e4 e5 e6
      subst e0 e1 e2 e3 e4 e5 e6
      exact ⟨⟨z0, z1, z2, z3, z4, z5, bs⟩, ao, mm, cc, rfl, hr, hs⟩

end Go.Proofs.Ytgeoeaadeemmcaa
