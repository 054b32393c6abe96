/- What an append to an empty slice that was just built leaves: a new block, wherever the empty one lies. -/
import Derived.Test.YtnapkcejpllmcaaKp
namespace Go.Proofs.Ytnapkcejpllmcaa
open Go.RowKit
set_option linter.unusedVariables false

/-- The slice is new since w: none of its elements lies in what was there, and it begins at the first new block. -/
structure Fresh (w w' : World) (e : TypeId) (ao : Option Addr) (cap : Nat) (ys : List Value) : Prop where
  nil : ao = none → cap = 0
  le : ys.length ≤ cap
  mx : cap ≤ maxLen
  below : Below w.heap.size w w'
  own : ys ≠ [] → ao = some ⟨w.heap.size, 0, none⟩ ∧ OwnS w' w.heap.size e ao cap ys

theorem run_append_new {P : Program} {w : World} (t ty e : TypeId) (z : Value) (bytes : Nat) (ht : P.underlying t = some (.slice e))
    (hinfo : (P.info? e).map (fun i => (i.zero, i.size, i.bytes)) = some (some z, 1, bytes)) (hzs : z.cells.size = 1) (ad : Addr)
    {ao' : Option Addr} {cap' : Nat} {ys : List Value} (hrd : RdS w ao' cap' ys) (h1 : ∀ u ∈ ys, u.oneCell' = true) (hbytes : ys.length * bytes ≤ 140737488355328) (h63 : ys.length ≤ maxLen) :
    ∃ ao2 cap2 w', (Builtin.append_ #[t, t] ty #[.slice (some ad) 0 0, .slice ao' ys.length cap']).run P w = .ok (.slice ao2 ys.length cap2) w' ∧ Fresh w w' e ao2 cap2 ys := by
  obtain ⟨i, hi, hz0, hz1, hz2⟩ := info_parts hinfo
  by_cases hy : ys = []
  · subst hy
    refine ⟨some ad, 0, w, ?_, ⟨fun h => (by cases h), by simp, by simp, Below.refl _ _, fun h => absurd rfl h⟩⟩
    cases ao' with
    | none =>
      have := hrd.nil rfl
      subst this
      simp [Builtin.append_, run_underlying ht, sizeOf, typeInfo, hi, Builtin.lenOf, Builtin.firstCells, storeCells]
    | some a =>
      simp [Builtin.append_, run_underlying ht, sizeOf, typeInfo, hi, Builtin.lenOf, Builtin.firstCells, loadCells, loadCellsFrom, storeCells]
  · obtain ⟨b, off, rfl, _, hc⟩ := hrd.cell hy
    have hm : 0 < ys.length := List.length_pos_iff.2 hy
    have h63' := h63
    simp only [maxLen] at h63'
    have hr := run_append_grow (P := P) w t ty e i z ht hi hz0 ad 0 0 [] (by simp) (by intro j u h; simp at h) ⟨b, off, none⟩ ys.length cap' ys (by rw [hz1]; simp) (by
      intro j u h
      obtain ⟨hj, rfl⟩ := List.getElem?_eq_some_iff.1 h
      rw [Addr.add_lit]
      exact hc j hj) (by omega) (by omega) (growslice_fits (by omega) (by rw [hz2]; simpa using hbytes))
    simp only [Nat.zero_add] at hr
    have hge := grownCap_ge w ys.length 0 e
    have hcm := grownCap_le_maxLen w ys.length 0 e h63
    refine ⟨_, _, _, hr, ⟨fun h => (by cases h), hge, hcm, ?_, fun _ => ⟨rfl, ?_⟩⟩⟩
    · exact (Below.refl _ _).drew.alloc (by simp) _
    · refine ⟨by simp, .inr ⟨w.heap.size, _, _, rfl, Nat.le_refl _, heap_alloc_new w.drew _, hge, hcm, ?_, ?_⟩⟩
      · simp only [Array.size_append, List.size_toArray, size_zeroCells, hzs, List.length_nil, Nat.mul_one]
        omega
      · simp

theorem step_append_new {P : Program} (w : World) {ops : Array Oper} {o : Oper} {a : Act} {K : Act → World → Prop} {Q : Exit → Act → World → Prop} {E : Prop} (hgd : o.guard = none) (s x : Operand) (t : TypeId)
    (ho : o.op = .call { callee := .builtin .append, args := #[s, x], argTypes := #[t, t] })
    (e : TypeId) (z : Value) (bytes : Nat) (ht : P.underlying t = some (.slice e))
    (hinfo : (P.info? e).map (fun i => (i.zero, i.size, i.bytes)) = some (some z, 1, bytes)) (hzs : z.cells.size = 1) {ad : Addr}
    {ao' : Option Addr} {cap' m : Nat} {ys : List Value}
    (hs : a.eval s = .slice (some ad) 0 0) (hx : a.eval x = .slice ao' m cap') (hrd : RdS w ao' cap' ys) (hm : ys.length = m) (h1 : ∀ u ∈ ys, u.oneCell' = true)
    (hbytes : m * bytes ≤ 140737488355328) (h63 : m ≤ maxLen)
    (h : ∀ ao2 cap2 w', Fresh w w' e ao2 cap2 ys → K (a.put o.dst (.slice ao2 m cap2)) w') :
    if Region.wanted o (yielded ops a.tmps) = true then Oper.wp P o a w K Q else E := by
  have hw : Region.wanted o (yielded ops a.tmps) = true := by simp [Region.wanted, hgd]
  rw [if_pos hw]
  subst hm
  obtain ⟨ao2, cap2, w', hr, h2⟩ := run_append_new (P := P) t o.type e z bytes ht hinfo hzs ad hrd h1 hbytes h63
  unfold Oper.wp execOp
  simp only [ho, resolve, invoke, builtin, Sem.run_bind, Sem.run_pure, Result.andThen_ok, List.map_toArray, List.map_cons, List.map_nil, hs, hx, hr]
  exact h ao2 cap2 w' h2

/-- Where what an append leaves begins: where it began, or at the first new block. -/
theorem run_append_where {P : Program} {w : World} (base : Nat) (t ty e : TypeId) (z : Value) (bytes : Nat) (ht : P.underlying t = some (.slice e))
    (hinfo : (P.info? e).map (fun i => (i.zero, i.size, i.bytes)) = some (some z, 1, bytes)) (hzs : z.cells.size = 1)
    {ao : Option Addr} {cap : Nat} {xs : List Value} (hown : OwnS w base e ao cap xs) {ao' : Option Addr} {cap' : Nat} {ys : List Value} (hrd : RdS w ao' cap' ys) (hy : ys ≠ [])
    (h1 : ∀ u ∈ ys, u.oneCell' = true) (hbytes : (xs.length + ys.length) * bytes ≤ 140737488355328) (h63 : xs.length + ys.length ≤ maxLen) (hbase : base ≤ w.heap.size) :
    ∃ ao2 cap2 w', (Builtin.append_ #[t, t] ty #[.slice ao xs.length cap, .slice ao' ys.length cap']).run P w = .ok (.slice ao2 (xs.length + ys.length) cap2) w' ∧
      OwnS w' base e ao2 cap2 (xs ++ ys) ∧ w.grownBy w' (Value.ownBlock (.slice ao xs.length cap)) ∧ (ao2 = ao ∨ ao2 = some ⟨w.heap.size, 0, none⟩) := by
  obtain ⟨ao2, cap2, w', hr, h2, h3⟩ := run_append_g (P := P) base t ty e z bytes ht hinfo hzs hown hrd h1 hbytes h63 hbase
  refine ⟨ao2, cap2, w', hr, h2, h3, ?_⟩
  obtain ⟨i, hi, hz0, hz1, hz2⟩ := info_parts hinfo
  obtain ⟨b, off, rfl, _, hc⟩ := hrd.cell hy
  have hm : 0 < ys.length := List.length_pos_iff.2 hy
  have h63' := h63
  simp only [maxLen] at h63'
  have hnews : ∀ j u, ys[j]? = some u → w.cell? ((⟨b, off, none⟩ : Addr).add j) = some u := by
    intro j u h
    obtain ⟨hj, rfl⟩ := List.getElem?_eq_some_iff.1 h
    rw [Addr.add_lit]
    exact hc j hj
  have hown' := hown
  obtain ⟨q1, q2⟩ := hown'
  rcases q2 with ⟨hv, hn⟩ | ⟨g, cp, cur, hv, hg, hh, hle, hmx, hsz, htk⟩
  · have hx : xs = [] := List.eq_nil_of_length_eq_zero hn
    subst hx
    simp only [List.length_nil, Value.slice.injEq, true_and] at hv
    obtain ⟨rfl, rfl⟩ := hv
    have hr2 := run_append_nil (P := P) w t ty e i z ht hi hz0 ⟨b, off, none⟩ ys.length cap' ys (by rw [hz1]; simp) hnews (by omega) (by simp at h63'; omega) (by rw [hz2]; simp at hbytes; omega)
    simp only [List.length_nil] at hr
    rw [hr2] at hr
    simp only [Result.ok.injEq, Value.slice.injEq] at hr
    exact .inr hr.1.1.symm
  · simp only [Value.slice.injEq] at hv
    obtain ⟨rfl, _, rfl⟩ := hv
    by_cases hroom : xs.length + ys.length ≤ cap
    · have hr2 := run_append_room (P := P) w t ty e i ht hi g xs.length cap cur hh ⟨b, off, none⟩ ys.length cap' ys (by rw [hz1]; simp) hnews h1 hroom (by rw [hz1]; omega)
      rw [hr2] at hr
      simp only [Result.ok.injEq, Value.slice.injEq] at hr
      exact .inl hr.1.1.symm
    · have holds : ∀ j u, xs[j]? = some u → w.cell? ((⟨g, 0, none⟩ : Addr).add j) = some u := by
        have := World.ownsRow.cells hown (g := g) rfl
        exact this
      have hr2 := run_append_grow (P := P) w t ty e i z ht hi hz0 ⟨g, 0, none⟩ xs.length cap xs (by rw [hz1]; simp) holds ⟨b, off, none⟩ ys.length cap' ys (by rw [hz1]; simp) hnews (by omega) (by omega) (growslice_fits (by omega) (by rw [hz2]; exact hbytes))
      rw [hr2] at hr
      simp only [Result.ok.injEq, Value.slice.injEq] at hr
      exact .inr hr.1.1.symm

end Go.Proofs.Ytnapkcejpllmcaa
