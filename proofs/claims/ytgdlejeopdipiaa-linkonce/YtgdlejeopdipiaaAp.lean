/- What an append leaves: which block it may have written, and where its result begins. -/
import Derived.Test.YtgdlejeopdipiaaSd
import Derived.Deep.RegionHeldLaw
namespace Go.Proofs.Ytgdlejeopdipiaa
open Go.RowKit
set_option linter.unusedVariables false

/-- What an append to a slice of the call's own leaves; which block alone it may have written. -/
theorem run_append_g {P : Program} {w : World} (base : Nat) (t ty e : TypeId) (z : Value) (bytes : Nat) (ht : P.underlying t = some (.slice e))
    (hinfo : (P.info? e).map (fun i => (i.zero, i.size, i.bytes)) = some (some z, 1, bytes)) (hzs : z.cells.size = 1)
    {ao : Option Addr} {cap : Nat} {xs : List Value} (hown : OwnS w base e ao cap xs) {ao' : Option Addr} {cap' : Nat} {ys : List Value} (hrd : RdS w ao' cap' ys)
    (h1 : ∀ u ∈ ys, u.oneCell' = true) (hbytes : (xs.length + ys.length) * bytes ≤ 140737488355328) (h63 : xs.length + ys.length ≤ maxLen) (hbase : base ≤ w.heap.size) :
    ∃ ao2 cap2 w', (Builtin.append_ #[t, t] ty #[.slice ao xs.length cap, .slice ao' ys.length cap']).run P w = .ok (.slice ao2 (xs.length + ys.length) cap2) w' ∧
      OwnS w' base e ao2 cap2 (xs ++ ys) ∧ w.grownBy w' (Value.ownBlock (.slice ao xs.length cap)) := by
  obtain ⟨i0, hi, hz0, hz1, hz2⟩ := info_parts hinfo
  have fin : ∀ v' w', w'.ownsRow base e 1 v' (xs.length + ys.length) (xs ++ ys) → ∃ ao2 cap2, v' = .slice ao2 (xs.length + ys.length) cap2 ∧ OwnS w' base e ao2 cap2 (xs ++ ys) := by
    intro v' w' h
    obtain ⟨h1, h2⟩ := h
    have hlen : (xs ++ ys).length = xs.length + ys.length := by simp
    rcases h2 with ⟨hv, hn⟩ | ⟨g, cp, cur, hv, r⟩
    · exact ⟨none, 0, by rw [hv, hn], by unfold OwnS World.ownsRow; rw [hlen]; exact ⟨by simp, .inl ⟨by rw [hn], hn⟩⟩⟩
    · exact ⟨some ⟨g, 0, none⟩, cp, hv, by unfold OwnS World.ownsRow; rw [hlen]; exact ⟨by simp, .inr ⟨g, cp, cur, rfl, r⟩⟩⟩
  by_cases hy : ys = []
  · subst hy
    cases ao' with
    | none =>
      have hc := hrd.nil rfl
      subst hc
      have hrun := run_append_owned_none (P := P) (w := w) base t ty e i0 1 ht hi _ xs.length xs hown
      refine ⟨ao, cap, w, by simpa using hrun, by simpa using hown, ⟨rfl, rfl, rfl, Nat.le_refl _, fun _ _ _ => rfl⟩⟩
    | some ad =>
      obtain ⟨v', w', hr, h2, h3, _⟩ := run_append_own (P := P) w base t ty e i0 z 1 bytes ht hi hz0 hz1 hz2 hzs (by decide) _ _ _ hown ad 0 cap' [] (by simp) (by intro j u h; simp at h) (by simp) h63 hbytes hbase
      obtain ⟨ao2, cap2, rfl, ho⟩ := fin v' w' h2
      exact ⟨ao2, cap2, w', hr, ho, h3⟩
  · obtain ⟨b, off, rfl, _, hc⟩ := hrd.cell hy
    obtain ⟨v', w', hr, h2, h3, _⟩ := run_append_own (P := P) w base t ty e i0 z 1 bytes ht hi hz0 hz1 hz2 hzs (by decide) _ _ _ hown ⟨b, off, none⟩ ys.length cap' ys (by simp) (by
      intro j u h
      obtain ⟨hj, rfl⟩ := List.getElem?_eq_some_iff.1 h
      rw [Addr.add_lit]
      exact hc j hj) h1 h63 hbytes hbase
    obtain ⟨ao2, cap2, rfl, ho⟩ := fin v' w' h2
    exact ⟨ao2, cap2, w', hr, ho, h3⟩

theorem wpList_append_g {P : Program} (w : World) {ops : Array Oper} {rest : List Oper} {o : Oper} {a : Act} {Q : Exit → Act → World → Prop} (hgd : o.guard = none) (s x : Operand) (t : TypeId)
    (ho : o.op = .call { callee := .builtin .append, args := #[s, x], argTypes := #[t, t] })
    (base : Nat) (e : TypeId) (z : Value) (bytes : Nat) (ht : P.underlying t = some (.slice e))
    (hinfo : (P.info? e).map (fun i => (i.zero, i.size, i.bytes)) = some (some z, 1, bytes)) (hzs : z.cells.size = 1)
    {ao : Option Addr} {cap n : Nat} {xs : List Value} {ao' : Option Addr} {cap' m : Nat} {ys : List Value}
    (hs : a.eval s = .slice ao n cap) (hx : a.eval x = .slice ao' m cap') (hown : OwnS w base e ao cap xs) (hrd : RdS w ao' cap' ys) (hn : xs.length = n) (hm : ys.length = m)
    (h1 : ∀ u ∈ ys, u.oneCell' = true) (hbytes : (n + m) * bytes ≤ 140737488355328) (h63 : n + m ≤ maxLen) (hbase : base ≤ w.heap.size)
    (h : ∀ ao2 cap2 w', OwnS w' base e ao2 cap2 (xs ++ ys) → w.grownBy w' (Value.ownBlock (.slice ao n cap)) → wpList P ops Q rest (a.put o.dst (.slice ao2 (n + m) cap2)) w') : wpList P ops Q (o :: rest) a w := by
  subst hn hm
  refine wpList_plain hgd fun _ hK => ?_
  obtain ⟨ao2, cap2, w', hr, h2, h3⟩ := run_append_g (P := P) base t o.type e z bytes ht hinfo hzs hown hrd h1 hbytes h63 hbase
  unfold Oper.wp execOp
  simp only [ho, resolve, invoke, builtin, Sem.run_bind, Sem.run_pure, Result.andThen_ok, List.map_toArray, List.map_cons, List.map_nil, hs, hx, hr]
  exact hK _ _ (h ao2 cap2 w' h2 h3)

/-- What is of another type is kept by an append. -/
theorem OwnS.other {w w' : World} {base base' : Nat} {e f : TypeId} {ao ao' : Option Addr} {cap n cap' : Nat} {xs ys : List Value} (h : OwnS w base e ao cap xs) (k : OwnS w base' f ao' cap' ys) (hn : ys.length = n) (hne : e ≠ f)
    (hg : w.grownBy w' (Value.ownBlock (.slice ao' n cap'))) : OwnS w' base e ao cap xs := by
  subst hn
  obtain ⟨h1, h2⟩ := h
  refine ⟨h1, ?_⟩
  rcases h2 with h2 | ⟨g, cp, cur, hv, hg2, hh, r⟩
  · exact .inl h2
  · refine .inr ⟨g, cp, cur, hv, hg2, ?_, r⟩
    rw [hg.block g (Array.getElem?_eq_some_iff.1 hh).1 ?_]
    · exact hh
    · intro e2
      obtain ⟨_, k2⟩ := k
      rcases k2 with ⟨kv, _⟩ | ⟨g', cp', cur', kv, _, kh, _⟩
      · rw [kv] at e2; simp [Value.ownBlock] at e2
      · rw [kv] at e2
        simp [Value.ownBlock] at e2
        subst e2
        rw [hh] at kh
        simp only [Option.some.injEq, Obj.cells.injEq] at kh
        exact hne kh.2.1

theorem OwnS.grownBelow {w w' : World} {base : Nat} {e : TypeId} {ao : Option Addr} {cap n : Nat} {xs : List Value} (h : OwnS w base e ao cap xs) (hn : xs.length = n) (hs : base ≤ w.heap.size)
    (hg : w.grownBy w' (Value.ownBlock (.slice ao n cap))) : Below base w w' := by
  subst hn
  exact h.grown (Nat.le_refl _) hs hg

/-- A part, as a value. -/
structure Pt where
  ao : Option Addr
  n : Nat
  cap : Nat
  bs : List Nat

/-- The slice is new since w: none of its elements lies in what was there, and it begins at the first new block. -/
structure Fresh (w w' : World) (e : TypeId) (ao : Option Addr) (cap : Nat) (ys : List Value) : Prop where
  nil : ao = none → cap = 0
  le : ys.length ≤ cap
  mx : cap ≤ maxLen
  below : Below w.heap.size w w'
  own : ys ≠ [] → ao = some ⟨w.heap.size, 0, none⟩ ∧ OwnS w' w.heap.size e ao cap ys

theorem run_append_new {P : Program} {w : World} (t ty e : TypeId) (z : Value) (bytes : Nat) (ht : P.underlying t = some (.slice e))
    (hinfo : (P.info? e).map (fun i => (i.zero, i.size, i.bytes)) = some (some z, 1, bytes)) (hzs : z.cells.size = 1) (ad : Addr)
    {ao' : Option Addr} {cap' : Nat} {ys : List Value} (hrd : RdS w ao' cap' ys) (h1 : ∀ u ∈ ys, u.oneCell' = true) (hbytes : ys.length * bytes ≤ 140737488355328) (h63 : ys.length ≤ maxLen) :
    ∃ ao2 cap2 w', (Builtin.append_ #[t, t] ty #[.slice (some ad) 0 0, .slice ao' ys.length cap']).run P w = .ok (.slice ao2 ys.length cap2) w' ∧ Fresh w w' e ao2 cap2 ys := by
  obtain ⟨i, hi, hz0, hz1, hz2⟩ := info_parts hinfo
  by_cases hy : ys = []
  · subst hy
    refine ⟨some ad, 0, w, ?_, ⟨fun h => (by cases h), by simp, by simp, Below.refl _ _, fun h => absurd rfl h⟩⟩
    cases ao' with
    | none =>
      have := hrd.nil rfl
      subst this
      simp [Builtin.append_, run_underlying ht, sizeOf, typeInfo, hi, Builtin.lenOf, Builtin.firstCells, storeCells]
    | some a =>
      simp [Builtin.append_, run_underlying ht, sizeOf, typeInfo, hi, Builtin.lenOf, Builtin.firstCells, loadCells, loadCellsFrom, storeCells]
  · obtain ⟨b, off, rfl, _, hc⟩ := hrd.cell hy
    have hm : 0 < ys.length := List.length_pos_iff.2 hy
    have h63' := h63
    simp only [maxLen] at h63'
    have hr := run_append_grow (P := P) w t ty e i z ht hi hz0 ad 0 0 [] (by simp) (by intro j u h; simp at h) ⟨b, off, none⟩ ys.length cap' ys (by rw [hz1]; simp) (by
      intro j u h
      obtain ⟨hj, rfl⟩ := List.getElem?_eq_some_iff.1 h
      rw [Addr.add_lit]
      exact hc j hj) (by omega) (by omega) (growslice_fits (by omega) (by rw [hz2]; simpa using hbytes))
    simp only [Nat.zero_add] at hr
    have hge := grownCap_ge w ys.length 0 e
    have hcm := grownCap_le_maxLen w ys.length 0 e h63
    refine ⟨_, _, _, hr, ⟨fun h => (by cases h), hge, hcm, ?_, fun _ => ⟨rfl, ?_⟩⟩⟩
    · exact (Below.refl _ _).drew.alloc (by simp) _
    · refine ⟨by simp, .inr ⟨w.heap.size, _, _, rfl, Nat.le_refl _, heap_alloc_new w.drew _, hge, hcm, ?_, ?_⟩⟩
      · simp only [Array.size_append, List.size_toArray, size_zeroCells, hzs, List.length_nil, Nat.mul_one]
        omega
      · simp

theorem step_append_new {P : Program} (w : World) {ops : Array Oper} {o : Oper} {a : Act} {K : Act → World → Prop} {Q : Exit → Act → World → Prop} {E : Prop} (hgd : o.guard = none) (s x : Operand) (t : TypeId)
    (ho : o.op = .call { callee := .builtin .append, args := #[s, x], argTypes := #[t, t] })
    (e : TypeId) (z : Value) (bytes : Nat) (ht : P.underlying t = some (.slice e))
    (hinfo : (P.info? e).map (fun i => (i.zero, i.size, i.bytes)) = some (some z, 1, bytes)) (hzs : z.cells.size = 1) {ad : Addr}
    {ao' : Option Addr} {cap' m : Nat} {ys : List Value}
    (hs : a.eval s = .slice (some ad) 0 0) (hx : a.eval x = .slice ao' m cap') (hrd : RdS w ao' cap' ys) (hm : ys.length = m) (h1 : ∀ u ∈ ys, u.oneCell' = true)
    (hbytes : m * bytes ≤ 140737488355328) (h63 : m ≤ maxLen)
    (h : ∀ ao2 cap2 w', Fresh w w' e ao2 cap2 ys → K (a.put o.dst (.slice ao2 m cap2)) w') :
    if Region.wanted o (yielded ops a.tmps) = true then Oper.wp P o a w K Q else E := by
  have hw : Region.wanted o (yielded ops a.tmps) = true := by simp [Region.wanted, hgd]
  rw [if_pos hw]
  subst hm
  obtain ⟨ao2, cap2, w', hr, h2⟩ := run_append_new (P := P) t o.type e z bytes ht hinfo hzs ad hrd h1 hbytes h63
  unfold Oper.wp execOp
  simp only [ho, resolve, invoke, builtin, Sem.run_bind, Sem.run_pure, Result.andThen_ok, List.map_toArray, List.map_cons, List.map_nil, hs, hx, hr]
  exact h ao2 cap2 w' h2

/-- Where what an append leaves begins: where it began, or at the first new block. -/
theorem run_append_where {P : Program} {w : World} (base : Nat) (t ty e : TypeId) (z : Value) (bytes : Nat) (ht : P.underlying t = some (.slice e))
    (hinfo : (P.info? e).map (fun i => (i.zero, i.size, i.bytes)) = some (some z, 1, bytes)) (hzs : z.cells.size = 1)
    {ao : Option Addr} {cap : Nat} {xs : List Value} (hown : OwnS w base e ao cap xs) {ao' : Option Addr} {cap' : Nat} {ys : List Value} (hrd : RdS w ao' cap' ys) (hy : ys ≠ [])
    (h1 : ∀ u ∈ ys, u.oneCell' = true) (hbytes : (xs.length + ys.length) * bytes ≤ 140737488355328) (h63 : xs.length + ys.length ≤ maxLen) (hbase : base ≤ w.heap.size) :
    ∃ ao2 cap2 w', (Builtin.append_ #[t, t] ty #[.slice ao xs.length cap, .slice ao' ys.length cap']).run P w = .ok (.slice ao2 (xs.length + ys.length) cap2) w' ∧
      OwnS w' base e ao2 cap2 (xs ++ ys) ∧ w.grownBy w' (Value.ownBlock (.slice ao xs.length cap)) ∧ (ao2 = ao ∨ ao2 = some ⟨w.heap.size, 0, none⟩) := by
  obtain ⟨ao2, cap2, w', hr, h2, h3⟩ := run_append_g (P := P) base t ty e z bytes ht hinfo hzs hown hrd h1 hbytes h63 hbase
  refine ⟨ao2, cap2, w', hr, h2, h3, ?_⟩
  obtain ⟨i, hi, hz0, hz1, hz2⟩ := info_parts hinfo
  obtain ⟨b, off, rfl, _, hc⟩ := hrd.cell hy
  have hm : 0 < ys.length := List.length_pos_iff.2 hy
  have h63' := h63
  simp only [maxLen] at h63'
  have hnews : ∀ j u, ys[j]? = some u → w.cell? ((⟨b, off, none⟩ : Addr).add j) = some u := by
    intro j u h
    obtain ⟨hj, rfl⟩ := List.getElem?_eq_some_iff.1 h
    rw [Addr.add_lit]
    exact hc j hj
  have hown' := hown
  obtain ⟨q1, q2⟩ := hown'
  rcases q2 with ⟨hv, hn⟩ | ⟨g, cp, cur, hv, hg, hh, hle, hmx, hsz, htk⟩
  · have hx : xs = [] := List.eq_nil_of_length_eq_zero hn
    subst hx
    simp only [List.length_nil, Value.slice.injEq, true_and] at hv
    obtain ⟨rfl, rfl⟩ := hv
    have hr2 := run_append_nil (P := P) w t ty e i z ht hi hz0 ⟨b, off, none⟩ ys.length cap' ys (by rw [hz1]; simp) hnews (by omega) (by simp at h63'; omega) (by rw [hz2]; simp at hbytes; omega)
    simp only [List.length_nil] at hr
    rw [hr2] at hr
    simp only [Result.ok.injEq, Value.slice.injEq] at hr
    exact .inr hr.1.1.symm
  · simp only [Value.slice.injEq] at hv
    obtain ⟨rfl, _, rfl⟩ := hv
    by_cases hroom : xs.length + ys.length ≤ cap
    · have hr2 := run_append_room (P := P) w t ty e i ht hi g xs.length cap cur hh ⟨b, off, none⟩ ys.length cap' ys (by rw [hz1]; simp) hnews h1 hroom (by rw [hz1]; omega)
      rw [hr2] at hr
      simp only [Result.ok.injEq, Value.slice.injEq] at hr
      exact .inl hr.1.1.symm
    · have holds : ∀ j u, xs[j]? = some u → w.cell? ((⟨g, 0, none⟩ : Addr).add j) = some u := by
        have := World.ownsRow.cells hown (g := g) rfl
        exact this
      have hr2 := run_append_grow (P := P) w t ty e i z ht hi hz0 ⟨g, 0, none⟩ xs.length cap xs (by rw [hz1]; simp) holds ⟨b, off, none⟩ ys.length cap' ys (by rw [hz1]; simp) hnews (by omega) (by omega) (growslice_fits (by omega) (by rw [hz2]; exact hbytes))
      rw [hr2] at hr
      simp only [Result.ok.injEq, Value.slice.injEq] at hr
      exact .inr hr.1.1.symm

def Pt.val (p : Pt) : Value := .slice p.ao p.n p.cap

/-- The same, also where nothing is appended. -/
theorem run_append_at {P : Program} {w : World} (base : Nat) (t ty e : TypeId) (z : Value) (bytes : Nat) (ht : P.underlying t = some (.slice e))
    (hinfo : (P.info? e).map (fun i => (i.zero, i.size, i.bytes)) = some (some z, 1, bytes)) (hzs : z.cells.size = 1)
    {ao : Option Addr} {cap : Nat} {xs : List Value} (hown : OwnS w base e ao cap xs) {ao' : Option Addr} {cap' : Nat} {ys : List Value} (hrd : RdS w ao' cap' ys)
    (h1 : ∀ u ∈ ys, u.oneCell' = true) (hbytes : (xs.length + ys.length) * bytes ≤ 140737488355328) (h63 : xs.length + ys.length ≤ maxLen) (hbase : base ≤ w.heap.size) :
    ∃ ao2 cap2 w', (Builtin.append_ #[t, t] ty #[.slice ao xs.length cap, .slice ao' ys.length cap']).run P w = .ok (.slice ao2 (xs.length + ys.length) cap2) w' ∧
      OwnS w' base e ao2 cap2 (xs ++ ys) ∧ w.grownBy w' (Value.ownBlock (.slice ao xs.length cap)) ∧ (ao2 = ao ∨ ao2 = some ⟨w.heap.size, 0, none⟩) := by
  by_cases hy : ys = []
  · subst hy
    obtain ⟨i, hi, hz0, hz1, hz2⟩ := info_parts hinfo
    obtain ⟨ao2, cap2, w', hr, h2, h3⟩ := run_append_g (P := P) base t ty e z bytes ht hinfo hzs hown hrd h1 hbytes h63 hbase
    refine ⟨ao2, cap2, w', hr, h2, h3, .inl ?_⟩
    cases ao' with
    | none =>
      have hc := hrd.nil rfl
      subst hc
      have hrun := run_append_owned_none (P := P) (w := w) base t ty e i 1 ht hi _ xs.length xs hown
      simp only [List.length_nil] at hr
      rw [hrun] at hr
      simp only [Result.ok.injEq, Value.slice.injEq] at hr
      exact hr.1.1.symm
    | some ad =>
      have hown' := hown
      obtain ⟨q1, q2⟩ := hown'
      rcases q2 with ⟨hv, hn⟩ | ⟨g, cp, cur, hv, hg, hh, hle, hmx, hsz, htk⟩
      · have hx : xs = [] := List.eq_nil_of_length_eq_zero hn
        subst hx
        simp only [List.length_nil, Value.slice.injEq, true_and] at hv
        obtain ⟨rfl, rfl⟩ := hv
        obtain ⟨v', w2, hr2, _, _, hq⟩ := run_append_own (P := P) w base t ty e i z 1 bytes ht hi hz0 hz1 hz2 hzs (by decide) _ _ _ hown ad 0 cap' [] (by simp) (by intro j u h; simp at h) (by simp) h63 hbytes hbase
        have hv := hq.2 ⟨rfl, rfl⟩
        subst hv
        simp only [List.length_nil] at hr hr2
        rw [hr2] at hr
        simp only [Result.ok.injEq, Value.slice.injEq] at hr
        exact hr.1.1.symm
      · simp only [Value.slice.injEq] at hv
        obtain ⟨rfl, _, rfl⟩ := hv
        have hr2 := run_append_room (P := P) w t ty e i ht hi g xs.length cap cur hh ad 0 cap' [] (by simp) (by intro j u h; simp at h) h1 (by simpa using hle) (by rw [hz1]; simp only [List.length_nil]; omega)
        simp only [List.length_nil] at hr
        rw [hr2] at hr
        simp only [Result.ok.injEq, Value.slice.injEq] at hr
        exact hr.1.1.symm
  · exact run_append_where base t ty e z bytes ht hinfo hzs hown hrd hy h1 hbytes h63 hbase

theorem wpList_append_at {P : Program} (w : World) {ops : Array Oper} {rest : List Oper} {o : Oper} {a : Act} {Q : Exit → Act → World → Prop} (hgd : o.guard = none) (s x : Operand) (t : TypeId)
    (ho : o.op = .call { callee := .builtin .append, args := #[s, x], argTypes := #[t, t] })
    (base : Nat) (e : TypeId) (k : IntKind) (z : Value) (bytes : Nat) (ht : P.underlying t = some (.slice e))
    (hinfo : (P.info? e).map (fun i => (i.zero, i.size, i.bytes)) = some (some z, 1, bytes)) (hzs : z.cells.size = 1)
    {ao : Option Addr} {cap n : Nat} {xs : List Int} {ao' : Option Addr} {cap' m : Nat} {ys : List Int}
    (hs : a.eval s = .slice ao n cap) (hx : a.eval x = .slice ao' m cap') (hown : OwnI w base e k ao cap xs) (hrd : RdI w k ao' cap' ys) (hn : xs.length = n) (hm : ys.length = m)
    (hbytes : (n + m) * bytes ≤ 140737488355328) (h63 : n + m ≤ maxLen) (hbase : base ≤ w.heap.size)
    (h : ∀ ao2 cap2 w', OwnI w' base e k ao2 cap2 (xs ++ ys) → w.grownBy w' (Value.ownBlock (.slice ao n cap)) → (ao2 = ao ∨ ao2 = some ⟨w.heap.size, 0, none⟩) → wpList P ops Q rest (a.put o.dst (.slice ao2 (n + m) cap2)) w') : wpList P ops Q (o :: rest) a w := by
  subst hn hm
  refine wpList_plain hgd fun _ hK => ?_
  obtain ⟨ao2, cap2, w', hr, h2, h3, h4⟩ := run_append_at (P := P) base t o.type e z bytes ht hinfo hzs hown hrd (ints_one _ _) (by simpa using hbytes) (by simpa using h63) hbase
  simp only [List.length_map] at hr h3
  unfold Oper.wp execOp
  simp only [ho, resolve, invoke, builtin, Sem.run_bind, Sem.run_pure, Result.andThen_ok, List.map_toArray, List.map_cons, List.map_nil, hs, hx, hr]
  exact hK _ _ (h ao2 cap2 w' (by unfold OwnI; rw [List.map_append]; exact h2) h3 h4)

end Go.Proofs.Ytgdlejeopdipiaa
