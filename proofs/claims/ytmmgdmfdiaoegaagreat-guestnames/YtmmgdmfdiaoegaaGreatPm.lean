/- Packets as values, in blocks and in rows; what an append of packets leaves. No walk. -/
import Derived.Test.YtmmgdmfdiaoegaaGreatL3
import Derived.Maps.AppendAt
namespace Go.Proofs.YtmmgdmfdiaoegaaGreat.Lnk
open Go.RowKit
set_option linter.unusedVariables false
set_option maxRecDepth 8000

/-- A packet: its numbers, whether the server sends it, its bytes. -/
structure PkG where
  cl : Int
  ep : Int
  bo : Int
  sq : Int
  ak : Int
  sv : Bool
  bs : List Nat

abbrev pkV (P : PkG) (u : Value) : Value := .agg #[.int .i64 P.cl, .int .i64 P.ep, .int .i64 P.bo, .int .i64 P.sq, .int .i64 P.ak, .bool P.sv, u]
abbrev pkO (P : PkG) (u : Value) : Obj := .cells #[.int .i64 P.cl, .int .i64 P.ep, .int .i64 P.bo, .int .i64 P.sq, .int .i64 P.ak, .bool P.sv, u] 45
def pkC (P : PkG) (u : Value) : List Value := [.int .i64 P.cl, .int .i64 P.ep, .int .i64 P.bo, .int .i64 P.sq, .int .i64 P.ak, .bool P.sv, u]

/-- A packet lies at a place. -/
structure PkIn (w : World) (b o : Nat) (P : PkG) (u : Value) : Prop where
  c0 : w.cell? ⟨b, o, none⟩ = some (.int .i64 P.cl)
  c1 : w.cell? ⟨b, o + 1, none⟩ = some (.int .i64 P.ep)
  c2 : w.cell? ⟨b, o + 2, none⟩ = some (.int .i64 P.bo)
  c3 : w.cell? ⟨b, o + 3, none⟩ = some (.int .i64 P.sq)
  c4 : w.cell? ⟨b, o + 4, none⟩ = some (.int .i64 P.ak)
  c5 : w.cell? ⟨b, o + 5, none⟩ = some (.bool P.sv)
  c6 : w.cell? ⟨b, o + 6, none⟩ = some u

theorem PkIn.keep {w w' : World} {b o : Nat} {P : PkG} {u : Value} (h : PkIn w b o P u) (hb : w'.heap[b]? = w.heap[b]?) : PkIn w' b o P u := by
  have c := fun j => World.cell?_of_block (w := w) (w' := w') (a := ⟨b, j, none⟩) hb
  exact ⟨(c _).trans h.c0, (c _).trans h.c1, (c _).trans h.c2, (c _).trans h.c3, (c _).trans h.c4, (c _).trans h.c5, (c _).trans h.c6⟩

theorem PkIn.lt {w : World} {b o : Nat} {P : PkG} {u : Value} (h : PkIn w b o P u) : b < w.heap.size := World.block_lt_of_cell? w _ h.c0
theorem PkIn.below {w w' : World} {b o : Nat} {P : PkG} {u : Value} (h : PkIn w b o P u) (hb : Below w.heap.size w w') : PkIn w' b o P u := h.keep (hb.block b h.lt)

theorem PkIn.new (w : World) (P : PkG) (u : Value) : PkIn (w.alloc (pkO P u)) w.heap.size 0 P u := by
  have h := heap_alloc_new w (pkO P u)
  refine ⟨?_, ?_, ?_, ?_, ?_, ?_, ?_⟩
  all_goals rw [cell_of_row _ _ _ _ _ _ h]; rfl

/-- The cells of packets. -/
def rowC : List (PkG × Value) → List Value
  | [] => []
  | r :: R => pkC r.1 r.2 ++ rowC R

theorem rowC_length (R : List (PkG × Value)) : (rowC R).length = R.length * 7 := by
  induction R with
  | nil => rfl
  | cons r R ih => simp [rowC, pkC, ih]; omega
theorem rowC_append (R S : List (PkG × Value)) : rowC (R ++ S) = rowC R ++ rowC S := by
  induction R with
  | nil => rfl
  | cons r R ih => simp [rowC, ih]
theorem rowC_get : ∀ (R : List (PkG × Value)) (i : Nat) (h : i < R.length) (j : Nat), j < 7 → (rowC R)[i * 7 + j]? = (pkC R[i].1 R[i].2)[j]?
  | r :: R, 0, _, j, hj => by
    rw [rowC, List.getElem?_append_left (by simp [pkC]; omega)]
    simp
  | r :: R, i + 1, h, j, hj => by
    rw [rowC, List.getElem?_append_right (by simp [pkC]; omega)]
    have e : (i + 1) * 7 + j - (pkC r.1 r.2).length = i * 7 + j := by simp [pkC]; omega
    rw [e, rowC_get R i (by simpa using h) j hj]
    simp
theorem rowC_take : ∀ (R : List (PkG × Value)) (k : Nat), rowC (R.take k) = (rowC R).take (k * 7)
  | [], k => by simp [rowC]
  | r :: R, 0 => by simp [rowC]
  | r :: R, k + 1 => by
    have e : (k + 1) * 7 = (pkC r.1 r.2).length + k * 7 := by simp [pkC]; omega
    rw [List.take_succ_cons, rowC, rowC, rowC_take R k, e, List.take_length_add_append]
theorem rowC_drop : ∀ (R : List (PkG × Value)) (k : Nat), rowC (R.drop k) = (rowC R).drop (k * 7)
  | [], k => by simp [rowC]
  | r :: R, 0 => by simp
  | r :: R, k + 1 => by
    have e : (k + 1) * 7 = (pkC r.1 r.2).length + k * 7 := by simp [pkC]; omega
    rw [List.drop_succ_cons, rowC, rowC_drop R k, e, List.drop_length_add_append]

theorem By.keepx {w w' : World} {V : Nat → Prop} {v : Value} {bs : List Nat} (h : By w V v bs) (hs : w.heap.size ≤ w'.heap.size) (hb : ∀ (k : Nat) (cs : Array Value) (fr : Nat × Nat), w.heap[k]? = some (.cells cs 5 fr) → w'.heap[k]? = w.heap[k]?) : By w' V v bs := by
  obtain ⟨ao, n, cap, rfl, hr, ht, hi⟩ := h
  refine ⟨ao, n, cap, rfl, hr.kept (V := fun k => ∃ cs fr, w.heap[k]? = some (.cells cs 5 fr)) ?_ ⟨hs, ?_⟩, ?_, hi.mono hs fun _ _ h => h⟩
  · exact fun a ha => ⟨ht a ha, (hi a ha).2⟩
  · rintro k _ ⟨cs, fr, hk⟩
    exact hb k cs fr hk
  · intro a ha
    obtain ⟨cs, fr, hk⟩ := ht a ha
    exact ⟨cs, fr, (hb _ cs fr hk).trans hk⟩

/-- Where an append has written a row of another type. -/
theorem By.grown {w w' : World} {V : Nat → Prop} {v : Value} {bs : List Nat} (h : By w V v bs) {base n : Nat} {e : TypeId} {size : Nat} {x : Value} {xs : List Value} (ho : w.ownsRow base e size x n xs) (he : e ≠ 5) (hg : w.grownBy w' x.ownBlock) : By w' V v bs := by
  refine h.keepx hg.size fun k cs fr hk => hg.block k (Array.getElem?_eq_some_iff.1 hk).1 ?_
  intro e1
  rcases ho.2 with ⟨hv, _⟩ | ⟨g, cp, cur, hv, _, hh, _⟩
  · rw [hv] at e1; simp [Value.ownBlock] at e1
  · rw [hv] at e1
    simp [Value.ownBlock] at e1
    subst e1
    rw [hk] at hh
    simp only [Option.some.injEq, Obj.cells.injEq] at hh
    exact he hh.2.1.symm

/-- A row of packets of the call's own. -/
def Pks (w : World) (base : Nat) (V : Nat → Prop) (v : Value) (Ps : List PkG) : Prop := ∃ R : List (PkG × Value), R.map Prod.fst = Ps ∧ w.ownsRow base 45 7 v R.length (rowC R) ∧ ∀ r ∈ R, By w V r.2 r.1.bs

/-- A slice that reads as packets. -/
def RdP (w : World) (V : Nat → Prop) (v : Value) (Ps : List PkG) : Prop := ∃ (ao : Option Addr) (cap : Nat) (R : List (PkG × Value)), v = .slice ao Ps.length cap ∧ R.map Prod.fst = Ps ∧ (ao = none → cap = 0 ∧ Ps = []) ∧ (∀ a, ao = some a → ∀ j u, (rowC R)[j]? = some u → w.cell? (a.add j) = some u) ∧ ∀ r ∈ R, By w V r.2 r.1.bs

theorem Pks.nil (w : World) (base : Nat) (V : Nat → Prop) : Pks w base V (.slice none 0 0) [] := ⟨[], rfl, World.ownsRow_nil _ _ _ _, by simp⟩

theorem Pks.rd {w : World} {base : Nat} {V : Nat → Prop} {v : Value} {Ps : List PkG} (h : Pks w base V v Ps) : RdP w V v Ps := by
  obtain ⟨R, rfl, ho, hb⟩ := h
  rcases ho.2 with ⟨hv, hn⟩ | ⟨g, cp, cur, hv, hg, hh, r⟩
  · have : R = [] := List.eq_nil_of_length_eq_zero hn
    subst this
    exact ⟨none, 0, [], by simpa using hv, rfl, fun _ => ⟨rfl, rfl⟩, fun a h => (by cases h), by simp⟩
  · refine ⟨some ⟨g, 0, none⟩, cp, R, by simpa using hv, rfl, fun h => (by cases h), ?_, hb⟩
    intro a ha
    cases ha
    exact World.ownsRow.cells ho (by rw [hv]; rfl)

theorem Pks.shape {w : World} {base : Nat} {V : Nat → Prop} {v : Value} {Ps : List PkG} (h : Pks w base V v Ps) : ∃ ao cap, v = .slice ao Ps.length cap ∧ Ps.length ≤ cap ∧ cap ≤ maxLen ∧ ((ao = none ∧ cap = 0) ∨ ∃ g, ao = some ⟨g, 0, none⟩ ∧ base ≤ g ∧ g < w.heap.size) := by
  obtain ⟨R, rfl, ho, hb⟩ := h
  rcases ho.2 with ⟨hv, hn⟩ | ⟨g, cp, cur, hv, hg, hh, h1, h2, r⟩
  · exact ⟨none, 0, by simpa [hn] using hv, by simp [hn], by simp, .inl ⟨rfl, rfl⟩⟩
  · exact ⟨_, cp, by simpa using hv, by simpa using h1, h2, .inr ⟨g, rfl, hg, (Array.getElem?_eq_some_iff.1 hh).1⟩⟩

theorem Pks.at {w : World} {base : Nat} {V : Nat → Prop} {v : Value} {Ps : List PkG} (h : Pks w base V v Ps) (i : Nat) (hi : i < Ps.length) : ∃ g cap u, v = .slice (some ⟨g, 0, none⟩) Ps.length cap ∧ base ≤ g ∧ PkIn w g (i * 7) Ps[i] u ∧ By w V u Ps[i].bs := by
  obtain ⟨R, rfl, ho, hb⟩ := h
  have ho2 := ho.2
  simp only [List.length_map] at hi
  rcases ho2 with ⟨hv, hn⟩ | ⟨g, cp, cur, hv, hg, hh, r⟩
  · omega
  · subst hv
    have hc := fun j (hj : j < 7) => (World.ownsRow.cellAt ho (i * 7 + j) (by omega)).trans (rowC_get R i hi j hj)
    refine ⟨g, cp, R[i].2, by simp, hg, ?_, by simpa using hb _ (List.getElem_mem hi)⟩
    simp only [List.getElem_map]
    exact ⟨hc 0 (by omega), hc 1 (by omega), hc 2 (by omega), hc 3 (by omega), hc 4 (by omega), hc 5 (by omega), hc 6 (by omega)⟩

theorem Pks.kt {w w' : World} {base : Nat} {V : Nat → Prop} {v : Value} {Ps : List PkG} (h : Pks w base V v Ps) (hk : KT w w') : Pks w' base V v Ps := by
  obtain ⟨R, rfl, ho, hb⟩ := h
  refine ⟨R, rfl, ⟨ho.1, ?_⟩, fun r hr => (hb r hr).kt hk⟩
  rcases ho.2 with hv | ⟨g, cp, cur, hv, hg, hh, r⟩
  · exact .inl hv
  · exact .inr ⟨g, cp, cur, hv, hg, (hk.block g cur 45 _ hh (by decide) (by decide)).trans hh, r⟩
theorem Pks.below {w w' : World} {base : Nat} {V : Nat → Prop} {v : Value} {Ps : List PkG} (h : Pks w base V v Ps) (hb : Below w.heap.size w w') : Pks w' base V v Ps := h.kt (KT.of_below hb)
theorem Pks.mono {w : World} {base base' : Nat} {V U : Nat → Prop} {v : Value} {Ps : List PkG} (h : Pks w base V v Ps) (hb : base' ≤ base) (hv : ∀ k, k < w.heap.size → V k → U k) : Pks w base' U v Ps := by
  obtain ⟨R, hR, ho, hy⟩ := h
  refine ⟨R, hR, ⟨ho.1, ?_⟩, fun r hr => (hy r hr).mono hv⟩
  rcases ho.2 with hv | ⟨g, cp, cur, hv, hg, r⟩
  · exact .inl hv
  · exact .inr ⟨g, cp, cur, hv, by omega, r⟩

/-- A row of one packet that was just built. -/
theorem Pks.built (w : World) (base : Nat) (V : Nat → Prop) (P : PkG) (u : Value) (hb : base ≤ w.heap.size) (hy : By (w.alloc (pkO P u)) V u P.bs) : Pks (w.alloc (pkO P u)) base V (.slice (some ⟨w.heap.size, 0, none⟩) 1 1) [P] := by
  refine ⟨[(P, u)], rfl, ?_, by simpa using hy⟩
  have := World.ownsRow_lit (base := base) (e := 45) (size := 7) w #[.int .i64 P.cl, .int .i64 P.ep, .int .i64 P.bo, .int .i64 P.sq, .int .i64 P.ak, .bool P.sv, u] 1 hb (by unfold maxLen; omega) rfl
  simpa [rowC, pkC] using this

theorem rowC_one {w : World} {V : Nat → Prop} : ∀ (R : List (PkG × Value)), (∀ r ∈ R, By w V r.2 r.1.bs) → ∀ u ∈ rowC R, u.oneCell' = true
  | [], _, u, hu => by simp [rowC] at hu
  | r :: R, h, u, hu => by
    rw [rowC] at hu
    rcases List.mem_append.1 hu with hu | hu
    · have := (h r (by simp)).one
      simp only [pkC, List.mem_cons, List.not_mem_nil, or_false] at hu
      rcases hu with rfl | rfl | rfl | rfl | rfl | rfl | rfl <;> first | rfl | exact this
    · exact rowC_one R (fun r hr => h r (by simp [hr])) u hu

theorem info30 : (Tryz.prog.info? 45).map (fun i => (i.zero, i.size, i.bytes)) = some (some (.agg #[.int .i64 0, .int .i64 0, .int .i64 0, .int .i64 0, .int .i64 0, .bool false, .slice none 0 0]), 7, 72) := by kernel_rfl

/-- What an append of packets leaves. -/
theorem run_append_pks {w : World} (ty : TypeId) (base : Nat) {V : Nat → Prop} {v x : Value} {Ps Qs : List PkG} (hp : Pks w base V v Ps) (hx : RdP w V x Qs) (hl : Ps.length + Qs.length ≤ 1000000) (hbase : base ≤ w.heap.size) :
    ∃ v' w', (Builtin.append_ #[33, 33] ty #[v, x]).run Tryz.prog w = .ok v' w' ∧ Pks w' base V v' (Ps ++ Qs) ∧ w.grownBy w' v.ownBlock ∧ (v'.ownBlock = v.ownBlock ∨ v'.ownBlock = some w.heap.size) := by
  obtain ⟨i, hi, hz, hsz, hby⟩ := info_parts info30
  obtain ⟨R, rfl, ho, hb⟩ := hp
  obtain ⟨ao, cap, S, rfl, rfl, hn, hc, hd⟩ := hx
  simp only [List.length_map] at hl ⊢
  cases ao with
  | none =>
    obtain ⟨rfl, hS⟩ := hn rfl
    have hS0 : S = [] := by simpa using hS
    subst hS0
    refine ⟨v, w, by simpa using run_append_owned_none (P := Tryz.prog) w base 33 ty 45 i 7 Tryz.underlying33 hi v R.length (rowC R) ho, ⟨R, by simp, ho, hb⟩, ⟨rfl, rfl, rfl, Nat.le_refl _, fun _ _ _ => rfl⟩, .inl rfl⟩
  | some a =>
    obtain ⟨v', w', hr, h2, h3, _, h5⟩ := run_append_own_at (P := Tryz.prog) w base 33 ty 45 i _ 7 72 Tryz.underlying33 hi hz hsz hby rfl (by omega) v R.length (rowC R) ho a S.length cap (rowC S) (rowC_length S) (hc a rfl) (rowC_one S hd) (by unfold maxLen; omega) (by omega) hbase
    refine ⟨v', w', hr, ⟨R ++ S, by simp, by rw [rowC_append, List.length_append]; exact h2, fun r hr => ?_⟩, h3, h5⟩
    rcases List.mem_append.1 hr with hr | hr
    · exact (hb r hr).grown ho (by decide) h3
    · exact (hd r hr).grown ho (by decide) h3

theorem wpList_append_pks (w : World) {ops : Array Oper} {rest : List Oper} {o : Oper} {a : Act} {Q : Exit → Act → World → Prop} (hgd : o.guard = none) (s x : Operand)
    (ho : o.op = .call { callee := .builtin .append, args := #[s, x], argTypes := #[33, 33] }) (base : Nat) {V : Nat → Prop} {v y : Value} {Ps Qs : List PkG} (hs : a.eval s = v) (hx : a.eval x = y)
    (hp : Pks w base V v Ps) (hq : RdP w V y Qs) (hl : Ps.length + Qs.length ≤ 1000000) (hbase : base ≤ w.heap.size)
    (h : ∀ v' w', Pks w' base V v' (Ps ++ Qs) → w.grownBy w' v.ownBlock → (v'.ownBlock = v.ownBlock ∨ v'.ownBlock = some w.heap.size) → wpList Tryz.prog ops Q rest (a.put o.dst v') w') : wpList Tryz.prog ops Q (o :: rest) a w := by
  refine wpList_plain hgd fun _ hK => ?_
  obtain ⟨v', w', hr, h2, h3, h4⟩ := run_append_pks (w := w) o.type base hp hq hl hbase
  unfold Oper.wp execOp
  simp only [ho, resolve, invoke, builtin, Sem.run_bind, Sem.run_pure, Result.andThen_ok, List.map_toArray, List.map_cons, List.map_nil, hs, hx, hr]
  exact hK _ _ (h v' w' h2 h3 h4)

theorem Pks.grownBelow {w w' : World} {base : Nat} {V : Nat → Prop} {v : Value} {Ps : List PkG} (h : Pks w base V v Ps) (hs : base ≤ w.heap.size) (hg : w.grownBy w' v.ownBlock) : Below base w w' := by
  obtain ⟨R, rfl, ho, hb⟩ := h
  exact (Below.refl base w).grown hg hs fun k hk => (World.ownsRow.lt ho k hk).1

end Go.Proofs.YtmmgdmfdiaoegaaGreat.Lnk
