/- A link and the document's link side by side in memory: what of them stays. No walk. -/
import Derived.Test.YtgdlejeopdipiaaR1
import Derived.Test.YtgdlejeopdipiaaR3
import Derived.Test.YtgdlejeopdipiaaR4
import Derived.Test.YtgdlejeopdipiaaR5
import Derived.Test.YtgdlejeopdipiaaOp
namespace Go.Proofs.Ytgdlejeopdipiaa
open Go.RowKit
set_option linter.unusedVariables false

/-- The rows of bytes are as they were. -/
def K5 (w w' : World) : Prop := ∀ (k : Nat) (cs : Array Value) (fr : Nat × Nat), w.heap[k]? = some (.cells cs 5 fr) → w'.heap[k]? = w.heap[k]?

theorem K5.kt {w w' : World} (h : KT w w') : K5 w w' := fun k cs fr hk => h.block k cs 5 fr hk (by decide) (by decide)

theorem Bys.keepx {w w' : World} {V : Nat → Prop} {vs : List Value} {L : List (List Nat)} (h : Bys w V vs L) (hs : w.heap.size ≤ w'.heap.size) (h5 : K5 w w') : Bys w' V vs L := ⟨h.len, fun i v bs h1 h2 => (h.each i v bs h1 h2).keepx hs h5⟩

section
variable {w w' : World} {B g : Nat} {ao : Option Addr} {n cap : Nat} {V : Nat → Prop} {I : LkI} {L : List (List Nat)} {s h : Nat}
theorem Lk.keepx (H : Lk w B g ao n cap V I L s h) (hs : w.heap.size ≤ w'.heap.size) (h5 : K5 w w') (hg : w'.heap[g]? = w.heap[g]?) (ha : ∀ a, ao = some a → w'.heap[a.block]? = w.heap[a.block]?) : Lk w' B g ao n cap V I L s h := by
  obtain ⟨vs, ho, hb⟩ := H.row
  exact ⟨H.hd.keep hg, ⟨vs, ho.keep ha, hb.keepx hs h5⟩, H.len, H.bg, H.le, H.sl, H.sm, H.hm, H.sz⟩
theorem RRow.keepx {ar : Option Addr} {cr : Nat} (H : RRow w B ar cr V L) (hs : w.heap.size ≤ w'.heap.size) (h5 : K5 w w') (ha : ∀ a, ar = some a → w'.heap[a.block]? = w.heap[a.block]?) : RRow w' B ar cr V L := by
  obtain ⟨vs, ho, hb⟩ := H
  exact ⟨vs, ho.keep ha, hb.keepx hs h5⟩
theorem RRow.ty {ar : Option Addr} {cr : Nat} (H : RRow w B ar cr V L) : Ty w 27 ar := by
  obtain ⟨vs, ho, hb⟩ := H
  exact Ty.own ho
end

/-- Blocks of unlike types are unlike. -/
theorem ne_type {w : World} {i j : Nat} {cs cs' : Array Value} {e f : TypeId} {fr fr' : Nat × Nat} (h1 : w.heap[i]? = some (.cells cs e fr)) (h2 : w.heap[j]? = some (.cells cs' f fr')) (hne : e ≠ f) : i ≠ j := by
  intro e1
  subst e1
  rw [h1] at h2
  simp only [Option.some.injEq, Obj.cells.injEq] at h2
  exact hne h2.2.1

/-- All blocks but one are as they were. -/
structure Sx (b : Nat) (w w' : World) : Prop where
  size : w.heap.size ≤ w'.heap.size
  block : ∀ k, k ≠ b → k < w.heap.size → w'.heap[k]? = w.heap[k]?

theorem Sx.setCell (w : World) (b j : Nat) (u : Value) : Sx b w (w.setCell ⟨b, j, none⟩ u) := ⟨by simp [World.setCell], fun k hk _ => Below.heap_setCell _ _ _ _ hk⟩

theorem Sx.k5 {b : Nat} {w w' : World} (h : Sx b w w') {cs : Array Value} {e : TypeId} {fr : Nat × Nat} (hb : w.heap[b]? = some (.cells cs e fr)) (he : e ≠ 5) : K5 w w' := fun k cs' fr' hk => h.block k (ne_type hk hb (fun e => he e.symm)) (Array.getElem?_eq_some_iff.1 hk).1

section
variable {w w' : World} {B g : Nat} {ao : Option Addr} {n cap : Nat} {V : Nat → Prop} {I : LkI} {L : List (List Nat)} {s h : Nat}
theorem Lk.sx (H : Lk w B g ao n cap V I L s h) {b : Nat} {cs : Array Value} {e : TypeId} {fr : Nat × Nat} (hx : Sx b w w') (hb : w.heap[b]? = some (.cells cs e fr)) (h5 : e ≠ 5) (h59 : e ≠ 59) (h27 : e ≠ 27) : Lk w' B g ao n cap V I L s h := by
  refine H.keepx hx.size (hx.k5 hb h5) (hx.block g ?_ H.hd.lt) fun a ha => hx.block _ ?_ (H.ge a ha).2
  · obtain ⟨cs', h1⟩ := H.hd.ty
    exact ne_type h1 hb (fun e => h59 e.symm)
  · obtain ⟨cs', fr', h1⟩ := H.ty a ha
    exact ne_type h1 hb (fun e => h27 e.symm)
theorem RRow.sx {ar : Option Addr} {cr : Nat} (H : RRow w B ar cr V L) {b : Nat} {cs : Array Value} {e : TypeId} {fr : Nat × Nat} (hx : Sx b w w') (hb : w.heap[b]? = some (.cells cs e fr)) (h5 : e ≠ 5) (h27 : e ≠ 27) : RRow w' B ar cr V L := by
  refine H.keepx hx.size (hx.k5 hb h5) fun a ha => hx.block _ ?_ (H.ge a ha).2
  obtain ⟨cs', fr', h1⟩ := H.ty a ha
  exact ne_type h1 hb (fun e => h27 e.symm)

/-- A store into a row of bytes beside the bodies. -/
theorem By.avoid {v : Value} {bs : List Nat} (H : By w V v bs) (b j : Nat) (u : Value) (hv : ¬ V b) : By (w.setCell ⟨b, j, none⟩ u) V v bs := by
  obtain ⟨ax, m, c, rfl, hr, ht, hi⟩ := H
  have hk : Kept V w (w.setCell ⟨b, j, none⟩ u) := Kept.setCell _ _ _ hv
  refine ⟨ax, m, c, rfl, hr.kept hi hk, fun a ha => ?_, hi.mono hk.size fun _ _ h => h⟩
  obtain ⟨cs, fr, hh⟩ := ht a ha
  exact ⟨cs, fr, (hk.block _ (hi a ha).2 (hi a ha).1).trans hh⟩
theorem Bys.avoid {vs : List Value} (H : Bys w V vs L) (b j : Nat) (u : Value) (hv : ¬ V b) : Bys (w.setCell ⟨b, j, none⟩ u) V vs L := ⟨H.len, fun i v bs h1 h2 => (H.each i v bs h1 h2).avoid b j u hv⟩
theorem Lk.avoid (H : Lk w B g ao n cap V I L s h) (b j : Nat) (u : Value) (hv : ¬ V b) (h5 : ∃ cs fr, w.heap[b]? = some (.cells cs 5 fr)) : Lk (w.setCell ⟨b, j, none⟩ u) B g ao n cap V I L s h := by
  obtain ⟨cs, fr, hb⟩ := h5
  obtain ⟨vs, ho, hy⟩ := H.row
  obtain ⟨cs', h1⟩ := H.hd.ty
  refine ⟨H.hd.keep (Below.heap_setCell _ _ _ _ (ne_type h1 hb (by decide))), ⟨vs, ho.keep fun a ha => Below.heap_setCell _ _ _ _ ?_, hy.avoid b j u hv⟩, H.len, H.bg, H.le, H.sl, H.sm, H.hm, H.sz⟩
  obtain ⟨cs2, fr2, h2⟩ := H.ty a ha
  exact ne_type h2 hb (by decide)
theorem RRow.avoid {ar : Option Addr} {cr : Nat} (H : RRow w B ar cr V L) (b j : Nat) (u : Value) (hv : ¬ V b) (h5 : ∃ cs fr, w.heap[b]? = some (.cells cs 5 fr)) : RRow (w.setCell ⟨b, j, none⟩ u) B ar cr V L := by
  obtain ⟨cs, fr, hb⟩ := h5
  have ht := H.ty
  obtain ⟨vs, ho, hy⟩ := H
  refine ⟨vs, ho.keep fun a ha => Below.heap_setCell _ _ _ _ ?_, hy.avoid b j u hv⟩
  obtain ⟨cs2, fr2, h2⟩ := ht a ha
  exact ne_type h2 hb (by decide)
end

/-- The document's link lies in a block; its list lies beside the other link's. -/
structure Rf (w : World) (B gr : Nat) (ao : Option Addr) (V : Nat → Prop) (I : LkI) (LL : List (List Nat)) (N kn h : Nat) (ar : Option Addr) (cr : Nat) : Prop where
  x : RfAt w gr I (.slice ar N cr) kn h
  r : RRow w B ar cr V LL
  len : LL.length = N
  kl : kn ≤ N
  ap : ∀ a b, ar = some a → ao = some b → b.block ≠ a.block
  bg : B ≤ gr

section
variable {w w' : World} {B g gr : Nat} {ao ao2 : Option Addr} {n cap : Nat} {V : Nat → Prop} {I : LkI} {L LL : List (List Nat)} {N kn s h h' : Nat} {ar : Option Addr} {cr : Nat}
theorem Rf.below (R : Rf w B gr ao V I LL N kn h ar cr) (hb : Below w.heap.size w w') : Rf w' B gr ao V I LL N kn h ar cr := ⟨R.x.below hb, R.r.below hb, R.len, R.kl, R.ap, R.bg⟩
theorem Rf.mono {U : Nat → Prop} (R : Rf w B gr ao V I LL N kn h ar cr) (hv : ∀ k, k < w.heap.size → V k → U k) : Rf w B gr ao U I LL N kn h ar cr := ⟨R.x, R.r.mono (Nat.le_refl _) hv, R.len, R.kl, R.ap, R.bg⟩
/-- Where the link has turned. -/
theorem Rf.link (R : Rf w B gr ao V I LL N kn h ar cr) {V' : Nat → Prop} {I' : LkI} (K : Lk w B g ao n cap V' I' L s h') (hO : Off2 g ao w w') (hN : Nw w ao ao2) : Rf w' B gr ao2 V I LL N kn h ar cr := by
  have hk := K.ktOff hO
  refine ⟨R.x.keep (hk.block gr _ 34 _ R.x.blk (by decide) (by decide)), R.r.keep hk fun a ha => hO.block _ (R.r.ge a ha).2 ?_ fun b hb => R.ap a b ha hb, R.len, R.kl, fun a b ha hb => ?_, R.bg⟩
  · obtain ⟨cs, fr, h1⟩ := R.r.ty a ha
    obtain ⟨cs', h2⟩ := K.hd.ty
    exact ne_type h1 h2 (by decide)
  · rcases hN b hb with ⟨c, hc, e⟩ | hc
    · have := R.ap a c ha hc; omega
    · have := (R.r.ge a ha).2; omega
/-- What the document's link is behind its next value. -/
theorem Rf.put (R : Rf w B gr ao V I LL N kn h ar cr) {LL2 : List (List Nat)} {N2 kn2 h2 : Nat} {ar2 : Option Addr} {cr2 : Nat} (hr : RRow w B ar2 cr2 V LL2) (hl : LL2.length = N2) (hk : kn2 ≤ N2) (hap : ∀ a b, ar2 = some a → ao = some b → b.block ≠ a.block)
    (hw : w' = (((((((w.setCell ⟨gr, 0, none⟩ (.int .i64 I.cl)).setCell ⟨gr, 1, none⟩ (.int .i64 I.ep)).setCell ⟨gr, 2, none⟩ (.int .i64 I.bo)).setCell ⟨gr, 3, none⟩ (.bool I.sv)).setCell ⟨gr, 4, none⟩ (.slice ar2 N2 cr2)).setCell ⟨gr, 5, none⟩ (.int .i64 (kn2 : Int))).setCell ⟨gr, 6, none⟩ (.int .i64 (h2 : Int)))) :
    Rf w' B gr ao V I LL2 N2 kn2 h2 ar2 cr2 ∧ Sx gr w w' := by
  have hx : Sx gr w w' := by
    subst hw
    exact ⟨by rw [put7_size]; exact Nat.le_refl _, fun k hk _ => put7_other _ _ _ hk _ _ _ _ _ _ _⟩
  refine ⟨⟨?_, hr.sx hx R.x.blk (by decide) (by decide), hl, hk, hap, R.bg⟩, hx⟩
  subst hw
  exact R.x.put _ _ _ _ _ _ _
theorem Rf.avoid (R : Rf w B gr ao V I LL N kn h ar cr) (b j : Nat) (u : Value) (hv : ¬ V b) (h5 : ∃ cs fr, w.heap[b]? = some (.cells cs 5 fr)) : Rf (w.setCell ⟨b, j, none⟩ u) B gr ao V I LL N kn h ar cr := by
  refine ⟨R.x.keep (Below.heap_setCell _ _ _ _ ?_), R.r.avoid b j u hv h5, R.len, R.kl, R.ap, R.bg⟩
  obtain ⟨cs, fr, hb⟩ := h5
  exact ne_type R.x.blk hb (by decide)
end

/-- An act lies in a block. -/
structure AvAt (w : World) (b : Nat) (a : WAct) : Prop where
  blk : w.heap[b]? = some (.cells #[.int .i64 a.k, .slice a.ao a.m a.cap, .int .i64 a.P.cl, .int .i64 a.P.ep, .int .i64 a.P.bo, .int .i64 a.P.sq, .int .i64 a.P.ak, .bool a.P.sv, .slice a.pa a.pm a.pc] 36 (0, 0))

section
variable {w w' : World} {b : Nat} {a : WAct}
theorem AvAt.c0 (h : AvAt w b a) : w.cell? ⟨b, 0, none⟩ = some (.int .i64 a.k) := by rw [cell_of_row _ _ _ _ _ _ h.blk]; rfl
theorem AvAt.c1 (h : AvAt w b a) : w.cell? ⟨b, 1, none⟩ = some (.slice a.ao a.m a.cap) := by rw [cell_of_row _ _ _ _ _ _ h.blk]; rfl
theorem AvAt.c2 (h : AvAt w b a) : w.cell? ⟨b, 2, none⟩ = some (.int .i64 a.P.cl) := by rw [cell_of_row _ _ _ _ _ _ h.blk]; rfl
theorem AvAt.c3 (h : AvAt w b a) : w.cell? ⟨b, 3, none⟩ = some (.int .i64 a.P.ep) := by rw [cell_of_row _ _ _ _ _ _ h.blk]; rfl
theorem AvAt.c4 (h : AvAt w b a) : w.cell? ⟨b, 4, none⟩ = some (.int .i64 a.P.bo) := by rw [cell_of_row _ _ _ _ _ _ h.blk]; rfl
theorem AvAt.c5 (h : AvAt w b a) : w.cell? ⟨b, 5, none⟩ = some (.int .i64 a.P.sq) := by rw [cell_of_row _ _ _ _ _ _ h.blk]; rfl
theorem AvAt.c6 (h : AvAt w b a) : w.cell? ⟨b, 6, none⟩ = some (.int .i64 a.P.ak) := by rw [cell_of_row _ _ _ _ _ _ h.blk]; rfl
theorem AvAt.c7 (h : AvAt w b a) : w.cell? ⟨b, 7, none⟩ = some (.bool a.P.sv) := by rw [cell_of_row _ _ _ _ _ _ h.blk]; rfl
theorem AvAt.c8 (h : AvAt w b a) : w.cell? ⟨b, 8, none⟩ = some (.slice a.pa a.pm a.pc) := by rw [cell_of_row _ _ _ _ _ _ h.blk]; rfl
theorem AvAt.lt (h : AvAt w b a) : b < w.heap.size := (Array.getElem?_eq_some_iff.1 h.blk).1
theorem AvAt.kt (h : AvAt w b a) (hk : KT w w') : AvAt w' b a := ⟨(hk.block b _ 36 _ h.blk (by decide) (by decide)).trans h.blk⟩
theorem AvAt.below (h : AvAt w b a) (hk : Below w.heap.size w w') : AvAt w' b a := h.kt (KT.of_below hk)
end

/-! ### A row of bytes of the call's own that is written -/

theorem Own8.at0 {w : World} {base : Nat} {ao : Option Addr} {n cap : Nat} {bs : List Nat} (h : Own8 w base ao n cap bs) (hn : 0 < n) : ∃ o, ao = some ⟨o, 0, none⟩ ∧ base ≤ o ∧ o < w.heap.size := by
  have hl := h.len
  obtain ⟨o, rfl⟩ := OwnS.place h.own (by simp [ci]; omega)
  exact ⟨o, rfl, h.ge _ rfl, h.lt _ rfl⟩
theorem Own8.cellAt {w : World} {base o n cap : Nat} {bs : List Nat} (h : Own8 w base (some ⟨o, 0, none⟩) n cap bs) (k : Nat) (hk : k < n) : ∃ y : Nat, y < 256 ∧ w.cell? ⟨o, k, none⟩ = some (.int .u8 (y : Int)) := by
  have hl := h.len
  refine ⟨bs[k]'(by omega), h.byte _ (List.getElem_mem _), ?_⟩
  rw [OwnI.cellAt h.own k (by simp [ci]; omega), ci_get]
theorem Own8.put {w : World} {base o n cap : Nat} {bs : List Nat} (h : Own8 w base (some ⟨o, 0, none⟩) n cap bs) (k z : Nat) (hz : z < 256) : Own8 (w.setCell ⟨o, k, none⟩ (.int .u8 (z : Int))) base (some ⟨o, 0, none⟩) n cap (bs.set k z) := by
  refine ⟨?_, by simpa using h.len, fun b hb => ?_⟩
  · rw [← ci_set]
    exact OwnI.stored h.own k (z : Int)
  · rcases List.mem_or_eq_of_mem_set hb with hb | rfl
    · exact h.byte b hb
    · exact hz
theorem Own8.tyx {w : World} {base : Nat} {ao : Option Addr} {n cap : Nat} {bs : List Nat} (h : Own8 w base ao n cap bs) : Ty w 5 ao := Ty.own h.own
theorem Own8.kt {w w' : World} {base : Nat} {ao : Option Addr} {n cap : Nat} {bs : List Nat} (h : Own8 w base ao n cap bs) (hk : KT w w') : Own8 w' base ao n cap bs := h.keep fun a ha => by
  obtain ⟨cs, fr, hb⟩ := h.tyx a ha
  exact hk.block _ cs 5 fr hb (by decide) (by decide)
theorem Own8.sx {w w' : World} {base : Nat} {ao : Option Addr} {n cap : Nat} {bs : List Nat} (h : Own8 w base ao n cap bs) {b : Nat} {cs : Array Value} {e : TypeId} {fr : Nat × Nat} (hx : Sx b w w') (hb : w.heap[b]? = some (.cells cs e fr)) (h5 : e ≠ 5) : Own8 w' base ao n cap bs := h.keep fun a ha => by
  obtain ⟨cs', fr', hb'⟩ := h.tyx a ha
  exact hx.block _ (ne_type hb' hb (fun e => h5 e.symm)) (h.lt a ha)

end Go.Proofs.Ytgdlejeopdipiaa
