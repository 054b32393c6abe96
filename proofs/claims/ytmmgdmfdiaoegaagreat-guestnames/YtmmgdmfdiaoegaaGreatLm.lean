/- A link in memory: where its parts lie, and what of it stays. No walk. -/
import Derived.Test.YtmmgdmfdiaoegaaGreatXd
namespace Go.Proofs.YtmmgdmfdiaoegaaGreat.Lnk
open Go.RowKit
set_option linter.unusedVariables false
set_option maxRecDepth 8000

/-- The block of the address is a row of this type. -/
def Ty (w : World) (e : TypeId) (ao : Option Addr) : Prop := ∀ a, ao = some a → ∃ cs fr, w.heap[a.block]? = some (.cells cs e fr)

theorem Ty.none (w : World) (e : TypeId) : Ty w e Option.none := fun a h => by cases h

/-- All rows but those of links and of lists of bodies are as they were. -/
structure KT (w w' : World) : Prop where
  size : w.heap.size ≤ w'.heap.size
  block : ∀ (k : Nat) (cs : Array Value) (e : TypeId) (fr : Nat × Nat), w.heap[k]? = some (.cells cs e fr) → e ≠ 82 → e ≠ 43 → w'.heap[k]? = w.heap[k]?

theorem KT.refl (w : World) : KT w w := ⟨Nat.le_refl _, fun _ _ _ _ _ _ _ => rfl⟩
theorem KT.trans {a b c : World} (h : KT a b) (k : KT b c) : KT a c :=
  ⟨Nat.le_trans h.size k.size, fun i cs e fr hi h1 h2 => (k.block i cs e fr ((h.block i cs e fr hi h1 h2).trans hi) h1 h2).trans (h.block i cs e fr hi h1 h2)⟩
theorem KT.of_below {a b : World} (h : Below a.heap.size a b) : KT a b := ⟨h.size, fun i cs e fr hi _ _ => h.block i (Array.getElem?_eq_some_iff.1 hi).1⟩
theorem KT.of_off2 {g : Nat} {ao : Option Addr} {w w' : World} (h : Off2 g ao w w') (hg : ∃ cs fr, w.heap[g]? = some (.cells cs 82 fr)) (ha : Ty w 43 ao) : KT w w' := by
  refine ⟨h.size, fun i cs e fr hi h1 h2 => h.block i (Array.getElem?_eq_some_iff.1 hi).1 ?_ ?_⟩
  · intro e1
    obtain ⟨cs', fr', hg⟩ := hg
    rw [← e1, hi] at hg
    simp only [Option.some.injEq, Obj.cells.injEq] at hg
    exact h1 hg.2.1
  · intro a ha1 e1
    obtain ⟨cs', fr', hg⟩ := ha a ha1
    rw [e1, hi] at hg
    simp only [Option.some.injEq, Obj.cells.injEq] at hg
    exact h2 hg.2.1
theorem KT.setCell {w : World} {g j : Nat} (u : Value) (hg : ∃ cs fr, w.heap[g]? = some (.cells cs 82 fr)) : KT w (w.setCell ⟨g, j, none⟩ u) :=
  KT.of_off2 ((Off2.refl g none w).setCell (p := ⟨g, j, none⟩) rfl u) hg (Ty.none _ _)

/-- Bytes that lie in a block of bytes, in a set. -/
def By (w : World) (V : Nat → Prop) (v : Value) (bs : List Nat) : Prop := ∃ ao n cap, v = .slice ao n cap ∧ Rd8 w ao n cap bs ∧ Ty w 5 ao ∧ In w V ao

theorem By.nil (w : World) (V : Nat → Prop) : By w V (.slice none 0 0) [] := ⟨none, 0, 0, rfl, Rd8.empty w, Ty.none _ _, In.none _ _⟩

theorem By.kt {w w' : World} {V : Nat → Prop} {v : Value} {bs : List Nat} (h : By w V v bs) (hk : KT w w') : By w' V v bs := by
  obtain ⟨ao, n, cap, rfl, hr, ht, hi⟩ := h
  refine ⟨ao, n, cap, rfl, hr.kept (V := fun k => ∃ cs fr, w.heap[k]? = some (.cells cs 5 fr)) ?_ ⟨hk.size, ?_⟩, ?_, hi.mono hk.size fun _ _ h => h⟩
  · exact fun a ha => ⟨ht a ha, (hi a ha).2⟩
  · rintro k _ ⟨cs, fr, hb⟩
    exact hk.block k cs 5 fr hb (by decide) (by decide)
  · intro a ha
    obtain ⟨cs, fr, hb⟩ := ht a ha
    exact ⟨cs, fr, (hk.block _ cs 5 fr hb (by decide) (by decide)).trans hb⟩

theorem By.below {w w' : World} {V : Nat → Prop} {v : Value} {bs : List Nat} (h : By w V v bs) (hk : Below w.heap.size w w') : By w' V v bs := h.kt (KT.of_below hk)

theorem By.mono {w : World} {V U : Nat → Prop} {v : Value} {bs : List Nat} (h : By w V v bs) (hv : ∀ k, k < w.heap.size → V k → U k) : By w U v bs := by
  obtain ⟨ao, n, cap, rfl, hr, ht, hi⟩ := h
  exact ⟨ao, n, cap, rfl, hr, ht, hi.mono (Nat.le_refl _) hv⟩

theorem Ty.own {w : World} {base : Nat} {e : TypeId} {ao : Option Addr} {cap : Nat} {xs : List Value} (h : OwnS w base e ao cap xs) : Ty w e ao := by
  intro a ha
  obtain ⟨_, h2⟩ := h
  rcases h2 with ⟨hv, _⟩ | ⟨g, cp, cur, hv, hg, hh, _⟩
  · simp only [Value.slice.injEq] at hv; rw [hv.1] at ha; cases ha
  · simp only [Value.slice.injEq] at hv
    rw [hv.1] at ha
    cases ha
    exact ⟨_, _, hh⟩

theorem By.own {w : World} {base : Nat} {ao : Option Addr} {n cap : Nat} {bs : List Nat} (h : Own8 w base ao n cap bs) : By w (fun k => base ≤ k) (.slice ao n cap) bs :=
  ⟨ao, n, cap, rfl, h.rd, Ty.own h.own, h.inn⟩

theorem By.one {w : World} {V : Nat → Prop} {v : Value} {bs : List Nat} (h : By w V v bs) : v.oneCell' = true := by
  obtain ⟨ao, n, cap, rfl, -⟩ := h
  rfl

/-- Bodies, one by one. -/
structure Bys (w : World) (V : Nat → Prop) (vs : List Value) (L : List (List Nat)) : Prop where
  len : vs.length = L.length
  each : ∀ (i : Nat) (v : Value) (bs : List Nat), vs[i]? = some v → L[i]? = some bs → By w V v bs

theorem Bys.kt {w w' : World} {V : Nat → Prop} {vs : List Value} {L : List (List Nat)} (h : Bys w V vs L) (hk : KT w w') : Bys w' V vs L := ⟨h.len, fun i v bs h1 h2 => (h.each i v bs h1 h2).kt hk⟩
theorem Bys.mono {w : World} {V U : Nat → Prop} {vs : List Value} {L : List (List Nat)} (h : Bys w V vs L) (hv : ∀ k, k < w.heap.size → V k → U k) : Bys w U vs L := ⟨h.len, fun i v bs h1 h2 => (h.each i v bs h1 h2).mono hv⟩
theorem Bys.nil (w : World) (V : Nat → Prop) : Bys w V [] [] := ⟨rfl, fun i v bs h _ => by simp at h⟩
theorem Bys.drop {w : World} {V : Nat → Prop} {vs : List Value} {L : List (List Nat)} (h : Bys w V vs L) (j : Nat) : Bys w V (vs.drop j) (L.drop j) :=
  ⟨by simp [h.len], fun i v bs h1 h2 => h.each (j + i) v bs (by simpa using h1) (by simpa using h2)⟩
theorem Bys.snoc {w : World} {V : Nat → Prop} {vs : List Value} {L : List (List Nat)} (h : Bys w V vs L) {v : Value} {bs : List Nat} (hb : By w V v bs) : Bys w V (vs ++ [v]) (L ++ [bs]) := by
  refine ⟨by simp [h.len], fun i u cs h1 h2 => ?_⟩
  have hl := h.len
  rcases Nat.lt_or_ge i vs.length with hi | hi
  · rw [List.getElem?_append_left hi] at h1
    rw [List.getElem?_append_left (by omega)] at h2
    exact h.each i u cs h1 h2
  · rw [List.getElem?_append_right hi] at h1
    rw [List.getElem?_append_right (by omega)] at h2
    have h3 : i - vs.length = i - L.length := by omega
    rw [h3] at h1
    generalize i - L.length = d at *
    cases d with
    | zero => simp at h1 h2; subst h1 h2; exact hb
    | succ d => simp at h1
theorem Bys.one {w : World} {V : Nat → Prop} {vs : List Value} {L : List (List Nat)} (h : Bys w V vs L) : ∀ u ∈ vs, u.oneCell' = true := by
  intro u hu
  obtain ⟨i, hi, rfl⟩ := List.getElem_of_mem hu
  have hl := h.len
  exact (h.each i vs[i] (L[i]'(by omega)) (by simp) (by simp)).one

/-- Whose end it is. -/
structure LkI where
  cl : Int
  ep : Int
  bo : Int
  sv : Bool

/-- What is pointed to. -/
structure Lh (w : World) (g : Nat) (I : LkI) (v : Value) (s h : Nat) : Prop where
  c0 : w.cell? ⟨g, 0, none⟩ = some (.int .i64 I.cl)
  c1 : w.cell? ⟨g, 1, none⟩ = some (.int .i64 I.ep)
  c2 : w.cell? ⟨g, 2, none⟩ = some (.int .i64 I.bo)
  c3 : w.cell? ⟨g, 3, none⟩ = some (.bool I.sv)
  c4 : w.cell? ⟨g, 4, none⟩ = some v
  c5 : w.cell? ⟨g, 5, none⟩ = some (.int .i64 (s : Int))
  c6 : w.cell? ⟨g, 6, none⟩ = some (.int .i64 (h : Int))
  fz : ∀ j, w.frozen? ⟨g, j, none⟩ = false
  ty : ∃ cs, w.heap[g]? = some (.cells cs 82 (0, 0))

section
variable {w w' : World} {g : Nat} {I : LkI} {v : Value} {s h : Nat}
theorem Lh.lt (H : Lh w g I v s h) : g < w.heap.size := by
  obtain ⟨cs, hb⟩ := H.ty
  exact (Array.getElem?_eq_some_iff.1 hb).1
theorem Lh.tyx (H : Lh w g I v s h) : ∃ cs fr, w.heap[g]? = some (.cells cs 82 fr) := by
  obtain ⟨cs, hb⟩ := H.ty
  exact ⟨cs, _, hb⟩
theorem Lh.keep (H : Lh w g I v s h) (hg : w'.heap[g]? = w.heap[g]?) : Lh w' g I v s h := by
  have c := fun j => World.cell?_of_block (w := w) (w' := w') (a := ⟨g, j, none⟩) hg
  exact ⟨(c 0).trans H.c0, (c 1).trans H.c1, (c 2).trans H.c2, (c 3).trans H.c3, (c 4).trans H.c4, (c 5).trans H.c5, (c 6).trans H.c6, fun j => (World.frozen?_of_block (w := w) hg).trans (H.fz j), by rw [hg]; exact H.ty⟩
theorem Lh.tyPut (H : Lh w g I v s h) (j : Nat) (u : Value) : ∃ cs, (w.setCell ⟨g, j, none⟩ u).heap[g]? = some (.cells cs 82 (0, 0)) := by
  obtain ⟨cs, hb⟩ := H.ty
  exact ⟨_, heap_setCell_same w g j cs 82 u hb⟩
theorem Lh.put4 (H : Lh w g I v s h) (u : Value) : Lh (w.setCell ⟨g, 4, none⟩ u) g I u s h :=
  ⟨by rw [put_other _ _ _ _ _ (by omega)]; exact H.c0, by rw [put_other _ _ _ _ _ (by omega)]; exact H.c1, by rw [put_other _ _ _ _ _ (by omega)]; exact H.c2, by rw [put_other _ _ _ _ _ (by omega)]; exact H.c3, World.cell?_setCell_same _ _ _ H.c4, by rw [put_other _ _ _ _ _ (by omega)]; exact H.c5, by rw [put_other _ _ _ _ _ (by omega)]; exact H.c6, fun j => by rw [World.frozen?_setCell]; exact H.fz j, H.tyPut _ _⟩
theorem Lh.put5 (H : Lh w g I v s h) (k : Nat) : Lh (w.setCell ⟨g, 5, none⟩ (.int .i64 (k : Int))) g I v k h :=
  ⟨by rw [put_other _ _ _ _ _ (by omega)]; exact H.c0, by rw [put_other _ _ _ _ _ (by omega)]; exact H.c1, by rw [put_other _ _ _ _ _ (by omega)]; exact H.c2, by rw [put_other _ _ _ _ _ (by omega)]; exact H.c3, by rw [put_other _ _ _ _ _ (by omega)]; exact H.c4, World.cell?_setCell_same _ _ _ H.c5, by rw [put_other _ _ _ _ _ (by omega)]; exact H.c6, fun j => by rw [World.frozen?_setCell]; exact H.fz j, H.tyPut _ _⟩
theorem Lh.put6 (H : Lh w g I v s h) (k : Nat) : Lh (w.setCell ⟨g, 6, none⟩ (.int .i64 (k : Int))) g I v s k :=
  ⟨by rw [put_other _ _ _ _ _ (by omega)]; exact H.c0, by rw [put_other _ _ _ _ _ (by omega)]; exact H.c1, by rw [put_other _ _ _ _ _ (by omega)]; exact H.c2, by rw [put_other _ _ _ _ _ (by omega)]; exact H.c3, by rw [put_other _ _ _ _ _ (by omega)]; exact H.c4, by rw [put_other _ _ _ _ _ (by omega)]; exact H.c5, World.cell?_setCell_same _ _ _ H.c6, fun j => by rw [World.frozen?_setCell]; exact H.fz j, H.tyPut _ _⟩
end

/-- A link lies at block g; its list of bodies is its own, in another block; the bodies lie in blocks of a set. -/
structure Lk (w : World) (B g : Nat) (ao : Option Addr) (n cap : Nat) (V : Nat → Prop) (I : LkI) (L : List (List Nat)) (s h : Nat) : Prop where
  hd : Lh w g I (.slice ao n cap) s h
  row : ∃ vs, OwnS w B 43 ao cap vs ∧ Bys w V vs L
  len : L.length = n
  bg : B ≤ g
  le : n ≤ 8
  sl : n ≤ s
  sm : s ≤ 16777215
  hm : h ≤ 16777215
  sz : ∀ bs ∈ L, bs.length ≤ 700

section
variable {w w' : World} {B g : Nat} {ao : Option Addr} {n cap : Nat} {V : Nat → Prop} {I : LkI} {L : List (List Nat)} {s h : Nat}
theorem Lk.ty (H : Lk w B g ao n cap V I L s h) : Ty w 43 ao := by
  obtain ⟨vs, ho, -⟩ := H.row
  exact Ty.own ho
theorem Lk.ge (H : Lk w B g ao n cap V I L s h) : ∀ a, ao = some a → B ≤ a.block ∧ a.block < w.heap.size := by
  obtain ⟨vs, ho, -⟩ := H.row
  exact ho.inn
/-- The list lies beside the link. -/
theorem Lk.ne (H : Lk w B g ao n cap V I L s h) : ∀ a, ao = some a → a.block ≠ g := by
  intro a ha e
  obtain ⟨cs, fr, hb⟩ := H.ty a ha
  obtain ⟨cs', hb'⟩ := H.hd.ty
  rw [e, hb'] at hb
  simp at hb
theorem Lk.ktOff (H : Lk w B g ao n cap V I L s h) (hO : Off2 g ao w w') : KT w w' := KT.of_off2 hO H.hd.tyx H.ty
theorem Lk.keep (H : Lk w B g ao n cap V I L s h) (hk : KT w w') (hg : w'.heap[g]? = w.heap[g]?) (ha : ∀ a, ao = some a → w'.heap[a.block]? = w.heap[a.block]?) : Lk w' B g ao n cap V I L s h := by
  obtain ⟨vs, ho, hb⟩ := H.row
  exact ⟨H.hd.keep hg, ⟨vs, ho.keep ha, hb.kt hk⟩, H.len, H.bg, H.le, H.sl, H.sm, H.hm, H.sz⟩
theorem Lk.below (H : Lk w B g ao n cap V I L s h) (hb : Below w.heap.size w w') : Lk w' B g ao n cap V I L s h :=
  H.keep (KT.of_below hb) (hb.block g H.hd.lt) fun a ha => hb.block _ (H.ge a ha).2
theorem Lk.mono (H : Lk w B g ao n cap V I L s h) {B' : Nat} {U : Nat → Prop} (hB : B' ≤ B) (hv : ∀ k, k < w.heap.size → V k → U k) : Lk w B' g ao n cap U I L s h := by
  obtain ⟨vs, ho, hb⟩ := H.row
  exact ⟨H.hd, ⟨vs, ho.mono hB, hb.mono hv⟩, H.len, Nat.le_trans hB H.bg, H.le, H.sl, H.sm, H.hm, H.sz⟩
theorem Lk.belowB (H : Lk w B g ao n cap V I L s h) (hO : Off2 g ao w w') : Below B w w' :=
  hO.below H.bg (fun x hx => (H.ge x hx).1) (by have := H.hd.lt; have := H.bg; omega)
/-- Where another link has turned. -/
theorem Lk.other (H : Lk w B g ao n cap V I L s h) {B2 g2 : Nat} {ao2 : Option Addr} {n2 cap2 : Nat} {V2 : Nat → Prop} {I2 : LkI} {L2 : List (List Nat)} {s2 h2 : Nat} (K : Lk w B2 g2 ao2 n2 cap2 V2 I2 L2 s2 h2) (hO : Off2 g2 ao2 w w')
    (hne : g ≠ g2) (hra : ∀ a b, ao = some a → ao2 = some b → b.block ≠ a.block) : Lk w' B g ao n cap V I L s h := by
  refine H.keep (K.ktOff hO) (hO.block g H.hd.lt hne ?_) fun a ha => hO.block _ (H.ge a ha).2 ?_ fun b hb => hra a b ha hb
  · intro b hb e
    obtain ⟨cs, fr, h1⟩ := K.ty b hb
    obtain ⟨cs', h2⟩ := H.hd.ty
    rw [e, h2] at h1
    simp at h1
  · intro e
    obtain ⟨cs, fr, h1⟩ := H.ty a ha
    obtain ⟨cs', h2⟩ := K.hd.ty
    rw [e, h2] at h1
    simp at h1
end

/-- What a call leaves of a link. -/
def Led (w w' : World) (B g : Nat) (ao : Option Addr) (n : Nat) (V : Nat → Prop) (I : LkI) (L : List (List Nat)) (s h : Nat) : Prop := ∃ ao2 cap2, Lk w' B g ao2 n cap2 V I L s h ∧ Off2 g ao w w' ∧ Nw w ao ao2

/-- A new link. -/
theorem Lk.new (w : World) (B : Nat) (V : Nat → Prop) (I : LkI) (hB : B ≤ w.heap.size) : Lk (w.alloc (.cells #[.int .i64 I.cl, .int .i64 I.ep, .int .i64 I.bo, .bool I.sv, .slice none 0 0, .int .i64 0, .int .i64 0] 82)) B w.heap.size none 0 0 V I [] 0 0 := by
  have h := heap_alloc_new w (.cells #[.int .i64 I.cl, .int .i64 I.ep, .int .i64 I.bo, .bool I.sv, .slice none 0 0, .int .i64 0, .int .i64 0] 82)
  refine ⟨⟨?_, ?_, ?_, ?_, ?_, ?_, ?_, fun j => frozen_of_row _ _ _ _ _ h, _, h⟩, ⟨[], OwnS.nil _ _ _, Bys.nil _ _⟩, rfl, hB, by omega, by omega, by omega, by omega, by simp⟩
  all_goals rw [cell_of_row _ _ _ _ _ _ h]; rfl

end Go.Proofs.YtmmgdmfdiaoegaaGreat.Lnk
