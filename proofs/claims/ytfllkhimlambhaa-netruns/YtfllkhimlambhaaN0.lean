/- Package net: frames as values and in memory, a net in memory. No walk. -/
import Derived.Test.YtfllkhimlambhaaNb
import Derived.Test.YtfllkhimlambhaaCr7
namespace Go.Proofs.Ytfllkhimlambhaa
open Go.RowKit
set_option linter.unusedVariables false

/-- A frame: where its bytes lie, and which they are; whether it was spoilt. -/
structure Fv where
  ao : Option Addr
  n : Nat
  cap : Nat
  bs : List Nat
  sp : Bool

abbrev fvV (x : Fv) : Value := .agg #[.slice x.ao x.n x.cap, .bool x.sp]
abbrev fvO (x : Fv) : Obj := .cells #[.slice x.ao x.n x.cap, .bool x.sp] 63
def fvC (x : Fv) : List Value := [.slice x.ao x.n x.cap, .bool x.sp]
theorem fvE : Enc fvC 2 := ⟨fun _ => rfl, fun x u hu => by simp only [fvC, List.mem_cons, List.not_mem_nil, or_false] at hu; rcases hu with rfl | rfl <;> rfl, by decide⟩
abbrev zF : Value := .agg #[.slice none 0 0, .bool false]
abbrev zFO : Obj := .cells #[.slice none 0 0, .bool false] 63
theorem info63 : (Try.prog.info? 63).map (fun i => (i.zero, i.size, i.bytes)) = some (some zF, 2, 32) := by kernel_rfl

abbrev It := List Nat × Bool
def Fv.it (x : Fv) : It := (x.bs, x.sp)

theorem fvIn (x : Fv) (w : World) (g o : Nat) (h : ∀ j u, (fvC x)[j]? = some u → w.cell? ⟨g, o + j, none⟩ = some u) : w.cell? ⟨g, o, none⟩ = some (.slice x.ao x.n x.cap) ∧ w.cell? ⟨g, o + 1, none⟩ = some (.bool x.sp) := ⟨h 0 _ rfl, h 1 _ rfl⟩
theorem fvCells {w : World} {g : Nat} {x : Fv} (h : w.heap[g]? = some (fvO x)) : w.cell? ⟨g, 0, none⟩ = some (.slice x.ao x.n x.cap) ∧ w.cell? ⟨g, 1, none⟩ = some (.bool x.sp) := by
  refine ⟨?_, ?_⟩
  all_goals rw [cell_of_row _ _ _ _ _ _ h]; rfl

theorem RdS.keepB {w w' : World} {ao : Option Addr} {cap : Nat} {xs : List Value} (h : RdS w ao cap xs) (hs : w.heap.size ≤ w'.heap.size) (hb : ∀ a, ao = some a → a.block < w.heap.size → w'.heap[a.block]? = w.heap[a.block]?) : RdS w' ao cap xs := by
  refine ⟨h.le, h.mx, h.nil, fun hx => ?_⟩
  obtain ⟨b, off, e, hlt, hc⟩ := h.cell hx
  exact ⟨b, off, e, Nat.lt_of_lt_of_le hlt hs, fun t ht => (World.cell?_of_block (w := w) (w' := w') (a := ⟨b, off + t, none⟩) (hb ⟨b, off, none⟩ e hlt)).trans (hc t ht)⟩

theorem put_other (w : World) (g j i : Nat) (v : Value) (h : i ≠ j) : (w.setCell ⟨g, j, none⟩ v).cell? ⟨g, i, none⟩ = w.cell? ⟨g, i, none⟩ := by
  exact World.cell?_setCell_other _ _ _ _ (by intro e; simp only [Addr.mk.injEq] at e; omega)

/-- A frame's bytes, in a block of bytes of a set. -/
structure Fb (w : World) (V : Nat → Prop) (x : Fv) : Prop where
  rd : Rd8 w x.ao x.n x.cap x.bs
  ty : ∀ a, x.ao = some a → V a.block ∧ ∃ cs, w.heap[a.block]? = some (.cells cs 5)
  sz : x.n ≤ 140737488355328

theorem Fb.keep {w w' : World} {V : Nat → Prop} {x : Fv} (h : Fb w V x) (hs : w.heap.size ≤ w'.heap.size) (hb : ∀ k cs, V k → w.heap[k]? = some (.cells cs 5) → w'.heap[k]? = w.heap[k]?) : Fb w' V x := by
  refine ⟨⟨RdS.keepB h.rd.rd hs ?_, h.rd.len, h.rd.byte⟩, ?_, h.sz⟩
  · intro a ha _
    obtain ⟨hv, cs, hc⟩ := h.ty a ha
    exact hb _ cs hv hc
  · intro a ha
    obtain ⟨hv, cs, hc⟩ := h.ty a ha
    exact ⟨hv, cs, (hb _ cs hv hc).trans hc⟩
theorem Fb.below {w w' : World} {V : Nat → Prop} {x : Fv} (h : Fb w V x) (hb : Below w.heap.size w w') : Fb w' V x := h.keep hb.size fun k cs _ hc => hb.block k (Array.getElem?_eq_some_iff.1 hc).1
theorem Fb.mono {w : World} {V U : Nat → Prop} {x : Fv} (h : Fb w V x) (hv : ∀ k, k < w.heap.size → V k → U k) : Fb w U x :=
  ⟨h.rd, fun a ha => by obtain ⟨h1, cs, h2⟩ := h.ty a ha; exact ⟨hv _ (Array.getElem?_eq_some_iff.1 h2).1 h1, cs, h2⟩, h.sz⟩
/-- Bytes that are a call's own. -/
theorem Fb.own {w : World} {base : Nat} {ao : Option Addr} {n cap : Nat} {bs : List Nat} (h : Own8 w base ao n cap bs) (sp : Bool) (V : Nat → Prop) (hV : ∀ k, base ≤ k → V k) (hn : n ≤ 140737488355328) : Fb w V ⟨ao, n, cap, bs, sp⟩ := by
  refine ⟨h.rd, fun a ha => ?_, hn⟩
  simp only at ha
  subst ha
  obtain ⟨_, h2⟩ := h.own
  rcases h2 with ⟨hv, _⟩ | ⟨g, cp, cur, hv, hg, hh, _⟩
  · simp at hv
  · simp only [Value.slice.injEq, Option.some.injEq] at hv
    obtain ⟨rfl, _, rfl⟩ := hv
    exact ⟨hV _ hg, _, hh⟩

/-- All blocks but those of V, and all rows but those of nets and of frames, are as they were. -/
structure OffN (V : Nat → Prop) (w w' : World) : Prop where
  off : OffS V w w'
  kt : ∀ (k : Nat) (cs : Array Value) (e : TypeId) (fr : Nat × Nat), w.heap[k]? = some (.cells cs e fr) → e ≠ 59 → e ≠ 63 → w'.heap[k]? = w.heap[k]?
theorem OffN.size {V : Nat → Prop} {w w' : World} (h : OffN V w w') : w.heap.size ≤ w'.heap.size := h.off.size
theorem OffN.of_below {V : Nat → Prop} {w w' : World} (h : Below w.heap.size w w') : OffN V w w' := ⟨.of_below h, fun k cs e fr hc _ _ => h.block k (Array.getElem?_eq_some_iff.1 hc).1⟩
theorem OffN.refl (V : Nat → Prop) (w : World) : OffN V w w := .of_below (Below.refl _ _)
theorem OffN.trans {V : Nat → Prop} {a b c : World} (h : OffN V a b) (k : OffN (fun j => V j ∨ a.heap.size ≤ j) b c) : OffN V a c := ⟨h.off.trans k.off, fun j cs e fr hc h1 h2 => (k.kt j cs e fr ((h.kt j cs e fr hc h1 h2).trans hc) h1 h2).trans (h.kt j cs e fr hc h1 h2)⟩
theorem OffN.mono {A B : Nat → Prop} {w w' : World} (h : OffN A w w') (hB : ∀ k, A k → B k) : OffN B w w' := ⟨h.off.mono hB, h.kt⟩
theorem OffN.beyond {A : Nat → Prop} {w w' : World} (h : OffN A w w') {a : Addr} (ha : w.heap.size ≤ a.block) (u : Value) : OffN A w (w'.setCell a u) :=
  ⟨⟨h.off.os, h.off.tape, h.off.output, by simpa using h.off.size, fun k hk hA => (Below.heap_setCell _ _ _ _ (by omega)).trans (h.off.block k hk hA)⟩, fun k cs e fr hc h1 h2 => (Below.heap_setCell _ _ _ _ (by have := (Array.getElem?_eq_some_iff.1 hc).1; omega)).trans (h.kt k cs e fr hc h1 h2)⟩
/-- Bytes stay. -/
theorem Fb.off {w w' : World} {V U : Nat → Prop} {x : Fv} (h : Fb w V x) (hO : OffN U w w') : Fb w' V x := h.keep hO.size fun k cs _ hc => hO.kt k cs 5 (0, 0) hc (by decide) (by decide)

def upd {α : Type} (f : Nat → α) (l : Nat) (x : α) : Nat → α := fun j => if j = l then x else f j
theorem upd_same {α : Type} (f : Nat → α) (l : Nat) (x : α) : upd f l x l = x := if_pos rfl
theorem upd_other {α : Type} (f : Nat → α) {l j : Nat} (x : α) (h : j ≠ l) : upd f l x j = f j := if_neg h

/-- A net in memory: its block, its eight rows, apart from one another, the bytes of its frames; V: the blocks of all of them. -/
structure Nt (w : World) (g : Nat) (V : Nat → Prop) (A : Nat → Option Addr) (C : Nat → Nat) (F : Nat → List Fv) : Prop where
  cell : ∀ l, l < 8 → w.cell? ⟨g, l, none⟩ = some (.slice (A l) (F l).length (C l))
  blk : ∃ cs, w.heap[g]? = some (.cells cs 59)
  row : ∀ l, l < 8 → OwR fvC 2 63 w (A l) (C l) (F l)
  apart : ∀ l k, l < 8 → k < 8 → l ≠ k → ∀ a b, A l = some a → A k = some b → a.block ≠ b.block
  inV : V g ∧ ∀ l, l < 8 → ∀ a, A l = some a → V a.block
  by' : ∀ l, l < 8 → ∀ x ∈ F l, Fb w V x
  le : ∀ l, l < 8 → (F l).length ≤ 200

section
variable {w w' : World} {g : Nat} {V U : Nat → Prop} {A : Nat → Option Addr} {C : Nat → Nat} {F : Nat → List Fv}
theorem Nt.lt (H : Nt w g V A C F) : g < w.heap.size := by obtain ⟨cs, h⟩ := H.blk; exact (Array.getElem?_eq_some_iff.1 h).1
theorem Nt.fz (H : Nt w g V A C F) (l : Nat) : w.frozen? ⟨g, l, none⟩ = false := by obtain ⟨cs, h⟩ := H.blk; exact frozen_of_row _ _ _ _ _ h
theorem Nt.ne (H : Nt w g V A C F) {l : Nat} (hl : l < 8) {a : Addr} (ha : A l = some a) : a.block ≠ g := by
  intro e
  obtain ⟨_, cur, h1⟩ := (H.row l hl).lt a ha
  obtain ⟨cs, h2⟩ := H.blk
  rw [e, h2] at h1
  cases h1
theorem Nt.keep (H : Nt w g V A C F) (hs : w.heap.size ≤ w'.heap.size) (hb : ∀ k, k < w.heap.size → V k → w'.heap[k]? = w.heap[k]?) : Nt w' g V A C F := by
  have hg := hb g H.lt H.inV.1
  refine ⟨fun l hl => (World.cell?_of_block (w := w) (a := ⟨g, l, none⟩) hg).trans (H.cell l hl), ?_, fun l hl => (H.row l hl).keep fun a ha hlt => hb _ hlt (H.inV.2 l hl a ha), H.apart, H.inV, fun l hl x hx => (H.by' l hl x hx).keep hs fun k cs hv hc => hb k (Array.getElem?_eq_some_iff.1 hc).1 hv, H.le⟩
  obtain ⟨cs, h⟩ := H.blk
  exact ⟨cs, hg.trans h⟩
theorem Nt.mono (H : Nt w g V A C F) (hv : ∀ k, k < w.heap.size → V k → U k) : Nt w g U A C F :=
  ⟨H.cell, H.blk, H.row, H.apart, ⟨hv _ H.lt H.inV.1, fun l hl a ha => hv _ ((H.row l hl).lt a ha).1 (H.inV.2 l hl a ha)⟩, fun l hl x hx => (H.by' l hl x hx).mono hv, H.le⟩

/-- The blocks of the net and what is new. -/
def Grow (w : World) (V : Nat → Prop) : Nat → Prop := fun k => V k ∨ w.heap.size ≤ k

/-- A net behind a step that turned one row, and the slice that is kept then. -/
theorem Nt.stored (H : Nt w g V A C F) {w6 : World} {l : Nat} (hl : l < 8) (hs : w.heap.size ≤ w6.heap.size) (hos : w6.os = w.os) (htp : w6.tape = w.tape) (hout : w6.output = w.output) (hb : ∀ k, k < w.heap.size → (∀ a, A l = some a → a.block ≠ k) → w6.heap[k]? = w.heap[k]?)
    {ao3 : Option Addr} {cap3 m3 : Nat} {L3 : List Fv} (ho : OwR fvC 2 63 w6 ao3 cap3 L3) (hm : L3.length = m3) (h200 : m3 ≤ 200) (hVU : ∀ k, V k → U k) (hloc : ao3 = A l ∨ ∀ a, ao3 = some a → w.heap.size ≤ a.block ∧ U a.block) (hby : ∀ x ∈ L3, Fb w6 U x) :
    Nt (w6.setCell ⟨g, l, none⟩ (.slice ao3 m3 cap3)) g U (upd A l ao3) (upd C l cap3) (upd F l L3) ∧ OffN V w (w6.setCell ⟨g, l, none⟩ (.slice ao3 m3 cap3)) := by
  subst hm
  have hg6 : w6.heap[g]? = w.heap[g]? := hb g H.lt fun a ha => H.ne hl ha
  obtain ⟨cs, hcs⟩ := H.blk
  have hcs6 := hg6.trans hcs
  have hc6 : ∀ j, j < 8 → w6.cell? ⟨g, j, none⟩ = some (.slice (A j) (F j).length (C j)) := fun j hj => (World.cell?_of_block (w := w) (a := ⟨g, j, none⟩) hg6).trans (H.cell j hj)
  have hne3 : ∀ a, ao3 = some a → a.block ≠ g := by
    intro a ha e
    obtain ⟨_, cur, h1⟩ := ho.lt a ha
    rw [e, hcs6] at h1
    cases h1
  have hbz : ∀ k, k ≠ g → (w6.setCell ⟨g, l, none⟩ (.slice ao3 L3.length cap3)).heap[k]? = w6.heap[k]? := fun k hk => Below.heap_setCell _ _ _ _ (by simpa using hk)
  have hin3 : ∀ a, ao3 = some a → U a.block := by
    intro a ha
    rcases hloc with e | h
    · exact hVU _ (H.inV.2 l hl a (e ▸ ha))
    · exact (h a ha).2
  refine ⟨⟨?_, ⟨_, heap_setCell_same w6 g l cs 59 _ hcs6⟩, ?_, ?_, ⟨hVU _ H.inV.1, ?_⟩, ?_, ?_⟩, ?_⟩
  · intro j hj
    by_cases e : j = l
    · subst e
      rw [upd_same, upd_same, upd_same]
      exact World.cell?_setCell_same _ _ _ (hc6 j hj)
    · rw [upd_other _ _ e, upd_other _ _ e, upd_other _ _ e, put_other _ _ _ _ _ (by omega)]
      exact hc6 j hj
  · intro j hj
    by_cases e : j = l
    · subst e
      rw [upd_same, upd_same, upd_same]
      exact ho.keep fun a ha _ => hbz _ (hne3 a ha)
    · rw [upd_other _ _ e, upd_other _ _ e, upd_other _ _ e]
      refine (H.row j hj).keep fun a ha hlt => (hbz _ (H.ne hj ha)).trans (hb _ hlt fun b hb' => ?_)
      exact H.apart l j hl hj (Ne.symm e) b a hb' ha
  · intro j k hj hk hjk a b ha hb'
    by_cases e : j = l
    · subst e
      rw [upd_same] at ha
      rw [upd_other _ _ (Ne.symm hjk)] at hb'
      rcases hloc with e1 | h
      · exact H.apart j k hj hk hjk a b (e1 ▸ ha) hb'
      · have h1 := (h a ha).1
        have h2 := ((H.row k hk).lt b hb').1
        omega
    · rw [upd_other _ _ e] at ha
      by_cases e2 : k = l
      · subst e2
        rw [upd_same] at hb'
        rcases hloc with e1 | h
        · exact H.apart j k hj hk hjk a b ha (e1 ▸ hb')
        · have h1 := (h b hb').1
          have h2 := ((H.row j hj).lt a ha).1
          omega
      · rw [upd_other _ _ e2] at hb'
        exact H.apart j k hj hk hjk a b ha hb'
  · intro j hj a ha
    by_cases e : j = l
    · subst e
      rw [upd_same] at ha
      exact hin3 a ha
    · rw [upd_other _ _ e] at ha
      exact hVU _ (H.inV.2 j hj a ha)
  · have hk5 : ∀ (k : Nat) (cs' : Array Value), w6.heap[k]? = some (.cells cs' 5) → (w6.setCell ⟨g, l, none⟩ (.slice ao3 L3.length cap3)).heap[k]? = w6.heap[k]? := by
      intro k cs' hc
      refine hbz k ?_
      rintro rfl
      rw [hcs6] at hc
      cases hc
    intro j hj x hx
    by_cases e : j = l
    · subst e
      rw [upd_same] at hx
      exact (hby x hx).keep (by simp) fun k cs' _ hc => hk5 k cs' hc
    · rw [upd_other _ _ e] at hx
      have h1 := (H.by' j hj x hx).mono (U := U) fun k _ hk => hVU k hk
      refine (h1.keep (w' := w6) hs fun k cs' _ hc => hb k (Array.getElem?_eq_some_iff.1 hc).1 fun a ha e' => ?_).keep (by simp) fun k cs' _ hc => hk5 k cs' hc
      obtain ⟨_, cur, h2⟩ := (H.row l hl).lt a ha
      rw [e', hc] at h2
      cases h2
  · intro j hj
    by_cases e : j = l
    · subst e
      rw [upd_same]
      exact h200
    · rw [upd_other _ _ e]
      exact H.le j hj
  · refine ⟨OffS.setCell ⟨hos, htp, hout, hs, fun k hk hn => hb k hk fun a ha e => hn (e ▸ H.inV.2 l hl a ha)⟩ H.inV.1 _, fun k cs' e6 fr hc h59 h63 => (hbz k ?_).trans (hb k (Array.getElem?_eq_some_iff.1 hc).1 fun a ha e' => ?_)⟩
    · rintro rfl
      rw [hcs] at hc
      cases hc
      exact h59 rfl
    · obtain ⟨_, cur, h2⟩ := (H.row l hl).lt a ha
      rw [e', hc] at h2
      cases h2
      exact h63 rfl

/-- A net whose row of one lane was turned in place. -/
theorem Nt.rowed (H : Nt w g V A C F) {w6 : World} {l : Nat} (hl : l < 8) (hs : w.heap.size ≤ w6.heap.size) (hos : w6.os = w.os) (htp : w6.tape = w.tape) (hout : w6.output = w.output) (hb : ∀ k, k < w.heap.size → (∀ a, A l = some a → a.block ≠ k) → w6.heap[k]? = w.heap[k]?)
    {L3 : List Fv} (ho : OwR fvC 2 63 w6 (A l) (C l) L3) (hm : L3.length = (F l).length) (hVU : ∀ k, V k → U k) (hby : ∀ x ∈ L3, Fb w6 U x) :
    Nt w6 g U A C (upd F l L3) ∧ OffN V w w6 := by
  have hg6 : w6.heap[g]? = w.heap[g]? := hb g H.lt fun a ha => H.ne hl ha
  obtain ⟨cs, hcs⟩ := H.blk
  have hlen : ∀ j, (upd F l L3 j).length = (F j).length := by
    intro j
    by_cases e : j = l
    · subst e; rw [upd_same, hm]
    · rw [upd_other _ _ e]
  refine ⟨⟨?_, ⟨_, hg6.trans hcs⟩, ?_, H.apart, ⟨hVU _ H.inV.1, fun j hj a ha => hVU _ (H.inV.2 j hj a ha)⟩, ?_, fun j hj => by rw [hlen]; exact H.le j hj⟩, ⟨hos, htp, hout, hs, fun k hk hn => hb k hk fun a ha e => hn (e ▸ H.inV.2 l hl a ha)⟩, fun k cs' e6 fr hc h59 h63 => hb k (Array.getElem?_eq_some_iff.1 hc).1 fun a ha e' => ?_⟩
  · intro j hj
    rw [hlen]
    exact (World.cell?_of_block (w := w) (a := ⟨g, j, none⟩) hg6).trans (H.cell j hj)
  · intro j hj
    by_cases e : j = l
    · subst e
      rw [upd_same]
      exact ho
    · rw [upd_other _ _ e]
      exact (H.row j hj).keep fun a ha hlt => hb _ hlt fun b hb' => H.apart l j hl hj (Ne.symm e) b a hb' ha
  · intro j hj x hx
    by_cases e : j = l
    · subst e
      rw [upd_same] at hx
      exact hby x hx
    · rw [upd_other _ _ e] at hx
      refine ((H.by' j hj x hx).mono (U := U) fun k _ hk => hVU k hk).keep (w' := w6) hs fun k cs' _ hc => hb k (Array.getElem?_eq_some_iff.1 hc).1 fun a ha e' => ?_
      obtain ⟨_, cur, h2⟩ := (H.row l hl).lt a ha
      rw [e', hc] at h2
      cases h2
  · obtain ⟨_, cur, h2⟩ := (H.row l hl).lt a ha
    rw [e', hc] at h2
    cases h2
    exact h63 rfl
end

/-- A net in memory, by what is on each lane. -/
def Net (w : World) (g : Nat) (V : Nat → Prop) (T : Nat → List It) : Prop := ∃ A C F, Nt w g V A C F ∧ ∀ l, l < 8 → (F l).map Fv.it = T l

/-- What a call leaves of a net. -/
def Ned (w w' : World) (g : Nat) (V : Nat → Prop) (T : Nat → List It) : Prop := Net w' g (Grow w V) T ∧ OffN V w w'

section
variable {w w' : World} {g : Nat} {V U : Nat → Prop} {T : Nat → List It}
theorem Net.keep (H : Net w g V T) (hs : w.heap.size ≤ w'.heap.size) (hb : ∀ k, k < w.heap.size → V k → w'.heap[k]? = w.heap[k]?) : Net w' g V T := by
  obtain ⟨A, C, F, h, e⟩ := H
  exact ⟨A, C, F, h.keep hs hb, e⟩
theorem Net.below (H : Net w g V T) (hb : Below w.heap.size w w') : Net w' g V T := H.keep hb.size fun k hk _ => hb.block k hk
theorem Net.mono (H : Net w g V T) (hv : ∀ k, k < w.heap.size → V k → U k) : Net w g U T := by
  obtain ⟨A, C, F, h, e⟩ := H
  exact ⟨A, C, F, h.mono hv, e⟩
theorem Net.lt (H : Net w g V T) : g < w.heap.size := by
  obtain ⟨A, C, F, h, e⟩ := H
  exact h.lt
theorem Net.to (H : Net w g V T) {T' : Nat → List It} (h : ∀ l, l < 8 → T l = T' l) : Net w g V T' := by
  obtain ⟨A, C, F, h1, e⟩ := H
  exact ⟨A, C, F, h1, fun l hl => (e l hl).trans (h l hl)⟩
theorem Ned.same (H : Net w g V T) : Ned w w g V T := ⟨H.mono fun k _ h => .inl h, OffN.refl _ _⟩
end

theorem nine0 (w : World) : Net (w.alloc (.cells #[.slice none 0 0, .slice none 0 0, .slice none 0 0, .slice none 0 0, .slice none 0 0, .slice none 0 0, .slice none 0 0, .slice none 0 0] 59)) w.heap.size (fun k => w.heap.size ≤ k) (fun _ => []) := by
  have hh := heap_alloc_new w (Obj.cells #[.slice none 0 0, .slice none 0 0, .slice none 0 0, .slice none 0 0, .slice none 0 0, .slice none 0 0, .slice none 0 0, .slice none 0 0] 59)
  refine ⟨fun _ => none, fun _ => 0, fun _ => [], ⟨fun l hl => ?_, ⟨_, hh⟩, fun l hl => OwR.nil _ _, fun l k _ _ _ a b ha => (by cases ha), ⟨Nat.le_refl _, fun l _ a ha => (by cases ha)⟩, fun l _ x hx => (by cases hx), fun l _ => (by simp)⟩, fun _ _ => rfl⟩
  rw [cell_of_row _ _ _ _ _ _ hh]
  rcases l with _ | _ | _ | _ | _ | _ | _ | _ | l <;> first | rfl | omega

end Go.Proofs.Ytfllkhimlambhaa
