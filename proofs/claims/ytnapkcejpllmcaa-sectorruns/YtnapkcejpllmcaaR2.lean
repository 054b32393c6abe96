/- The reference's drive in memory; its copy. -/
import Derived.Test.YtnapkcejpllmcaaR1
import Derived.Deep.RegionHeldLaw
import Derived.WalkSmall
namespace Go.Proofs.Ytnapkcejpllmcaa
open Go.RowKit
set_option linter.unusedVariables false

theorem info4 : (Try.prog.info? 4).map (fun i => (i.zero, i.size, i.bytes)) = some (some (.bool false), 1, 1) := by kernel_rfl

/-- The cells of a drive of the reference: three rows. -/
structure Cells3 (w : World) (V : Nat → Prop) (o0 o1 o2 : Nat) (L : List Sec) : Prop where
  cb : ∀ i (h : i < L.length), ∃ ao n cap, w.cell? ⟨o0, i, none⟩ = some (.slice ao n cap) ∧ Rd8 w ao n cap L[i].b ∧ In w V ao
  cs : ∀ i (h : i < L.length), ∃ ao n cap, w.cell? ⟨o1, i, none⟩ = some (.slice ao n cap) ∧ Rd8 w ao n cap L[i].s ∧ In w V ao
  cl : ∀ i (h : i < L.length), w.cell? ⟨o2, i, none⟩ = some (.bool L[i].l)
  lt : o0 < w.heap.size ∧ o1 < w.heap.size ∧ o2 < w.heap.size

theorem Cells3.kept {w w' : World} {V : Nat → Prop} {o0 o1 o2 : Nat} {L : List Sec} (h : Cells3 w V o0 o1 o2 L) (hk : Kept V w w') (h0 : w'.heap[o0]? = w.heap[o0]?) (h1 : w'.heap[o1]? = w.heap[o1]?) (h2 : w'.heap[o2]? = w.heap[o2]?) : Cells3 w' V o0 o1 o2 L :=
  ⟨fun i hi => by obtain ⟨ao, n, cap, r1, r2, r3⟩ := h.cb i hi; exact ⟨ao, n, cap, (World.cell?_of_block (w := w) h0).trans r1, r2.kept r3 hk, r3.mono hk.size fun _ _ h => h⟩,
   fun i hi => by obtain ⟨ao, n, cap, r1, r2, r3⟩ := h.cs i hi; exact ⟨ao, n, cap, (World.cell?_of_block (w := w) h1).trans r1, r2.kept r3 hk, r3.mono hk.size fun _ _ h => h⟩,
   fun i hi => (World.cell?_of_block (w := w) h2).trans (h.cl i hi), ⟨Nat.lt_of_lt_of_le h.lt.1 hk.size, Nat.lt_of_lt_of_le h.lt.2.1 hk.size, Nat.lt_of_lt_of_le h.lt.2.2 hk.size⟩⟩

theorem Cells3.mono {w : World} {V U : Nat → Prop} {o0 o1 o2 : Nat} {L : List Sec} (h : Cells3 w V o0 o1 o2 L) (hv : ∀ k, k < w.heap.size → V k → U k) : Cells3 w U o0 o1 o2 L :=
  ⟨fun i hi => by obtain ⟨ao, n, cap, r1, r2, r3⟩ := h.cb i hi; exact ⟨ao, n, cap, r1, r2, r3.mono (Nat.le_refl _) hv⟩,
   fun i hi => by obtain ⟨ao, n, cap, r1, r2, r3⟩ := h.cs i hi; exact ⟨ao, n, cap, r1, r2, r3.mono (Nat.le_refl _) hv⟩, h.cl, h.lt⟩

/-- What a slice's address and room say of each other. -/
structure Shp (n : Nat) (a : Option Addr) (c : Nat) : Prop where
  le : n ≤ c
  mx : c ≤ maxLen
  nil : a = none → c = 0

/-- A drive of the reference, to be read: all of it lies in blocks of the set. -/
structure Ref (w : World) (V : Nat → Prop) (a0 : Option Addr) (c0 : Nat) (a1 : Option Addr) (c1 : Nat) (a2 : Option Addr) (c2 : Nat) (L : List Sec) : Prop where
  le : L.length ≤ 6
  s0 : Shp L.length a0 c0
  s1 : Shp L.length a1 c1
  s2 : Shp L.length a2 c2
  pos : L ≠ [] → ∃ o0 o1 o2, a0 = some ⟨o0, 0, none⟩ ∧ a1 = some ⟨o1, 0, none⟩ ∧ a2 = some ⟨o2, 0, none⟩ ∧ Cells3 w V o0 o1 o2 L ∧ V o0 ∧ V o1 ∧ V o2

theorem Ref.kept {w w' : World} {V : Nat → Prop} {a0 a1 a2 : Option Addr} {c0 c1 c2 : Nat} {L : List Sec} (h : Ref w V a0 c0 a1 c1 a2 c2 L) (hk : Kept V w w') : Ref w' V a0 c0 a1 c1 a2 c2 L :=
  ⟨h.le, h.s0, h.s1, h.s2, fun hL => by
    obtain ⟨o0, o1, o2, e0, e1, e2, hc, v0, v1, v2⟩ := h.pos hL
    exact ⟨o0, o1, o2, e0, e1, e2, hc.kept hk (hk.block o0 hc.lt.1 v0) (hk.block o1 hc.lt.2.1 v1) (hk.block o2 hc.lt.2.2 v2), v0, v1, v2⟩⟩

theorem Ref.below {w w' : World} {V : Nat → Prop} {a0 a1 a2 : Option Addr} {c0 c1 c2 : Nat} {L : List Sec} (h : Ref w V a0 c0 a1 c1 a2 c2 L) (hb : Below w.heap.size w w') : Ref w' V a0 c0 a1 c1 a2 c2 L := h.kept (Kept.of_below hb)

theorem Ref.mono {w : World} {V U : Nat → Prop} {a0 a1 a2 : Option Addr} {c0 c1 c2 : Nat} {L : List Sec} (h : Ref w V a0 c0 a1 c1 a2 c2 L) (hv : ∀ k, k < w.heap.size → V k → U k) : Ref w U a0 c0 a1 c1 a2 c2 L :=
  ⟨h.le, h.s0, h.s1, h.s2, fun hL => by
    obtain ⟨o0, o1, o2, e0, e1, e2, hc, v0, v1, v2⟩ := h.pos hL
    exact ⟨o0, o1, o2, e0, e1, e2, hc.mono hv, hv _ hc.lt.1 v0, hv _ hc.lt.2.1 v1, hv _ hc.lt.2.2 v2⟩⟩

theorem Ref.tight {w : World} {V : Nat → Prop} {a0 a1 a2 : Option Addr} {c0 c1 c2 : Nat} {L : List Sec} (h : Ref w V a0 c0 a1 c1 a2 c2 L) : Ref w (fun k => V k ∧ k < w.heap.size) a0 c0 a1 c1 a2 c2 L := h.mono fun k hk hv => ⟨hv, hk⟩

/-- A drive of the reference that may be written: its three rows are blocks of their own, new since 'base', and its bytes lie elsewhere. -/
structure RefO (w : World) (V : Nat → Prop) (base : Nat) (a0 : Option Addr) (c0 : Nat) (a1 : Option Addr) (c1 : Nat) (a2 : Option Addr) (c2 : Nat) (L : List Sec) : Prop where
  le : L.length ≤ 6
  s0 : Shp L.length a0 c0
  s1 : Shp L.length a1 c1
  s2 : Shp L.length a2 c2
  vb : ∀ k, V k → k < base
  pos : L ≠ [] → ∃ o0 o1 o2, a0 = some ⟨o0, 0, none⟩ ∧ a1 = some ⟨o1, 0, none⟩ ∧ a2 = some ⟨o2, 0, none⟩ ∧ Cells3 w V o0 o1 o2 L ∧ base ≤ o0 ∧ o0 < o1 ∧ o1 < o2 ∧ (∀ j, w.frozen? ⟨o0, j, none⟩ = false) ∧ (∀ j, w.frozen? ⟨o1, j, none⟩ = false) ∧ (∀ j, w.frozen? ⟨o2, j, none⟩ = false)

theorem choose_list {α : Type} {p : Nat → α → Prop} : ∀ (n : Nat), (∀ i, i < n → ∃ x, p i x) → ∃ l : List α, l.length = n ∧ ∀ i (h : i < l.length), p i l[i]
  | 0, _ => ⟨[], rfl, fun i h => by simp at h⟩
  | n + 1, h => by
    obtain ⟨l, hl, hp⟩ := choose_list n fun i hi => h i (by omega)
    obtain ⟨x, hx⟩ := h n (by omega)
    refine ⟨l ++ [x], by simp [hl], fun i hi => ?_⟩
    by_cases e : i < l.length
    · rw [List.getElem_append_left e]; exact hp i e
    · have : i = n := by simp at hi; omega
      subst this
      rw [List.getElem_append_right (by omega)]
      simpa [hl] using hx

/-- The first row, as a list of slices. -/
theorem Ref.now {w : World} {V : Nat → Prop} {a0 a1 a2 : Option Addr} {c0 c1 c2 : Nat} {L : List Sec} (h : Ref w V a0 c0 a1 c1 a2 c2 L) :
    ∃ ps : List Pt, RdS w a0 c0 (ps.map Pt.val) ∧ ps.map Pt.bs = L.map Sec.b ∧ ∀ p ∈ ps, Rd8 w p.ao p.n p.cap p.bs ∧ In w V p.ao := by
  by_cases hL : L = []
  · subst hL
    exact ⟨[], ⟨by simp, h.s0.mx, h.s0.nil, fun hx => absurd rfl hx⟩, rfl, by simp⟩
  · obtain ⟨o0, o1, o2, rfl, e1, e2, hc, v0, v1, v2⟩ := h.pos hL
    obtain ⟨ps, hl, hp⟩ := choose_list (p := fun i (x : Pt) => w.cell? ⟨o0, i, none⟩ = some x.val ∧ (∀ hi : i < L.length, x.bs = L[i].b) ∧ Rd8 w x.ao x.n x.cap x.bs ∧ In w V x.ao) L.length fun i hi => by
      obtain ⟨ao, n, cap, r1, r2, r3⟩ := hc.cb i hi
      exact ⟨⟨ao, n, cap, L[i].b⟩, r1, fun _ => rfl, r2, r3⟩
    refine ⟨ps, ⟨by simp [hl]; exact h.s0.le, h.s0.mx, h.s0.nil, fun _ => ⟨o0, 0, rfl, hc.lt.1, fun t ht => ?_⟩⟩, ?_, fun p hpp => ?_⟩
    · simp only [List.length_map] at ht
      rw [Nat.zero_add, (hp t ht).1]; simp
    · apply List.ext_getElem (by simp [hl])
      intro i h1 h2
      simp only [List.length_map] at h1 h2
      simp only [List.getElem_map]
      exact (hp i h1).2.1 h2
    · obtain ⟨i, hi, rfl⟩ := List.getElem_of_mem hpp
      exact (hp i hi).2.2

/-- The second row, as a list of slices. -/
theorem Ref.sta {w : World} {V : Nat → Prop} {a0 a1 a2 : Option Addr} {c0 c1 c2 : Nat} {L : List Sec} (h : Ref w V a0 c0 a1 c1 a2 c2 L) :
    ∃ ps : List Pt, RdS w a1 c1 (ps.map Pt.val) ∧ ps.map Pt.bs = L.map Sec.s ∧ ∀ p ∈ ps, Rd8 w p.ao p.n p.cap p.bs ∧ In w V p.ao := by
  by_cases hL : L = []
  · subst hL
    exact ⟨[], ⟨by simp, h.s1.mx, h.s1.nil, fun hx => absurd rfl hx⟩, rfl, by simp⟩
  · obtain ⟨o0, o1, o2, e0, rfl, e2, hc, v0, v1, v2⟩ := h.pos hL
    obtain ⟨ps, hl, hp⟩ := choose_list (p := fun i (x : Pt) => w.cell? ⟨o1, i, none⟩ = some x.val ∧ (∀ hi : i < L.length, x.bs = L[i].s) ∧ Rd8 w x.ao x.n x.cap x.bs ∧ In w V x.ao) L.length fun i hi => by
      obtain ⟨ao, n, cap, r1, r2, r3⟩ := hc.cs i hi
      exact ⟨⟨ao, n, cap, L[i].s⟩, r1, fun _ => rfl, r2, r3⟩
    refine ⟨ps, ⟨by simp [hl]; exact h.s1.le, h.s1.mx, h.s1.nil, fun _ => ⟨o1, 0, rfl, hc.lt.2.1, fun t ht => ?_⟩⟩, ?_, fun p hpp => ?_⟩
    · simp only [List.length_map] at ht
      rw [Nat.zero_add, (hp t ht).1]; simp
    · apply List.ext_getElem (by simp [hl])
      intro i h1 h2
      simp only [List.length_map] at h1 h2
      simp only [List.getElem_map]
      exact (hp i h1).2.1 h2
    · obtain ⟨i, hi, rfl⟩ := List.getElem_of_mem hpp
      exact (hp i hi).2.2

/-- The third row. -/
theorem Ref.loo {w : World} {V : Nat → Prop} {a0 a1 a2 : Option Addr} {c0 c1 c2 : Nat} {L : List Sec} (h : Ref w V a0 c0 a1 c1 a2 c2 L) : RdS w a2 c2 (L.map fun x => .bool x.l) := by
  refine ⟨by simpa using h.s2.le, h.s2.mx, h.s2.nil, fun hx => ?_⟩
  have hL : L ≠ [] := by intro e; subst e; simp at hx
  obtain ⟨o0, o1, o2, e0, e1, rfl, hc, v0, v1, v2⟩ := h.pos hL
  refine ⟨o2, 0, rfl, hc.lt.2.2, fun t ht => ?_⟩
  simp only [List.length_map] at ht
  rw [Nat.zero_add, hc.cl t ht]; simp

end Go.Proofs.Ytnapkcejpllmcaa
