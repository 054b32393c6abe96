/- Package agent: an agent in memory, and what a step leaves of it. No walk. -/
import Derived.Test.YtmmgdmfdiaoegaaGreatCd
import Derived.Test.YtmmgdmfdiaoegaaGreatM5
namespace Go.Proofs.YtmmgdmfdiaoegaaGreat
open Go.RowKit
set_option linter.unusedVariables false
set_option maxRecDepth 8000

/-- What was done in a page: the masks of what was read and written, the words of what was written. -/
structure De where
  r : Nat
  w : Nat
  v : Nat → Nat × Nat
def deC (x : De) : List Value := [.int .i64 (x.r : Int), .int .i64 (x.w : Int), .complex .f64 (x.v 0).1 (x.v 0).2, .complex .f64 (x.v 1).1 (x.v 1).2, .complex .f64 (x.v 2).1 (x.v 2).2, .complex .f64 (x.v 3).1 (x.v 3).2]
def deZ : De := ⟨0, 0, fun _ => (0, 0)⟩

/-- What is asked. -/
structure Og where
  k : Int
  p : Int
  o : Int
  v : Nat × Nat
abbrev opV (x : Og) : Value := .agg #[.int .i64 x.k, .int .i64 x.p, .int .i64 x.o, .complex .f64 x.v.1 x.v.2]
abbrev opO (x : Og) : Obj := .cells #[.int .i64 x.k, .int .i64 x.p, .int .i64 x.o, .complex .f64 x.v.1 x.v.2] 41

/-- A message without puts. -/
abbrev Mg := Msg.Mg
abbrev mgV (M : Mg) : Value := .agg #[.int .i64 M.k, .int .i64 M.p, .int .i64 M.o, .int .i64 M.t, .int .i64 M.c, .int .i64 M.n, .bool M.wr, .slice none 0 0, .complex .f64 M.v0.1 M.v0.2, .complex .f64 M.v1.1 M.v1.2, .complex .f64 M.v2.1 M.v2.2, .complex .f64 M.v3.1 M.v3.2]
abbrev mgO (M : Mg) : Obj := .cells #[.int .i64 M.k, .int .i64 M.p, .int .i64 M.o, .int .i64 M.t, .int .i64 M.c, .int .i64 M.n, .bool M.wr, .slice none 0 0, .complex .f64 M.v0.1 M.v0.2, .complex .f64 M.v1.1 M.v1.2, .complex .f64 M.v2.1 M.v2.2, .complex .f64 M.v3.1 M.v3.2] 73
def mgC (M : Mg) : List Value := [.int .i64 M.k, .int .i64 M.p, .int .i64 M.o, .int .i64 M.t, .int .i64 M.c, .int .i64 M.n, .bool M.wr, .slice none 0 0, .complex .f64 M.v0.1 M.v0.2, .complex .f64 M.v1.1 M.v1.2, .complex .f64 M.v2.1 M.v2.2, .complex .f64 M.v3.1 M.v3.2]
theorem mgE : Enc mgC 12 := ⟨fun _ => rfl, fun x u hu => by simp only [mgC, List.mem_cons, List.not_mem_nil, or_false] at hu; rcases hu with rfl | rfl | rfl | rfl | rfl | rfl | rfl | rfl | rfl | rfl | rfl | rfl <;> rfl, by decide⟩
abbrev zM : Value := .agg #[.int .i64 0, .int .i64 0, .int .i64 0, .int .i64 0, .int .i64 0, .int .i64 0, .bool false, .slice none 0 0, .complex .f64 0 0, .complex .f64 0 0, .complex .f64 0 0, .complex .f64 0 0]
theorem info50 : (Tryz.prog.info? 73).map (fun i => (i.zero, i.size, i.bytes)) = some (some zM, 12, 144) := by kernel_rfl
/-- An answer. -/
abbrev anV (e : Int) (v : Nat × Nat) (b : Bool) : Value := .agg #[.int .i64 e, .complex .f64 v.1 v.2, .bool b]
abbrev anO (e : Int) (v : Nat × Nat) (b : Bool) : Obj := .cells #[.int .i64 e, .complex .f64 v.1 v.2, .bool b] 37

/-- An agent: its cache's room and entries, its number, whether it is open, what it did, what it asked, the calls that are put off. -/
structure As where
  rm : Int
  L : List En
  t : Int
  op : Bool
  d : Nat → De
  q : Option Og
  K : List Mg

def updD (d : Nat → De) (p : Nat) (x : De) : Nat → De := fun j => if j = p then x else d j

def agL (c : Nat) (pq ko : Option Addr) (kc : Nat) (s : As) : List Value :=
  [cp c, .int .i64 s.t, .bool s.op] ++ (deC (s.d 0) ++ (deC (s.d 1) ++ (deC (s.d 2) ++ (deC (s.d 3) ++ (deC (s.d 4) ++ (deC (s.d 5) ++ [.pointer pq, .slice ko s.K.length kc]))))))

/-- Where the cache lies. -/
def acS (A : Nat → Prop) (a : Nat) (pq ko : Option Addr) : Nat → Prop := fun k => A k ∧ k ≠ a ∧ (∀ p, pq = some p → k ≠ p.block) ∧ (∀ p, ko = some p → k ≠ p.block)

def AskAt (w : World) (pq : Option Addr) (q : Option Og) : Prop := (q = none ∧ pq = none) ∨ ∃ g o, q = some o ∧ pq = some ⟨g, 0, none⟩ ∧ w.heap[g]? = some (opO o)

structure Ag (w : World) (A : Nat → Prop) (a c : Nat) (pq ko : Option Addr) (kc : Nat) (s : As) : Prop where
  blk : w.heap[a]? = some (.cells (agL c pq ko kc s).toArray 56 (0, 0))
  ca : Cw w (acS A a pq ko) c s.rm s.L
  q : AskAt w pq s.q
  k : OwR mgC 12 73 w ko kc s.K
  aa : A a
  aq : ∀ p, pq = some p → A p.block
  ak : ∀ p, ko = some p → A p.block
  lt : ∀ k, A k → k < w.heap.size
  es : EsOk s.L
  dm : ∀ p, (s.d p).r < 16 ∧ (s.d p).w < 16
  rl : s.rm ≤ 6
  ll : s.L.length ≤ 6

section
variable {w w' : World} {A : Nat → Prop} {a c : Nat} {pq ko : Option Addr} {kc : Nat} {s : As}
theorem Ag.sz (h : Ag w A a c pq ko kc s) : a < w.heap.size := h.lt a h.aa
theorem Ag.cell (h : Ag w A a c pq ko kc s) (j : Nat) (u : Value) (hj : (agL c pq ko kc s)[j]? = some u) : w.cell? ⟨a, j, none⟩ = some u := by
  rw [cell_of_row _ _ _ _ _ _ h.blk]; simpa using hj
theorem Ag.fz (h : Ag w A a c pq ko kc s) (j : Nat) : w.frozen? ⟨a, j, none⟩ = false := frozen_of_row _ _ _ _ _ h.blk
theorem Ag.c0 (h : Ag w A a c pq ko kc s) : w.cell? ⟨a, 0, none⟩ = some (cp c) := h.cell 0 _ rfl
theorem Ag.c1 (h : Ag w A a c pq ko kc s) : w.cell? ⟨a, 1, none⟩ = some (.int .i64 s.t) := h.cell 1 _ rfl
theorem Ag.c2 (h : Ag w A a c pq ko kc s) : w.cell? ⟨a, 2, none⟩ = some (.bool s.op) := h.cell 2 _ rfl
theorem Ag.cq (h : Ag w A a c pq ko kc s) : w.cell? ⟨a, 39, none⟩ = some (.pointer pq) := h.cell 39 _ rfl
theorem Ag.ck (h : Ag w A a c pq ko kc s) : w.cell? ⟨a, 40, none⟩ = some (.slice ko s.K.length kc) := h.cell 40 _ rfl
theorem six {p : Nat} (h : p < 6) : p = 0 ∨ p = 1 ∨ p = 2 ∨ p = 3 ∨ p = 4 ∨ p = 5 := by omega
theorem four {p : Nat} (h : p < 4) : p = 0 ∨ p = 1 ∨ p = 2 ∨ p = 3 := by omega
theorem Ag.cr (h : Ag w A a c pq ko kc s) (p : Nat) (hp : p < 6) : w.cell? ⟨a, 3 + p * 6, none⟩ = some (.int .i64 ((s.d p).r : Int)) := by
  refine h.cell _ _ ?_
  rcases six hp with rfl | rfl | rfl | rfl | rfl | rfl <;> rfl
theorem Ag.cw (h : Ag w A a c pq ko kc s) (p : Nat) (hp : p < 6) : w.cell? ⟨a, 3 + p * 6 + 1, none⟩ = some (.int .i64 ((s.d p).w : Int)) := by
  refine h.cell _ _ ?_
  rcases six hp with rfl | rfl | rfl | rfl | rfl | rfl <;> rfl
theorem Ag.cv (h : Ag w A a c pq ko kc s) (p : Nat) (hp : p < 6) (o : Nat) (ho : o < 4) : w.cell? ⟨a, 3 + p * 6 + 2 + o, none⟩ = some (.complex .f64 ((s.d p).v o).1 ((s.d p).v o).2) := by
  refine h.cell _ _ ?_
  rcases six hp with rfl | rfl | rfl | rfl | rfl | rfl <;> rcases four ho with rfl | rfl | rfl | rfl <;> rfl

theorem AskAt.keep (h : AskAt w pq s.q) (hk : ∀ p, pq = some p → w'.heap[p.block]? = w.heap[p.block]?) : AskAt w' pq s.q := by
  rcases h with h | ⟨g, o, h1, h2, h3⟩
  · exact .inl h
  · exact .inr ⟨g, o, h1, h2, (hk _ h2).trans h3⟩
theorem Ag.keep (h : Ag w A a c pq ko kc s) (hs : w.heap.size ≤ w'.heap.size) (hk : ∀ k, A k → w'.heap[k]? = w.heap[k]?) : Ag w' A a c pq ko kc s := by
  refine ⟨(hk a h.aa).trans h.blk, ?_, h.q.keep fun p hp => hk _ (h.aq p hp), h.k.keep fun p hp _ => hk _ (h.ak p hp), h.aa, h.aq, h.ak, fun k hA => Nat.lt_of_lt_of_le (h.lt k hA) hs, h.es, h.dm, h.rl, h.ll⟩
  obtain ⟨ao, cap, h1⟩ := h.ca
  exact ⟨ao, cap, h1.keep fun k ha _ => hk k ha.1⟩
theorem Ag.below (h : Ag w A a c pq ko kc s) (hb : Below w.heap.size w w') : Ag w' A a c pq ko kc s := h.keep hb.size fun k hk => hb.block k (h.lt k hk)
theorem Ag.ne_q (h : Ag w A a c pq ko kc s) : ∀ p, pq = some p → p.block ≠ a := by
  intro p hp e
  rcases h.q with ⟨_, h2⟩ | ⟨g, o, _, h2, h3⟩
  · rw [hp] at h2; cases h2
  · rw [hp] at h2
    cases h2
    have e' : g = a := e
    rw [e', h.blk] at h3
    simp [opO] at h3
theorem Ag.ne_k (h : Ag w A a c pq ko kc s) : ∀ p, ko = some p → p.block ≠ a := by
  intro p hp e
  obtain ⟨_, cur, h1⟩ := h.k.lt p hp
  rw [e, h.blk] at h1
  simp at h1
theorem Ag.ne_qk (h : Ag w A a c pq ko kc s) : ∀ p r, pq = some p → ko = some r → p.block ≠ r.block := by
  intro p r hp hr e
  obtain ⟨_, cur, h1⟩ := h.k.lt r hr
  rcases h.q with ⟨_, h2⟩ | ⟨g, o, _, h2, h3⟩
  · rw [hp] at h2; cases h2
  · rw [hp] at h2
    cases h2
    rw [← e, h3] at h1
    simp [opO] at h1

/-- A cell of the agent's own block is written. -/
theorem Ag.write (h : Ag w A a c pq ko kc s) (j : Nat) (u : Value) (s2 : As) (e : (agL c pq ko kc s).set j u = agL c pq ko kc s2) (h1 : s2.rm = s.rm) (h2 : s2.L = s.L) (h3 : s2.q = s.q) (h4 : s2.K = s.K) (hd : ∀ p, (s2.d p).r < 16 ∧ (s2.d p).w < 16) :
    Ag (w.setCell ⟨a, j, none⟩ u) A a c pq ko kc s2 := by
  have hb : ∀ k, k ≠ a → (w.setCell ⟨a, j, none⟩ u).heap[k]? = w.heap[k]? := fun k hk => Below.heap_setCell _ _ _ _ hk
  refine ⟨?_, ?_, ?_, ?_, h.aa, h.aq, h.ak, fun k hA => by simpa using h.lt k hA, by rw [h2]; exact h.es, hd, by rw [h1]; exact h.rl, by rw [h2]; exact h.ll⟩
  · rw [heap_setCell_same w a _ _ 56 u h.blk, List.setIfInBounds_toArray, e]
  · rw [h1, h2]
    obtain ⟨ao, cap, h5⟩ := h.ca
    exact ⟨ao, cap, h5.keep fun k ha _ => hb k ha.2.1⟩
  · rw [h3]
    exact h.q.keep fun p hp => hb _ (h.ne_q p hp)
  · rw [h4]
    exact h.k.keep fun p hp _ => hb _ (h.ne_k p hp)

theorem Ag.asks (h : Ag w A a c pq ko kc s) (g : Nat) (hg : ¬ A g) (o : Og) (ho : w.heap[g]? = some (opO o)) : Ag (w.setCell ⟨a, 39, none⟩ (.pointer (some ⟨g, 0, none⟩))) (fun k => A k ∨ k = g) a c (some ⟨g, 0, none⟩) ko kc { s with q := some o } := by
  have hb : ∀ k, k ≠ a → (w.setCell ⟨a, 39, none⟩ (.pointer (some ⟨g, 0, none⟩))).heap[k]? = w.heap[k]? := fun k hk => Below.heap_setCell _ _ _ _ hk
  have hga : g ≠ a := fun e => hg (e ▸ h.aa)
  refine ⟨?_, ?_, .inr ⟨g, o, rfl, rfl, (hb g hga).trans ho⟩, h.k.keep fun p hp _ => hb _ (h.ne_k p hp), .inl h.aa, fun p hp => by cases hp; exact .inr rfl, fun p hp => .inl (h.ak p hp), fun k hA => ?_, h.es, h.dm, h.rl, h.ll⟩
  · rw [heap_setCell_same w a _ _ 56 _ h.blk, List.setIfInBounds_toArray]
    rfl
  · obtain ⟨ao, cap, h5⟩ := h.ca
    refine ⟨ao, cap, (h5.keep (w' := w.setCell ⟨a, 39, none⟩ (.pointer (some ⟨g, 0, none⟩))) fun k ha _ => hb k ha.2.1).mono fun k _ ha => ⟨.inl ha.1, ha.2.1, fun p hp => ?_, ha.2.2.2⟩⟩
    cases hp
    intro e
    have e' : k = g := e
    exact hg (e' ▸ ha.1)
  · rcases hA with hA | rfl
    · simpa using h.lt k hA
    · simpa using (Array.getElem?_eq_some_iff.1 ho).1

theorem Ag.unask (h : Ag w A a c pq ko kc s) : Ag (w.setCell ⟨a, 39, none⟩ (.pointer none)) A a c none ko kc { s with q := none } := by
  have hb : ∀ k, k ≠ a → (w.setCell ⟨a, 39, none⟩ (.pointer none)).heap[k]? = w.heap[k]? := fun k hk => Below.heap_setCell _ _ _ _ hk
  refine ⟨?_, ?_, .inl ⟨rfl, rfl⟩, h.k.keep fun p hp _ => hb _ (h.ne_k p hp), h.aa, fun p hp => (by cases hp), h.ak, fun k hA => by simpa using h.lt k hA, h.es, h.dm, h.rl, h.ll⟩
  · rw [heap_setCell_same w a _ _ 56 _ h.blk, List.setIfInBounds_toArray]
    rfl
  · obtain ⟨ao, cap, h5⟩ := h.ca
    exact ⟨ao, cap, (h5.keep (w' := w.setCell ⟨a, 39, none⟩ (.pointer none)) fun k ha _ => hb k ha.2.1).mono fun k _ ha => ⟨ha.1, ha.2.1, fun p hp => (by cases hp), ha.2.2.2⟩⟩

/-- The calls are others: a row that is the elder one's, or new. -/
theorem Ag.recall (h : Ag w A a c pq ko kc s) (A2 : Nat → Prop) (w1 : World) (hs : w.heap.size ≤ w1.heap.size) (hk : ∀ k, A k → (∀ p, ko = some p → k ≠ p.block) → w1.heap[k]? = w.heap[k]?) (k2 : Option Addr) (c2 : Nat) (K2 : List Mg) (ho : OwR mgC 12 73 w1 k2 c2 K2) (h2 : ∀ k, A k → A2 k) (hA : ∀ k, A2 k → k < w1.heap.size) (h3 : ∀ p, k2 = some p → A2 p.block ∧ (k2 = ko ∨ ¬ A p.block)) :
    Ag (w1.setCell ⟨a, 40, none⟩ (.slice k2 K2.length c2)) A2 a c pq k2 c2 { s with K := K2 } := by
  have hb : ∀ k, k ≠ a → (w1.setCell ⟨a, 40, none⟩ (.slice k2 K2.length c2)).heap[k]? = w1.heap[k]? := fun k hk => Below.heap_setCell _ _ _ _ hk
  have hblk := (hk a h.aa fun p hp => (h.ne_k p hp).symm).trans h.blk
  have hne : ∀ p, k2 = some p → p.block ≠ a := by
    intro p hp e
    obtain ⟨_, cur, h1⟩ := ho.lt p hp
    rw [e, hblk] at h1
    simp at h1
  refine ⟨?_, ?_, h.q.keep fun p hp => (hb _ (h.ne_q p hp)).trans (hk _ (h.aq p hp) fun r hr => h.ne_qk p r hp hr), ho.keep fun p hp _ => hb _ (hne p hp), h2 _ h.aa, fun p hp => h2 _ (h.aq p hp), fun p hp => (h3 p hp).1, fun k hA' => by simpa using hA k hA', h.es, h.dm, h.rl, h.ll⟩
  · rw [heap_setCell_same w1 a _ _ 56 _ hblk, List.setIfInBounds_toArray]
    rfl
  · obtain ⟨ao, cap, h5⟩ := h.ca
    have h6 : Ca w1 (acS A a pq ko) c s.rm ao cap s.L := h5.keep fun k ha _ => hk k ha.1 ha.2.2.2
    refine ⟨ao, cap, (h6.keep (w' := w1.setCell ⟨a, 40, none⟩ (.slice k2 K2.length c2)) fun k ha _ => hb k ha.2.1).mono fun k _ ha => ⟨h2 _ ha.1, ha.2.1, ha.2.2.1, fun p hp e => ?_⟩⟩
    rcases (h3 p hp).2 with e2 | e2
    · exact ha.2.2.2 p (e2 ▸ hp) e
    · exact e2 (e ▸ ha.1)

/-- A step of the cache. -/
theorem Ag.cache (h : Ag w A a c pq ko kc s) {L2 : List En} (hx : Nx w w' (acS A a pq ko) c s.rm L2) (he : EsOk L2) (hl : L2.length ≤ 6) :
    Ag w' (fun k => A k ∨ (w.heap.size ≤ k ∧ k < w'.heap.size)) a c pq ko kc { s with L := L2 } := by
  obtain ⟨h1, h2⟩ := hx
  have hb : ∀ k, A k → ¬ acS A a pq ko k → w'.heap[k]? = w.heap[k]? := fun k hA hn => h2.block k (h.lt k hA) hn
  refine ⟨(hb a h.aa fun e => e.2.1 rfl).trans h.blk, ?_, h.q.keep fun p hp => hb _ (h.aq p hp) fun e => e.2.2.1 p hp rfl, h.k.keep fun p hp _ => hb _ (h.ak p hp) fun e => e.2.2.2 p hp rfl, .inl h.aa, fun p hp => .inl (h.aq p hp), fun p hp => .inl (h.ak p hp), fun k hA => ?_, he, h.dm, h.rl, hl⟩
  · refine h1.mono fun k hk ha => ?_
    rcases ha with ha | ha
    · exact ⟨.inl ha.1, ha.2⟩
    · have l1 := h.sz
      refine ⟨.inr ⟨ha, hk⟩, by omega, fun p hp e => ?_, fun p hp e => ?_⟩
      · have := h.lt _ (h.aq p hp); omega
      · have := h.lt _ (h.ak p hp); omega
  · have := h2.size
    rcases hA with hA | hA
    · have := h.lt k hA; omega
    · exact hA.2
end

def Aw (w : World) (A : Nat → Prop) (a : Nat) (s : As) : Prop := ∃ c pq ko kc, Ag w A a c pq ko kc s

/-- Behind a step: the agent, whose blocks are the elder ones or new, and none of R; all else is as it was. -/
structure Ng (w w' : World) (A : Nat → Prop) (a : Nat) (s : As) (R : Nat → Prop) : Prop where
  ag : ∃ A', (∀ k, A' k → (A k ∨ w.heap.size ≤ k) ∧ ¬ R k) ∧ Aw w' A' a s
  off : OffS A w w'

def Ro (ao : Option Addr) : Nat → Prop := fun k => ∃ p, ao = some p ∧ p.block = k
def Rn : Nat → Prop := fun _ => False

section
variable {w w0 w1 w2 w' : World} {A A' : Nat → Prop} {a : Nat} {s s2 : As} {R R2 : Nat → Prop}
theorem Aw.lt (h : Aw w A a s) : ∀ k, A k → k < w.heap.size := by
  obtain ⟨c, pq, ko, kc, h⟩ := h
  exact h.lt
theorem Aw.below (h : Aw w A a s) (hb : Below w.heap.size w w') : Aw w' A a s := by
  obtain ⟨c, pq, ko, kc, h⟩ := h
  exact ⟨c, pq, ko, kc, h.below hb⟩
theorem Aw.keep (h : Aw w A a s) (hs : w.heap.size ≤ w'.heap.size) (hk : ∀ k, A k → w'.heap[k]? = w.heap[k]?) : Aw w' A a s := by
  obtain ⟨c, pq, ko, kc, h⟩ := h
  exact ⟨c, pq, ko, kc, h.keep hs hk⟩
theorem Ng.of_below (h : Aw w A a s) (hb : Below w.heap.size w w') (hR : ∀ k, A k → ¬ R k) : Ng w w' A a s R := ⟨⟨A, fun k hk => ⟨.inl hk, hR k hk⟩, h.below hb⟩, .of_below hb⟩
theorem Ng.of {c : Nat} {pq ko : Option Addr} {kc : Nat} (h : Ag w' A' a c pq ko kc s) (hA : ∀ k, A' k → (A k ∨ w.heap.size ≤ k) ∧ ¬ R k) (ho : OffS A w w') : Ng w w' A a s R := ⟨⟨A', hA, ⟨_, _, _, _, h⟩⟩, ho⟩
theorem Ng.older (hb : Below w.heap.size w w1) (h : Ng w1 w' A a s R) : Ng w w' A a s R := by
  obtain ⟨A', h1, h2⟩ := h.ag
  exact ⟨⟨A', fun k hk => ⟨(h1 k hk).1.imp id fun h' => Nat.le_trans hb.size h', (h1 k hk).2⟩, h2⟩, (OffS.of_below hb).trans (h.off.mono fun k hk => .inl hk)⟩
theorem Ng.later (h : Ng w w1 A a s R) (hb : Below w1.heap.size w1 w') : Ng w w' A a s R := by
  obtain ⟨A', h1, h2⟩ := h.ag
  exact ⟨⟨A', h1, h2.below hb⟩, h.off.trans (OffS.of_below hb)⟩
theorem Ng.less (h : Ng w w1 A a s R) (hR : ∀ k, R2 k → R k) : Ng w w1 A a s R2 := by
  obtain ⟨A', h1, h2⟩ := h.ag
  exact ⟨⟨A', fun k hk => ⟨(h1 k hk).1, fun h' => (h1 k hk).2 (hR k h')⟩, h2⟩, h.off⟩
/-- One step behind another. -/
theorem Ng.then (ho : OffS A w w1) (hA : ∀ k, A' k → A k ∨ w.heap.size ≤ k) (h : Ng w1 w2 A' a s2 R) : Ng w w2 A a s2 R := by
  obtain ⟨A2, h1, h2⟩ := h.ag
  refine ⟨⟨A2, fun k hk => ⟨?_, (h1 k hk).2⟩, h2⟩, ho.trans (h.off.mono hA)⟩
  rcases (h1 k hk).1 with h' | h'
  · exact hA k h'
  · exact .inr (Nat.le_trans ho.size h')
/-- Blocks of the caller's own are written behind it. -/
theorem Ng.put (hA : ∀ k, A k → k < w.heap.size) (hb : Below w.heap.size w w0) (h : Ng w0 w1 A a s R) (h2 : OffS (fun k => w.heap.size ≤ k ∧ k < w0.heap.size) w1 w2) : Ng w w2 A a s R := by
  obtain ⟨A', h1, h3⟩ := h.ag
  refine ⟨⟨A', fun k hk => ⟨(h1 k hk).1.imp id fun h' => Nat.le_trans hb.size h', (h1 k hk).2⟩, h3.keep h2.size fun k hk => h2.block k (h3.lt k hk) ?_⟩, ((OffS.of_below hb).trans (h.off.mono fun k hk => .inl hk)).trans (h2.mono fun k hk => .inr hk.1)⟩
  rintro ⟨e1, e2⟩
  rcases (h1 k hk).1 with h' | h'
  · have := hA k h'; omega
  · omega
/-- Others' blocks are as they were. -/
theorem Ng.loc (h : Ng w w1 A a s R) {g : Nat} {o : Obj} (hA : ¬ A g) (hg : w.heap[g]? = some o) : w1.heap[g]? = some o := (h.off.block g (Array.getElem?_eq_some_iff.1 hg).1 hA).trans hg
theorem Ng.size (h : Ng w w1 A a s R) : w.heap.size ≤ w1.heap.size := h.off.size
end

end Go.Proofs.YtmmgdmfdiaoegaaGreat
