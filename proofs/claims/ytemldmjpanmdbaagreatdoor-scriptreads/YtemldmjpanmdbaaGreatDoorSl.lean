/- Plain facts on slices in memory: what a slice reads as, what of it stays where nothing old has turned, what a part of it reads as, and what an append leaves. Nothing of the program is named here. -/
import Derived.WalkKit
import Derived.Laws.AppendOwnNone
import Derived.Deep.QuietTactic
namespace Go.Proofs.YtemldmjpanmdbaaGreatDoor
open Go.RowKit

/-- The slice with this address and this capacity has the elements xs, of one cell each. -/
structure RdS (w : World) (ao : Option Addr) (cap : Nat) (xs : List Value) : Prop where
  le : xs.length ≤ cap
  mx : cap ≤ maxLen
  nil : ao = none → cap = 0
  cell : xs ≠ [] → ∃ b off, ao = some ⟨b, off, none⟩ ∧ b < w.heap.size ∧ ∀ t (h : t < xs.length), w.cell? ⟨b, off + t, none⟩ = some xs[t]

/-- The slice is the call's own: it begins at the head of a block from 'base' on, whose cells are of type e. -/
def OwnS (w : World) (base : Nat) (e : TypeId) (ao : Option Addr) (cap : Nat) (xs : List Value) : Prop :=
  w.ownsRow base e 1 (.slice ao xs.length cap) xs.length xs

/-- One step behind another: nothing of what was there at the first has turned. -/
theorem below_step {w w1 w2 : World} (h : Below w.heap.size w w1) (k : Below w1.heap.size w1 w2) : Below w.heap.size w w2 := h.trans (k.mono h.size)

theorem below_alloc {w w' : World} {o : Obj} (h : Below w.heap.size (w.alloc o) w') : Below w.heap.size w w' := ((Below.refl _ _).alloc (Nat.le_refl _) o).trans h

theorem below_drew {w w' : World} {n : Nat} (h : Below w.heap.size (w.drewN n) w') : Below w.heap.size w w' := ⟨h.os, h.tape, h.output, h.size, h.block⟩

theorem RdS.empty (w : World) : RdS w none 0 [] := ⟨by simp, by simp, fun _ => rfl, fun h => absurd rfl h⟩

theorem RdS.below {w w' : World} {ao : Option Addr} {cap : Nat} {xs : List Value} (h : RdS w ao cap xs) (hb : Below w.heap.size w w') : RdS w' ao cap xs := by
  refine ⟨h.le, h.mx, h.nil, fun hx => ?_⟩
  obtain ⟨b, off, e, hlt, hc⟩ := h.cell hx
  exact ⟨b, off, e, Nat.lt_of_lt_of_le hlt hb.size, fun t ht => (hb.cell (p := ⟨b, off + t, none⟩) hlt).trans (hc t ht)⟩

theorem RdS.drew {w : World} {ao : Option Addr} {cap : Nat} {xs : List Value} (h : RdS w ao cap xs) : RdS w.drew ao cap xs := ⟨h.le, h.mx, h.nil, h.cell⟩

theorem RdS.alloc {w : World} {ao : Option Addr} {cap : Nat} {xs : List Value} (h : RdS w ao cap xs) (o : Obj) : RdS (w.alloc o) ao cap xs :=
  h.below ((Below.refl _ _).alloc (Nat.le_refl _) o)

theorem RdS.at {w : World} {ao : Option Addr} {cap : Nat} {xs : List Value} (h : RdS w ao cap xs) {t : Nat} (ht : t < xs.length) :
    ∃ b off, ao = some ⟨b, off, none⟩ ∧ b < w.heap.size ∧ ∀ t (h : t < xs.length), w.cell? ⟨b, off + t, none⟩ = some xs[t] :=
  h.cell (by intro e; subst e; simp at ht)

theorem OwnS.rd {w : World} {base : Nat} {e : TypeId} {ao : Option Addr} {cap : Nat} {xs : List Value} (h : OwnS w base e ao cap xs) : RdS w ao cap xs := by
  obtain ⟨h1, h2⟩ := h
  rcases h2 with ⟨hv, hn⟩ | ⟨g, cp, cur, hv, hg, hh, hle, hmx, hsz, htk⟩
  · simp only [Value.slice.injEq] at hv
    obtain ⟨rfl, hl, rfl⟩ := hv
    have : xs = [] := List.eq_nil_of_length_eq_zero hl
    subst this
    exact RdS.empty w
  · simp only [Value.slice.injEq] at hv
    obtain ⟨rfl, _, rfl⟩ := hv
    refine ⟨hle, hmx, fun h => (by cases h), fun _ => ⟨g, 0, rfl, ?_, fun t ht => ?_⟩⟩
    · exact (Array.getElem?_eq_some_iff.1 hh).1
    · have h3 : cur.toList[t]? = some xs[t] := by
        rw [← List.getElem?_eq_getElem ht, ← htk, List.getElem?_take_of_lt (by omega)]
      simp only [World.cell?, hh]
      simpa using h3

theorem OwnS.below {w w' : World} {base : Nat} {e : TypeId} {ao : Option Addr} {cap : Nat} {xs : List Value} (h : OwnS w base e ao cap xs) (hb : Below w.heap.size w w') : OwnS w' base e ao cap xs := by
  obtain ⟨h1, h2⟩ := h
  refine ⟨h1, ?_⟩
  rcases h2 with h2 | ⟨g, cp, cur, hv, hg, hh, r⟩
  · exact .inl h2
  · exact .inr ⟨g, cp, cur, hv, hg, by rw [hb.block g (Array.getElem?_eq_some_iff.1 hh).1]; exact hh, r⟩

theorem OwnS.mono {w : World} {base base' : Nat} {e : TypeId} {ao : Option Addr} {cap : Nat} {xs : List Value} (h : OwnS w base e ao cap xs) (hb : base' ≤ base) : OwnS w base' e ao cap xs := by
  obtain ⟨h1, h2⟩ := h
  refine ⟨h1, ?_⟩
  rcases h2 with h2 | ⟨g, cp, cur, hv, hg, r⟩
  · exact .inl h2
  · exact .inr ⟨g, cp, cur, hv, by omega, r⟩

theorem OwnS.nil (w : World) (base : Nat) (e : TypeId) : OwnS w base e none 0 [] := World.ownsRow_nil w base e 1

theorem OwnS.alloc {w : World} {base : Nat} {e : TypeId} {ao : Option Addr} {cap : Nat} {xs : List Value} (h : OwnS w base e ao cap xs) (o : Obj) : OwnS (w.alloc o) base e ao cap xs :=
  h.below ((Below.refl _ _).alloc (Nat.le_refl _) o)

/-- A slice that was just built of some values. -/
theorem RdS.built (w : World) (e : TypeId) (xs : List Value) (hm : xs.length ≤ maxLen) : RdS (w.alloc (.cells xs.toArray e)) (some ⟨w.heap.size, 0, none⟩) xs.length xs := by
  refine ⟨Nat.le_refl _, hm, fun h => (by cases h), fun _ => ⟨w.heap.size, 0, rfl, by simp, fun t ht => ?_⟩⟩
  have hh : (w.alloc (.cells xs.toArray e)).heap[w.heap.size]? = some (.cells xs.toArray e) := heap_alloc_new w _
  simp only [World.cell?, hh]
  simp [ht]

theorem RdS.one (w : World) (e : TypeId) (x : Value) : RdS (w.alloc (.cells #[x] e)) (some ⟨w.heap.size, 0, none⟩) 1 [x] := RdS.built w e [x] (by simp [maxLen])

/-- A slice that was just built, as the call's own. -/
theorem OwnS.built (w : World) (base : Nat) (e : TypeId) (xs : List Value) (hm : xs.length ≤ maxLen) (hb : base ≤ w.heap.size) : OwnS (w.alloc (.cells xs.toArray e)) base e (some ⟨w.heap.size, 0, none⟩) xs.length xs :=
  ⟨by simp, .inr ⟨w.heap.size, xs.length, xs.toArray, rfl, hb, heap_alloc_new w _, Nat.le_refl _, hm, by simp, by simp⟩⟩

/-- A part of a slice. -/
theorem RdS.cut {w : World} {ao : Option Addr} {cap : Nat} {xs : List Value} (h : RdS w ao cap xs) (i j : Nat) (hij : i ≤ j) (hj : j ≤ xs.length) :
    RdS w (if cap = i then ao else ao.map (fun x => x.add i)) (cap - i) ((xs.drop i).take (j - i)) := by
  have hl : ((xs.drop i).take (j - i)).length = j - i := by simp; omega
  have hle := h.le
  have hmx := h.mx
  refine ⟨by omega, by omega, fun hn => ?_, fun hx => ?_⟩
  · split at hn
    · have := h.nil hn; omega
    · have := h.nil (by simpa using hn); omega
  · have hij' : i < j := by
      rcases Nat.lt_or_ge i j with h | h
      · exact h
      · exact absurd (List.eq_nil_of_length_eq_zero (by omega)) hx
    obtain ⟨b, off, e, hlt, hc⟩ := h.at (t := i) (by omega)
    refine ⟨b, off + i, ?_, hlt, fun t ht => ?_⟩
    · rw [if_neg (by omega), e]
      simp [Addr.add_lit]
    · rw [hl] at ht
      rw [Nat.add_assoc, hc (i + t) (by omega)]
      simp

theorem OwnS.grown {w w' : World} {base : Nat} {e : TypeId} {ao : Option Addr} {cap : Nat} {xs : List Value} {B : Nat} (h : OwnS w base e ao cap xs) (hB : B ≤ base) (hs : B ≤ w.heap.size)
    (hg : w.grownBy w' (Value.ownBlock (.slice ao xs.length cap))) : Below B w w' :=
  (Below.refl B w).grown hg hs fun k hk => by
    obtain ⟨_, h2⟩ := h
    rcases h2 with ⟨hv, _⟩ | ⟨g, cp, cur, hv, hg, _⟩
    · rw [hv] at hk; simp [Value.ownBlock] at hk
    · rw [hv] at hk; simp [Value.ownBlock] at hk; omega

/-- What an append of a slice to a slice of the call's own leaves. -/
theorem run_append_rd {P : Program} {w : World} (base : Nat) (t ty e : TypeId) (z : Value) (bytes : Nat) (ht : P.underlying t = some (.slice e))
    (hinfo : (P.info? e).map (fun i => (i.zero, i.size, i.bytes)) = some (some z, 1, bytes)) (hzs : z.cells.size = 1)
    {ao : Option Addr} {cap : Nat} {xs : List Value} (hown : OwnS w base e ao cap xs) {ao' : Option Addr} {cap' : Nat} {ys : List Value} (hrd : RdS w ao' cap' ys)
    (h1 : ∀ u ∈ ys, u.oneCell' = true) (hbytes : (xs.length + ys.length) * bytes ≤ 140737488355328) (h63 : xs.length + ys.length ≤ maxLen) (hbase : base ≤ w.heap.size) :
    ∃ ao2 cap2 w', (Builtin.append_ #[t, t] ty #[.slice ao xs.length cap, .slice ao' ys.length cap']).run P w = .ok (.slice ao2 (xs.length + ys.length) cap2) w' ∧
      OwnS w' base e ao2 cap2 (xs ++ ys) ∧ Below base w w' := by
  obtain ⟨i0, hi, hz0, hz1, hz2⟩ := info_parts hinfo
  have fin : ∀ v' w', w'.ownsRow base e 1 v' (xs.length + ys.length) (xs ++ ys) → ∃ ao2 cap2, v' = .slice ao2 (xs.length + ys.length) cap2 ∧ OwnS w' base e ao2 cap2 (xs ++ ys) := by
    intro v' w' h
    obtain ⟨h1, h2⟩ := h
    have hlen : (xs ++ ys).length = xs.length + ys.length := by simp
    rcases h2 with ⟨hv, hn⟩ | ⟨g, cp, cur, hv, r⟩
    · exact ⟨none, 0, by rw [hv, hn], by unfold OwnS World.ownsRow; rw [hlen]; exact ⟨by simp, .inl ⟨by rw [hn], hn⟩⟩⟩
    · exact ⟨some ⟨g, 0, none⟩, cp, hv, by unfold OwnS World.ownsRow; rw [hlen]; exact ⟨by simp, .inr ⟨g, cp, cur, rfl, r⟩⟩⟩
  by_cases hy : ys = []
  · subst hy
    cases ao' with
    | none =>
      have hc := hrd.nil rfl
      subst hc
      have hrun := run_append_owned_none (P := P) (w := w) base t ty e i0 1 ht hi _ xs.length xs hown
      refine ⟨ao, cap, w, by simpa using hrun, by simpa using hown, Below.refl _ _⟩
    | some ad =>
      obtain ⟨v', w', hr, h2, h3, _⟩ := run_append_own (P := P) w base t ty e i0 z 1 bytes ht hi hz0 hz1 hz2 hzs (by decide) _ _ _ hown ad 0 cap' [] (by simp) (by intro j u h; simp at h) (by simp) h63 hbytes hbase
      obtain ⟨ao2, cap2, rfl, ho⟩ := fin v' w' h2
      exact ⟨ao2, cap2, w', hr, ho, hown.grown (Nat.le_refl _) hbase h3⟩
  · obtain ⟨b, off, rfl, _, hc⟩ := hrd.cell hy
    obtain ⟨v', w', hr, h2, h3, _⟩ := run_append_own (P := P) w base t ty e i0 z 1 bytes ht hi hz0 hz1 hz2 hzs (by decide) _ _ _ hown ⟨b, off, none⟩ ys.length cap' ys (by simp) (by
      intro j u h
      obtain ⟨hj, rfl⟩ := List.getElem?_eq_some_iff.1 h
      rw [Addr.add_lit]
      exact hc j hj) h1 h63 hbytes hbase
    obtain ⟨ao2, cap2, rfl, ho⟩ := fin v' w' h2
    exact ⟨ao2, cap2, w', hr, ho, hown.grown (Nat.le_refl _) hbase h3⟩

theorem wpList_append_rd {P : Program} (w : World) {ops : Array Oper} {rest : List Oper} {o : Oper} {a : Act} {Q : Exit → Act → World → Prop} (hgd : o.guard = none) (s x : Operand) (t : TypeId)
    (ho : o.op = .call { callee := .builtin .append, args := #[s, x], argTypes := #[t, t] })
    (base : Nat) (e : TypeId) (z : Value) (bytes : Nat) (ht : P.underlying t = some (.slice e))
    (hinfo : (P.info? e).map (fun i => (i.zero, i.size, i.bytes)) = some (some z, 1, bytes)) (hzs : z.cells.size = 1)
    {ao : Option Addr} {cap n : Nat} {xs : List Value} {ao' : Option Addr} {cap' m : Nat} {ys : List Value}
    (hs : a.eval s = .slice ao n cap) (hx : a.eval x = .slice ao' m cap') (hown : OwnS w base e ao cap xs) (hrd : RdS w ao' cap' ys) (hn : xs.length = n) (hm : ys.length = m)
    (h1 : ∀ u ∈ ys, u.oneCell' = true) (hbytes : (n + m) * bytes ≤ 140737488355328) (h63 : n + m ≤ maxLen) (hbase : base ≤ w.heap.size)
    (h : ∀ ao2 cap2 w', OwnS w' base e ao2 cap2 (xs ++ ys) → Below base w w' → wpList P ops Q rest (a.put o.dst (.slice ao2 (n + m) cap2)) w') : wpList P ops Q (o :: rest) a w := by
  subst hn hm
  refine wpList_plain hgd fun _ hK => ?_
  obtain ⟨ao2, cap2, w', hr, h2, h3⟩ := run_append_rd (P := P) base t o.type e z bytes ht hinfo hzs hown hrd h1 hbytes h63 hbase
  unfold Oper.wp execOp
  simp only [ho, resolve, invoke, builtin, Sem.run_bind, Sem.run_pure, Result.andThen_ok, List.map_toArray, List.map_cons, List.map_nil, hs, hx, hr]
  exact hK _ _ (h ao2 cap2 w' h2 h3)

/-! ### Slices of integers -/

/-- The slice reads as these integers. -/
def RdI (w : World) (k : IntKind) (ao : Option Addr) (cap : Nat) (zs : List Int) : Prop := RdS w ao cap (zs.map (Value.int k))

/-- The slice is the call's own and holds these integers. -/
def OwnI (w : World) (base : Nat) (e : TypeId) (k : IntKind) (ao : Option Addr) (cap : Nat) (zs : List Int) : Prop := OwnS w base e ao cap (zs.map (Value.int k))

theorem ints_one (k : IntKind) (zs : List Int) : ∀ u ∈ zs.map (Value.int k), u.oneCell' = true := ints_oneCell k zs

section
variable {w w' : World} {k : IntKind} {ao : Option Addr} {cap base : Nat} {e : TypeId} {zs : List Int}

theorem RdI.below (h : RdI w k ao cap zs) (hb : Below w.heap.size w w') : RdI w' k ao cap zs := RdS.below h hb
theorem RdI.drew (h : RdI w k ao cap zs) : RdI w.drew k ao cap zs := RdS.drew h
theorem RdI.alloc (h : RdI w k ao cap zs) (o : Obj) : RdI (w.alloc o) k ao cap zs := RdS.alloc h o
theorem RdI.heap (h : RdI w k ao cap zs) (e : w'.heap = w.heap) : RdI w' k ao cap zs := by
  refine ⟨RdS.le h, RdS.mx h, RdS.nil h, fun hx => ?_⟩
  obtain ⟨b, off, h1, h2, h3⟩ := RdS.cell h hx
  exact ⟨b, off, h1, by rw [e]; exact h2, fun t ht => (World.cell?_of_block (by rw [e])).trans (h3 t ht)⟩
theorem RdI.le (h : RdI w k ao cap zs) : zs.length ≤ cap := by simpa using RdS.le h
theorem RdI.mx (h : RdI w k ao cap zs) : cap ≤ maxLen := RdS.mx h
theorem RdI.empty (w : World) (k : IntKind) : RdI w k none 0 [] := RdS.empty w

theorem RdI.at (h : RdI w k ao cap zs) {t : Nat} (ht : t < zs.length) :
    ∃ b off, ao = some ⟨b, off, none⟩ ∧ b < w.heap.size ∧ ∀ t (h : t < zs.length), w.cell? ⟨b, off + t, none⟩ = some (.int k zs[t]) := by
  obtain ⟨b, off, h1, h2, h3⟩ := RdS.at h (t := t) (by simpa using ht)
  exact ⟨b, off, h1, h2, fun t ht => by rw [h3 t (by simpa using ht)]; simp⟩

theorem RdI.cut (h : RdI w k ao cap zs) (i j : Nat) (hij : i ≤ j) (hj : j ≤ zs.length) :
    RdI w k (if cap = i then ao else ao.map (fun x => x.add i)) (cap - i) ((zs.drop i).take (j - i)) := by
  have := RdS.cut h i j hij (by simpa using hj)
  rwa [← List.map_drop, ← List.map_take] at this

theorem RdI.tail (h : RdI w k ao cap zs) (i : Nat) (hi : i ≤ zs.length) :
    RdI w k (if cap = i then ao else ao.map (fun x => x.add i)) (cap - i) (zs.drop i) := by
  have := h.cut i zs.length hi (Nat.le_refl _)
  rwa [List.take_of_length_le (by simp)] at this

theorem RdI.head (h : RdI w k ao cap zs) (j : Nat) (hj : j ≤ zs.length) : RdI w k ao cap (zs.take j) := by
  have := h.cut 0 j (by omega) hj
  simpa [Addr.add] using this

theorem OwnI.rd (h : OwnI w base e k ao cap zs) : RdI w k ao cap zs := OwnS.rd h
theorem OwnI.below (h : OwnI w base e k ao cap zs) (hb : Below w.heap.size w w') : OwnI w' base e k ao cap zs := OwnS.below h hb
theorem OwnI.mono {base' : Nat} (h : OwnI w base e k ao cap zs) (hb : base' ≤ base) : OwnI w base' e k ao cap zs := OwnS.mono h hb
theorem OwnI.alloc (h : OwnI w base e k ao cap zs) (o : Obj) : OwnI (w.alloc o) base e k ao cap zs := OwnS.alloc h o
theorem OwnI.nil (w : World) (base : Nat) (e : TypeId) (k : IntKind) : OwnI w base e k none 0 [] := OwnS.nil w base e

theorem RdI.one (w : World) (e : TypeId) (k : IntKind) (z : Int) : RdI (w.alloc (.cells #[.int k z] e)) k (some ⟨w.heap.size, 0, none⟩) 1 [z] := RdS.one w e _

theorem RdI.built (w : World) (e : TypeId) (k : IntKind) (xs : Array Value) (n : Nat) (zs : List Int) (hx : xs.toList = zs.map (Value.int k)) (hn : zs.length = n) (hm : n ≤ maxLen) : RdI (w.alloc (.cells xs e)) k (some ⟨w.heap.size, 0, none⟩) n zs := by
  have h := RdS.built w e (zs.map (Value.int k)) (by simp; omega)
  rw [← hx] at h
  rw [hx] at h
  have e1 : xs = (zs.map (Value.int k)).toArray := by rw [← hx]
  subst hn
  rw [e1]
  simpa [RdI] using h

/-- An empty slice that was just built. -/
theorem OwnI.fresh (w : World) (base : Nat) (e : TypeId) (k : IntKind) (hb : base ≤ w.heap.size) : OwnI (w.alloc (.cells #[] e)) base e k (some ⟨w.heap.size, 0, none⟩) 0 [] := OwnS.built w base e [] (by simp) hb

end

theorem wpList_append_rdI {P : Program} (w : World) {ops : Array Oper} {rest : List Oper} {o : Oper} {a : Act} {Q : Exit → Act → World → Prop} (hgd : o.guard = none) (s x : Operand) (t : TypeId)
    (ho : o.op = .call { callee := .builtin .append, args := #[s, x], argTypes := #[t, t] })
    (base : Nat) (e : TypeId) (k : IntKind) (z : Value) (bytes : Nat) (ht : P.underlying t = some (.slice e))
    (hinfo : (P.info? e).map (fun i => (i.zero, i.size, i.bytes)) = some (some z, 1, bytes)) (hzs : z.cells.size = 1)
    {ao : Option Addr} {cap n : Nat} {xs : List Int} {ao' : Option Addr} {cap' m : Nat} {ys : List Int}
    (hs : a.eval s = .slice ao n cap) (hx : a.eval x = .slice ao' m cap') (hown : OwnI w base e k ao cap xs) (hrd : RdI w k ao' cap' ys) (hn : xs.length = n) (hm : ys.length = m)
    (hbytes : (n + m) * bytes ≤ 140737488355328) (h63 : n + m ≤ maxLen) (hbase : base ≤ w.heap.size)
    (h : ∀ ao2 cap2 w', OwnI w' base e k ao2 cap2 (xs ++ ys) → Below base w w' → wpList P ops Q rest (a.put o.dst (.slice ao2 (n + m) cap2)) w') : wpList P ops Q (o :: rest) a w :=
  wpList_append_rd w hgd s x t ho base e z bytes ht hinfo hzs hs hx hown hrd (by simpa using hn) (by simpa using hm) (ints_one _ _) hbytes h63 hbase
    (fun ao2 cap2 w' h1 h2 => h ao2 cap2 w' (by unfold OwnI; rw [List.map_append]; exact h1) h2)

/-- The same as a step of a region that draws its order. -/
theorem step_append_rdI {P : Program} (w : World) {ops : Array Oper} {o : Oper} {a : Act} {K : Act → World → Prop} {Q : Exit → Act → World → Prop} {E : Prop} (hgd : o.guard = none) (s x : Operand) (t : TypeId)
    (ho : o.op = .call { callee := .builtin .append, args := #[s, x], argTypes := #[t, t] })
    (base : Nat) (e : TypeId) (k : IntKind) (z : Value) (bytes : Nat) (ht : P.underlying t = some (.slice e))
    (hinfo : (P.info? e).map (fun i => (i.zero, i.size, i.bytes)) = some (some z, 1, bytes)) (hzs : z.cells.size = 1)
    {ao : Option Addr} {cap n : Nat} {xs : List Int} {ao' : Option Addr} {cap' m : Nat} {ys : List Int}
    (hs : a.eval s = .slice ao n cap) (hx : a.eval x = .slice ao' m cap') (hown : OwnI w base e k ao cap xs) (hrd : RdI w k ao' cap' ys) (hn : xs.length = n) (hm : ys.length = m)
    (hbytes : (n + m) * bytes ≤ 140737488355328) (h63 : n + m ≤ maxLen) (hbase : base ≤ w.heap.size)
    (h : ∀ ao2 cap2 w', OwnI w' base e k ao2 cap2 (xs ++ ys) → Below base w w' → K (a.put o.dst (.slice ao2 (n + m) cap2)) w') :
    if Region.wanted o (yielded ops a.tmps) = true then Oper.wp P o a w K Q else E := by
  have hw : Region.wanted o (yielded ops a.tmps) = true := by simp [Region.wanted, hgd]
  rw [if_pos hw]
  subst hn hm
  obtain ⟨ao2, cap2, w', hr, h2, h3⟩ := run_append_rd (P := P) base t o.type e z bytes ht hinfo hzs hown hrd (ints_one _ _) (by simpa using hbytes) (by simpa using h63) hbase
  simp only [List.length_map] at hr
  unfold Oper.wp execOp
  simp only [ho, resolve, invoke, builtin, Sem.run_bind, Sem.run_pure, Result.andThen_ok, List.map_toArray, List.map_cons, List.map_nil, hs, hx, hr]
  exact h ao2 cap2 w' (by unfold OwnI; rw [List.map_append]; exact h2) h3

/-- A slice that is made empty, with room. -/
theorem wpList_make0I {P : Program} (w : World) {ops : Array Oper} {rest : List Oper} {o : Oper} {a : Act} {Q : Exit → Act → World → Prop}
    (hg : o.guard = none) (l c : Operand) (t : TypeId) (hop : o.op = Op.makeSlice t l c)
    (base : Nat) (e : TypeId) (k : IntKind) (z : Value) (bytes : Nat) (ht : P.underlying t = some (.slice e))
    (hinfo : (P.info? e).map (fun i => (i.zero, i.size, i.bytes)) = some (some z, 1, bytes))
    {kl kc : IntKind} {C : Int} (n : Nat) (hl : a.eval l = .int kl 0) (hc : a.eval c = .int kc C) (hC : C = (n : Int)) (b2 : bytes * n ≤ 281474976710656) (b3 : n ≤ maxLen) (b4 : base ≤ w.heap.size)
    (h : ∀ ao w', OwnI w' base e k ao n [] → Below base w w' → wpList P ops Q rest (a.put o.dst (.slice ao 0 n)) w') : wpList P ops Q (o :: rest) a w := by
  obtain ⟨i0, hi, hz0, hz1, hz2⟩ := info_parts hinfo
  exact wpList_make_own w hg l c t hop base e i0 z 1 ht hi hz0 hz1 kl kc C n hl hc hC (by rw [hz2]; exact b2) b3 b4 fun w' h1 h2 => h _ w' h1 ((Below.refl _ _).grown h2 b4 (fun _ h => by cases h))

/-- A slice that is made full of zeros. -/
theorem wpList_makeNI {P : Program} (w : World) {ops : Array Oper} {rest : List Oper} {o : Oper} {a : Act} {Q : Exit → Act → World → Prop}
    (hg : o.guard = none) (l c : Operand) (t : TypeId) (hop : o.op = Op.makeSlice t l c)
    (base : Nat) (e : TypeId) (k : IntKind) (bytes : Nat) (ht : P.underlying t = some (.slice e))
    (hinfo : (P.info? e).map (fun i => (i.zero, i.size, i.bytes)) = some (some (.int k 0), 1, bytes))
    {kl kc : IntKind} {L C : Int} (n : Nat) (hl : a.eval l = .int kl L) (hc : a.eval c = .int kc C) (hL : L = (n : Int)) (hC : C = (n : Int)) (b2 : bytes * n ≤ 281474976710656) (b3 : n ≤ maxLen) (b4 : base ≤ w.heap.size)
    (h : ∀ g w', base ≤ g → OwnI w' base e k (some ⟨g, 0, none⟩) n (List.replicate n 0) → Below base w w' → wpList P ops Q rest (a.put o.dst (.slice (some ⟨g, 0, none⟩) n n)) w') : wpList P ops Q (o :: rest) a w := by
  obtain ⟨i0, hi, hz0, hz1, hz2⟩ := info_parts hinfo
  refine wpList_make_full w hg l c t hop base e i0 _ 1 ht hi hz0 hz1 kl kc L C n hl hc hL hC (by rw [hz2]; exact b2) b3 b4 fun w' h1 h2 => h _ w' b4 ?_ ((Below.refl _ _).grown h2 b4 (fun _ h => by cases h))
  have e1 : (madeCells (Value.int k 0).cells (n * 1)).toList = (List.replicate n (0 : Int)).map (Value.int k) := by
    rw [Nat.mul_one, show (Value.int k 0).cells = #[.int k 0] from rfl, toList_madeCells_one]; simp
  rw [e1] at h1
  unfold OwnI OwnS
  simpa using h1

/-- A store into a slice of the call's own. -/
theorem OwnI.stored {w : World} {base : Nat} {e : TypeId} {k : IntKind} {g cap : Nat} {zs : List Int} (h : OwnI w base e k (some ⟨g, 0, none⟩) cap zs) (j : Nat) (z : Int) :
    OwnI (w.setCell ⟨g, j, none⟩ (.int k z)) base e k (some ⟨g, 0, none⟩) cap (zs.set j z) := by
  unfold OwnI OwnS at *
  have := (World.ownsRow.stored h j (.int k z)).1
  simpa [List.map_set] using this

theorem OwnI.frozenAt {w : World} {base : Nat} {e : TypeId} {k : IntKind} {g cap : Nat} {zs : List Int} (h : OwnI w base e k (some ⟨g, 0, none⟩) cap zs) (j : Nat) : w.frozen? ⟨g, j, none⟩ = false :=
  World.ownsRow.frozenAt h j

theorem OwnI.cellAt {w : World} {base : Nat} {e : TypeId} {k : IntKind} {g cap : Nat} {zs : List Int} (h : OwnI w base e k (some ⟨g, 0, none⟩) cap zs) (j : Nat) (hj : j < zs.length) : w.cell? ⟨g, j, none⟩ = some (.int k zs[j]) := by
  have := World.ownsRow.cellAt h j (by simpa using hj)
  rw [this]
  simp [hj]

theorem OwnI.baseLe {w : World} {base : Nat} {e : TypeId} {k : IntKind} {g cap : Nat} {zs : List Int} (h : OwnI w base e k (some ⟨g, 0, none⟩) cap zs) : base ≤ g ∧ g < w.heap.size :=
  World.ownsRow.lt h g rfl

/-- The string of a slice of bytes. -/
theorem run_string_rd {P : Program} {w : World} (src dst e : TypeId) (hs : P.underlying src = some (.slice e)) (he : P.underlying e = some (.int .u8)) (hd : P.underlying dst = some .string)
    {ao : Option Addr} {cap n : Nat} {zs : List Int} (hrd : RdI w .u8 ao cap zs) (hn : zs.length = n) :
    (convert src dst (.slice ao n cap)).run P w = .ok (.string (strOfNums zs)) w := by
  subst hn
  cases ao with
  | none =>
    have := RdS.nil hrd rfl
    have hl := hrd.le
    have : zs = [] := List.eq_nil_of_length_eq_zero (by omega)
    subst this
    rw [run_convert_bytes_nil w src e hs he _ _ dst hd]
    rfl
  | some ad =>
    by_cases hz : zs = []
    · subst hz
      simp only [List.length_nil]
      rw [run_convert_bytes_string w src dst e _ 0 cap hs he hd, run_bytesToString w _ 0 cap [] (by simp [loadCells, loadCellsFrom])]
      rfl
    · obtain ⟨b, off, e', _, hc⟩ := hrd.at (t := 0) (List.length_pos_iff.2 hz)
      simp only [Option.some.injEq] at e'
      subst e'
      exact run_convert_bytes_arg w src e hs he b off zs.length cap zs rfl (fun i hi => by rw [hc i hi]; simp [List.getD, hi]) dst hd

/-- What is told of a slice that came in. -/
theorem rdI_of_row {w : World} {k : IntKind} {x : Addr} {len cap : Nat} {zs : List Int} (hl : len ≤ cap) (hm : cap ≤ maxLen) (hz : zs.length = cap)
    (hc : ∀ i, i < zs.length → w.cell? (x.add i) = some (.int k (zs.getD i 0))) : RdI w k (some x) cap (zs.take len) := by
  refine ⟨by simp; omega, hm, fun h => (by cases h), fun hx => ?_⟩
  have hp : 0 < zs.length := by
    rcases Nat.eq_zero_or_pos zs.length with h | h
    · exact absurd (by rw [List.eq_nil_of_length_eq_zero h]; simp) hx
    · exact h
  obtain ⟨b, off, spot⟩ := x
  have h0 := hc 0 hp
  have hspot : spot = none := by simpa [Addr.add] using World.cell?_spot h0
  subst hspot
  refine ⟨b, off, rfl, World.block_lt_of_cell? w _ h0, fun t ht => ?_⟩
  simp only [List.length_map, List.length_take] at ht
  have := hc t (by omega)
  rw [Addr.add_lit] at this
  rw [this]
  simp [List.getD, List.getElem?_eq_getElem (show t < zs.length by omega)]

end Go.Proofs.YtemldmjpanmdbaaGreatDoor
