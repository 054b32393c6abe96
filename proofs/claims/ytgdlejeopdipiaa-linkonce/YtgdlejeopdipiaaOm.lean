/- Four rows of strings beside two links and packets: what stays, what an append leaves. No walk. -/
import Derived.Test.YtgdlejeopdipiaaOn
namespace Go.Proofs.Ytgdlejeopdipiaa
open Go.RowKit
set_option linter.unusedVariables false

/-- All rows but those of the types 9 and 51 are as they were. -/
structure KS (w w' : World) : Prop where
  size : w.heap.size ≤ w'.heap.size
  block : ∀ (k : Nat) (cs : Array Value) (e : TypeId) (fr : Nat × Nat), w.heap[k]? = some (.cells cs e fr) → e ≠ 9 → e ≠ 51 → w'.heap[k]? = w.heap[k]?
/-- All rows but those of type 30 are as they were. -/
structure KP (w w' : World) : Prop where
  size : w.heap.size ≤ w'.heap.size
  block : ∀ (k : Nat) (cs : Array Value) (e : TypeId) (fr : Nat × Nat), w.heap[k]? = some (.cells cs e fr) → e ≠ 30 → w'.heap[k]? = w.heap[k]?
theorem KS.trans {a b c : World} (h : KS a b) (k : KS b c) : KS a c := ⟨Nat.le_trans h.size k.size, fun i cs e fr hi h1 h2 => (k.block i cs e fr ((h.block i cs e fr hi h1 h2).trans hi) h1 h2).trans (h.block i cs e fr hi h1 h2)⟩
theorem KS.of_below {a b : World} (h : Below a.heap.size a b) : KS a b := ⟨h.size, fun i cs e fr hi _ _ => h.block i (Array.getElem?_eq_some_iff.1 hi).1⟩
theorem KP.of_below {a b : World} (h : Below a.heap.size a b) : KP a b := ⟨h.size, fun i cs e fr hi _ => h.block i (Array.getElem?_eq_some_iff.1 hi).1⟩
theorem KP.trans {a b c : World} (h : KP a b) (k : KP b c) : KP a c := ⟨Nat.le_trans h.size k.size, fun i cs e fr hi h1 => (k.block i cs e fr ((h.block i cs e fr hi h1).trans hi) h1).trans (h.block i cs e fr hi h1)⟩

/-- What keeps every row of four types keeps two links. -/
theorem Bys.keep3 {w w' : World} {V : Nat → Prop} {vs : List Value} {L : List (List Nat)} (h : Bys w V vs L) (hs : w.heap.size ≤ w'.heap.size) (hb : ∀ (k : Nat) (cs : Array Value) (fr : Nat × Nat), w.heap[k]? = some (.cells cs 5 fr) → w'.heap[k]? = w.heap[k]?) : Bys w' V vs L :=
  ⟨h.len, fun i v bs h1 h2 => (h.each i v bs h1 h2).keepx hs hb⟩
theorem Lk.keep3 {w w' : World} {B g : Nat} {ao : Option Addr} {n cap : Nat} {V : Nat → Prop} {I : LkI} {L : List (List Nat)} {s h : Nat} (H : Lk w B g ao n cap V I L s h) (hs : w.heap.size ≤ w'.heap.size)
    (hb : ∀ (k : Nat) (cs : Array Value) (e : TypeId) (fr : Nat × Nat), w.heap[k]? = some (.cells cs e fr) → (e = 59 ∨ e = 27 ∨ e = 5) → w'.heap[k]? = w.heap[k]?) : Lk w' B g ao n cap V I L s h := by
  obtain ⟨vs, ho, hy⟩ := H.row
  refine ⟨H.hd.keep ?_, ⟨vs, ho.keep fun a ha => ?_, hy.keep3 hs fun k cs fr hk => hb k cs 5 fr hk (by decide)⟩, H.len, H.bg, H.le, H.sl, H.sm, H.hm, H.sz⟩
  · obtain ⟨cs, hc⟩ := H.hd.ty
    exact hb g cs 59 _ hc (by decide)
  · obtain ⟨cs, fr, hc⟩ := H.ty a ha
    exact hb _ cs 27 fr hc (by decide)
theorem Duo.keepx {w w' : World} {B ge g0 g1 : Nat} {P : PkG} {X Y : En} (D : Duo w B ge g0 g1 P X Y) (hs : w.heap.size ≤ w'.heap.size)
    (hb : ∀ (k : Nat) (cs : Array Value) (e : TypeId) (fr : Nat × Nat), w.heap[k]? = some (.cells cs e fr) → (e = 59 ∨ e = 27 ∨ e = 5 ∨ e = 49) → w'.heap[k]? = w.heap[k]?) : Duo w' B ge g0 g1 P X Y := by
  have hb3 : ∀ (k : Nat) (cs : Array Value) (e : TypeId) (fr : Nat × Nat), w.heap[k]? = some (.cells cs e fr) → (e = 59 ∨ e = 27 ∨ e = 5) → w'.heap[k]? = w.heap[k]? := fun k cs e fr hk he => hb k cs e fr hk (by rcases he with h | h | h <;> simp [h])
  have hg : w'.heap[ge]? = w.heap[ge]? := by
    obtain ⟨cs, fr, h⟩ := D.et
    exact hb ge cs 49 fr h (by decide)
  exact ⟨(World.cell?_of_block (w := w) (w' := w') (a := ⟨ge, 0, none⟩) hg).trans D.e0, (World.cell?_of_block (w := w) (w' := w') (a := ⟨ge, 1, none⟩) hg).trans D.e1, by rw [hg]; exact D.et, D.k0.keep3 hs hb3, D.k1.keep3 hs hb3, D.ne, D.ra, D.bg⟩
theorem Duo.ks {w w' : World} {B ge g0 g1 : Nat} {P : PkG} {X Y : En} (D : Duo w B ge g0 g1 P X Y) (hk : KS w w') : Duo w' B ge g0 g1 P X Y :=
  D.keepx hk.size fun k cs e fr h he => hk.block k cs e fr h (by rcases he with h | h | h | h <;> simp [h]) (by rcases he with h | h | h | h <;> simp [h])
theorem Duo.kp {w w' : World} {B ge g0 g1 : Nat} {P : PkG} {X Y : En} (D : Duo w B ge g0 g1 P X Y) (hk : KP w w') : Duo w' B ge g0 g1 P X Y :=
  D.keepx hk.size fun k cs e fr h he => hk.block k cs e fr h (by rcases he with h | h | h | h <;> simp [h])
theorem Pks.ks {w w' : World} {base : Nat} {V : Nat → Prop} {v : Value} {Ps : List PkG} (h : Pks w base V v Ps) (hk : KS w w') : Pks w' base V v Ps := by
  obtain ⟨R, rfl, ho, hb⟩ := h
  refine ⟨R, rfl, ⟨ho.1, ?_⟩, fun r hr => (hb r hr).keepx hk.size fun k cs fr h5 => hk.block k cs 5 fr h5 (by decide) (by decide)⟩
  rcases ho.2 with hv | ⟨g, cp, cur, hv, hg, hh, r⟩
  · exact .inl hv
  · exact .inr ⟨g, cp, cur, hv, hg, (hk.block g cur 30 _ hh (by decide) (by decide)).trans hh, r⟩
/-- An append of packets turns rows of packets alone. -/
theorem Pks.kp {w w' : World} {base : Nat} {V : Nat → Prop} {v : Value} {Ps : List PkG} (h : Pks w base V v Ps) (hg : w.grownBy w' v.ownBlock) : KP w w' := by
  obtain ⟨R, rfl, ho, hb⟩ := h
  refine ⟨hg.size, fun k cs e fr hk hne => hg.block k (Array.getElem?_eq_some_iff.1 hk).1 fun e1 => ?_⟩
  rcases ho.2 with ⟨hv, _⟩ | ⟨g, cp, cur, hv, _, hh, _⟩
  · rw [hv] at e1; simp [Value.ownBlock] at e1
  · rw [hv] at e1
    simp [Value.ownBlock] at e1
    subst e1
    rw [hk] at hh
    simp only [Option.some.injEq, Obj.cells.injEq] at hh
    exact hne hh.2.1

/-! ### Rows of strings -/

def sv (b : List Nat) : Value := .string (strOfNums (ci b))
theorem sv_one (L : List (List Nat)) : ∀ u ∈ L.map sv, u.oneCell' = true := by
  intro u hu
  obtain ⟨b, _, rfl⟩ := List.mem_map.1 hu
  rfl

/-- Four rows of strings and the two headers that tell where they lie. -/
structure Str4 (w : World) (B q6 q7 : Nat) (R : Nat → Option Addr × Nat) (Ls : Nat → List (List Nat)) : Prop where
  h6 : w.heap[q6]? = some (.cells #[.slice (R 0).1 (Ls 0).length (R 0).2, .slice (R 1).1 (Ls 1).length (R 1).2] 51 (0, 0))
  h7 : w.heap[q7]? = some (.cells #[.slice (R 2).1 (Ls 2).length (R 2).2, .slice (R 3).1 (Ls 3).length (R 3).2] 51 (0, 0))
  row : ∀ i, i < 4 → OwnS w B 9 (R i).1 (R i).2 ((Ls i).map sv)
  ap : ∀ i j, i < 4 → j < 4 → i ≠ j → ∀ a b, (R i).1 = some a → (R j).1 = some b → a.block ≠ b.block
  ne : q6 ≠ q7

section
variable {w w' : World} {B q6 q7 : Nat} {R : Nat → Option Addr × Nat} {Ls : Nat → List (List Nat)}
theorem Str4.keepx (S : Str4 w B q6 q7 R Ls) (hb : ∀ (k : Nat) (cs : Array Value) (e : TypeId) (fr : Nat × Nat), w.heap[k]? = some (.cells cs e fr) → (e = 9 ∨ e = 51) → w'.heap[k]? = w.heap[k]?) : Str4 w' B q6 q7 R Ls :=
  ⟨(hb q6 _ 51 _ S.h6 (by decide)).trans S.h6, (hb q7 _ 51 _ S.h7 (by decide)).trans S.h7, fun i hi => (S.row i hi).keep fun a ha => by
    obtain ⟨cs, fr, hc⟩ := Ty.own (S.row i hi) a ha
    exact hb _ cs 9 fr hc (by decide), S.ap, S.ne⟩
theorem Str4.kt (S : Str4 w B q6 q7 R Ls) (hk : KT w w') : Str4 w' B q6 q7 R Ls := S.keepx fun k cs e fr h he => hk.block k cs e fr h (by rcases he with h | h <;> simp [h]) (by rcases he with h | h <;> simp [h])
theorem Str4.kp (S : Str4 w B q6 q7 R Ls) (hk : KP w w') : Str4 w' B q6 q7 R Ls := S.keepx fun k cs e fr h he => hk.block k cs e fr h (by rcases he with h | h <;> simp [h])
theorem Str4.below (S : Str4 w B q6 q7 R Ls) (hb : Below w.heap.size w w') : Str4 w' B q6 q7 R Ls := S.kt (KT.of_below hb)
theorem Str4.heap (S : Str4 w B q6 q7 R Ls) (e : w'.heap = w.heap) : Str4 w' B q6 q7 R Ls := S.keepx fun k _ _ _ _ _ => by rw [e]
/-- The header's block of a row. -/
def hq (q6 q7 i : Nat) : Nat := if i < 2 then q6 else q7
theorem Str4.hcell (S : Str4 w B q6 q7 R Ls) : ∀ i, i < 4 → w.cell? ⟨hq q6 q7 i, i % 2, none⟩ = some (.slice (R i).1 (Ls i).length (R i).2)
  | 0, _ => by show w.cell? ⟨q6, 0, none⟩ = _; rw [cell_of_row _ _ _ _ _ _ S.h6]; rfl
  | 1, _ => by show w.cell? ⟨q6, 1, none⟩ = _; rw [cell_of_row _ _ _ _ _ _ S.h6]; rfl
  | 2, _ => by show w.cell? ⟨q7, 0, none⟩ = _; rw [cell_of_row _ _ _ _ _ _ S.h7]; rfl
  | 3, _ => by show w.cell? ⟨q7, 1, none⟩ = _; rw [cell_of_row _ _ _ _ _ _ S.h7]; rfl
theorem Str4.hty (S : Str4 w B q6 q7 R Ls) (i : Nat) : ∃ cs, w.heap[hq q6 q7 i]? = some (.cells cs 51 (0, 0)) := by
  unfold hq
  split
  · exact ⟨_, S.h6⟩
  · exact ⟨_, S.h7⟩
theorem Str4.hfz (S : Str4 w B q6 q7 R Ls) (i j : Nat) : w.frozen? ⟨hq q6 q7 i, j, none⟩ = false := by
  obtain ⟨cs, h⟩ := S.hty i
  exact frozen_of_row _ _ _ _ _ h

def setR {α : Type} (f : Nat → α) (i : Nat) (x : α) : Nat → α := fun j => if j = i then x else f j

/-- One string more in a row, and its header written anew. -/
theorem Str4.add (S : Str4 w B q6 q7 R Ls) {i : Nat} (hi : i < 4) {ao2 : Option Addr} {cap2 : Nat} {b : List Nat} (ho : OwnS w' B 9 ao2 cap2 ((Ls i).map sv ++ [sv b])) (hg : w.grownBy w' (Value.ownBlock (.slice (R i).1 (Ls i).length (R i).2))) (ha : ao2 = (R i).1 ∨ ao2 = some ⟨w.heap.size, 0, none⟩) :
    Str4 (w'.setCell ⟨hq q6 q7 i, i % 2, none⟩ (.slice ao2 ((Ls i).length + 1) cap2)) B q6 q7 (setR R i (ao2, cap2)) (setR Ls i (Ls i ++ [b])) ∧ KS w (w'.setCell ⟨hq q6 q7 i, i % 2, none⟩ (.slice ao2 ((Ls i).length + 1) cap2)) := by
  have own : ∀ k, Value.ownBlock (.slice (R i).1 (Ls i).length (R i).2) = some k → ∃ a, (R i).1 = some a ∧ a.block = k := fun k hk => by
    cases e : (R i).1 with
    | none => rw [e] at hk; simp [Value.ownBlock] at hk
    | some a => rw [e] at hk; simp [Value.ownBlock] at hk; exact ⟨a, rfl, hk⟩
  have ty : ∀ k, Value.ownBlock (.slice (R i).1 (Ls i).length (R i).2) = some k → ∃ cs fr, w.heap[k]? = some (.cells cs 9 fr) := fun k hk => by
    obtain ⟨a, h1, rfl⟩ := own k hk
    exact Ty.own (S.row i hi) a h1
  have other : ∀ (k : Nat) (cs : Array Value) (e : TypeId) (fr : Nat × Nat), w.heap[k]? = some (.cells cs e fr) → e ≠ 9 → w'.heap[k]? = w.heap[k]? := fun k cs e fr hk he => hg.block k (Array.getElem?_eq_some_iff.1 hk).1 fun e1 => by
    obtain ⟨cs', fr', h2⟩ := ty k e1.symm
    rw [hk] at h2
    simp only [Option.some.injEq, Obj.cells.injEq] at h2
    exact he h2.2.1
  have h6' : w'.heap[q6]? = _ := (other q6 _ 51 _ S.h6 (by decide)).trans S.h6
  have h7' : w'.heap[q7]? = _ := (other q7 _ 51 _ S.h7 (by decide)).trans S.h7
  obtain ⟨hc, hhc⟩ := S.hty i
  have hh' : w'.heap[hq q6 q7 i]? = some (.cells hc 51 (0, 0)) := (other _ _ 51 _ hhc (by decide)).trans hhc
  have set : ∀ (k : Nat), k ≠ hq q6 q7 i → (w'.setCell ⟨hq q6 q7 i, i % 2, none⟩ (.slice ao2 ((Ls i).length + 1) cap2)).heap[k]? = w'.heap[k]? := fun k hk => Below.heap_setCell _ _ _ _ (fun e => hk e)
  have rowne : ∀ (k : Nat) (cs : Array Value) (fr : Nat × Nat), w'.heap[k]? = some (.cells cs 9 fr) → k ≠ hq q6 q7 i := fun k cs fr hk e => by
    rw [e, hh'] at hk
    simp at hk
  refine ⟨⟨?_, ?_, ?_, ?_, S.ne⟩, ⟨?_, ?_⟩⟩
  · match i, hi, hc, hhc, hh', set with
    | 0, _, hc, hhc, hh', set => rw [show hq q6 q7 0 = q6 from rfl, heap_setCell_same w' q6 _ _ 51 _ h6']; simp [setR]
    | 1, _, hc, hhc, hh', set => rw [show hq q6 q7 1 = q6 from rfl, heap_setCell_same w' q6 _ _ 51 _ h6']; simp [setR]
    | 2, _, hc, hhc, hh', set => rw [set q6 S.ne, h6']; rfl
    | 3, _, hc, hhc, hh', set => rw [set q6 S.ne, h6']; rfl
  · match i, hi, hc, hhc, hh', set with
    | 0, _, hc, hhc, hh', set => rw [set q7 S.ne.symm, h7']; rfl
    | 1, _, hc, hhc, hh', set => rw [set q7 S.ne.symm, h7']; rfl
    | 2, _, hc, hhc, hh', set => rw [show hq q6 q7 2 = q7 from rfl, heap_setCell_same w' q7 _ _ 51 _ h7']; simp [setR]
    | 3, _, hc, hhc, hh', set => rw [show hq q6 q7 3 = q7 from rfl, heap_setCell_same w' q7 _ _ 51 _ h7']; simp [setR]
  · intro j hj
    unfold setR
    by_cases e : j = i
    · rw [if_pos e, if_pos e]
      have : OwnS w' B 9 ao2 cap2 ((Ls i ++ [b]).map sv) := by rw [List.map_append]; exact ho
      refine this.keep fun a h1 => ?_
      obtain ⟨cs, fr, h2⟩ := Ty.own ho a h1
      exact set _ (rowne _ cs fr h2)
    · rw [if_neg e, if_neg e]
      refine (S.row j hj).keep fun a h1 => ?_
      obtain ⟨cs, fr, h2⟩ := Ty.own (S.row j hj) a h1
      have h3 : w'.heap[a.block]? = w.heap[a.block]? := hg.block _ (Array.getElem?_eq_some_iff.1 h2).1 fun e1 => by
        obtain ⟨a', h4, h5⟩ := own _ e1.symm
        exact S.ap j i hj hi e a a' h1 h4 h5.symm
      exact (set _ (rowne _ cs fr (h3.trans h2))).trans h3
  · have lt : ∀ j, j < 4 → ∀ a, (R j).1 = some a → a.block < w.heap.size := fun j hj a h1 => by
      obtain ⟨cs, fr, h2⟩ := Ty.own (S.row j hj) a h1
      exact (Array.getElem?_eq_some_iff.1 h2).1
    intro j k hj hk hne a c h1 h2
    unfold setR at h1 h2
    by_cases ej : j = i
    · rw [if_pos ej] at h1
      rw [if_neg (by omega)] at h2
      rcases ha with e | e
      · exact S.ap j k hj hk hne a c (by rw [ej, ← e]; exact h1) h2
      · have h3 := lt k hk c h2
        have : a = ⟨w.heap.size, 0, none⟩ := Option.some.inj (h1.symm.trans e)
        subst this
        show w.heap.size ≠ c.block
        omega
    · rw [if_neg ej] at h1
      by_cases ek : k = i
      · rw [if_pos ek] at h2
        rcases ha with e | e
        · exact S.ap j k hj hk hne a c h1 (by rw [ek, ← e]; exact h2)
        · have h3 := lt j hj a h1
          have : c = ⟨w.heap.size, 0, none⟩ := Option.some.inj (h2.symm.trans e)
          subst this
          show a.block ≠ w.heap.size
          omega
      · rw [if_neg ek] at h2
        exact S.ap j k hj hk hne a c h1 h2
  · simpa [World.setCell] using hg.size
  · intro k cs e fr hk h9 h51
    have h1 := other k cs e fr hk h9
    refine (set k fun ek => ?_).trans h1
    subst ek
    rw [hhc] at hk
    simp only [Option.some.injEq, Obj.cells.injEq] at hk
    exact h51 hk.2.1.symm
end

end Go.Proofs.Ytgdlejeopdipiaa
