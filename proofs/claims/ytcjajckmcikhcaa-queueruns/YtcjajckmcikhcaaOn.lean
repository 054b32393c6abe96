/- Nobody waits twice: QueueOne's walk. -/
import Derived.Test.YtcjajckmcikhcaaQ8
import Derived.Test.YtcjajckmcikhcaaLq
import Derived.Test.YtcjajckmcikhcaaOw
namespace Go.Proofs.Ytcjajckmcikhcaa
open Go.RowKit Go.Maps
set_option linter.unusedVariables false

section
variable {B : Nat} {V : Nat → Prop} {W W' : World} {q : Nat} {L : List Wt} {C : Cl} {n : Nat}
theorem Qx.off (h : Qx B V W q L C n) (ho : OffS V W W') : Qx B (fun k => V k ∨ W.heap.size ≤ k) W' q L C n :=
  (Qw.keep h (fun k hk hl => ho.block k hl hk.2.2)).mono fun k hk ha => ⟨ha.1, hk, by rintro (h' | h'); exact ha.2.2 h'; have := ha.2.1; omega⟩
theorem Qx.lower {B' : Nat} (h : Qx B V W q L C n) (hB : B' ≤ B) : Qx B' V W q L C n := Qw.mono h fun k hk ha => ⟨Nat.le_trans hB ha.1, ha.2⟩
end

abbrev rowOf (ao : Option Addr) (j : Nat) : Prop := ∃ a, ao = some a ∧ j = a.block
abbrev s4O (L : List Wt) : Obj := .cells #[.bool (hasB L 0), .bool (hasB L 1), .bool (hasB L 2), .bool (hasB L 3)] 61

theorem s4_cell {W : World} {gs : Nat} {L : List Wt} (h : W.heap[gs]? = some (s4O L)) : ∀ j : Nat, j < 4 → W.cell? ⟨gs, j, none⟩ = some (.bool (hasB L (j : Int)))
  | 0, _ => by rw [cell_of_row _ _ _ _ _ _ h]; rfl
  | 1, _ => by rw [cell_of_row _ _ _ _ _ _ h]; rfl
  | 2, _ => by rw [cell_of_row _ _ _ _ _ _ h]; rfl
  | 3, _ => by rw [cell_of_row _ _ _ _ _ _ h]; rfl

theorem hasB_snoc (L : List Wt) (x : Wt) (c : Int) : hasB (L ++ [x]) c = (hasB L c || x.c == c) := by
  rw [hasB_any, hasB_any, List.any_append]
  simp

theorem s4_put {W : World} {gs : Nat} {L : List Wt} (h : W.heap[gs]? = some (s4O L)) (x : Wt) (j : Nat) (hj : j < 4) (hx : x.c = (j : Int)) : (W.setCell ⟨gs, j, none⟩ (.bool true)).heap[gs]? = some (s4O (L ++ [x])) := by
  rw [heap_setCell_same W gs j _ 61 _ h]
  unfold s4O
  rw [hasB_snoc, hasB_snoc, hasB_snoc, hasB_snoc, hx]
  rcases (by omega : j = 0 ∨ j = 1 ∨ j = 2 ∨ j = 3) with rfl | rfl | rfl | rfl <;> simp

/-- What the first loop keeps. -/
structure OneI (w W : World) (q gs : Nat) (aw : Option Addr) (cw : Nat) (L : List Wt) : Prop where
  qx : Qx w.heap.size (fun j => j = gs ∨ rowOf aw j) W q L C0 0
  ow : OwR wtC 4 29 W aw cw L
  s4 : W.heap[gs]? = some (s4O L)
  bel : Below w.heap.size w W
  nice : Nice L
  ge : w.heap.size ≤ gs
  gw : ∀ a, aw = some a → w.heap.size ≤ a.block
  ne : ∀ a, aw = some a → a.block ≠ gs

theorem OneI.vlt {w W : World} {q gs : Nat} {aw : Option Addr} {cw : Nat} {L : List Wt} (h : OneI w W q gs aw cw L) : ∀ j, (j = gs ∨ rowOf aw j) → j < W.heap.size := by
  rintro j (rfl | ⟨a, ha, rfl⟩)
  · exact (Array.getElem?_eq_some_iff.1 h.s4).1
  · exact (h.ow.lt a ha).1

/-- Behind an Add, the want in its box. -/
structure OneM (w W : World) (q gs : Nat) (aw : Option Addr) (cw : Nat) (L L' : List Wt) (x : Wt) (e : Nat) : Prop where
  qx : Qx w.heap.size (fun j => (j = gs ∨ rowOf aw j) ∨ j = e) W q L' C0 0
  ow : OwR wtC 4 29 W aw cw L
  s4 : W.heap[gs]? = some (s4O L)
  bx : W.heap[e]? = some (wtO x)
  bel : Below w.heap.size w W
  nice : Nice L
  ge : w.heap.size ≤ gs
  gw : ∀ a, aw = some a → w.heap.size ≤ a.block
  ne : ∀ a, aw = some a → a.block ≠ gs
  nx : e ≠ gs ∧ ∀ a, aw = some a → a.block ≠ e
  gx : w.heap.size ≤ e

theorem one_add {w wr : World} {q gs : Nat} {aw : Option Addr} {cw : Nat} {L : List Wt} (h : OneI w wr q gs aw cw L) (x : Wt) :
    Calls Try.prog 11 #[qp q, wtV x] (wr.alloc (wtO x)) fun e w' => e = .returned (.bool (addB L x)) ∧ Hid (OneM w w' q gs aw cw L (addL L x) x wr.heap.size) := by
  have hb : Below wr.heap.size wr (wr.alloc (wtO x)) := (Below.refl _ _).alloc (Nat.le_refl _) _
  have hv := h.vlt
  have h1 : Qx w.heap.size (fun j => (j = gs ∨ rowOf aw j) ∨ j = wr.heap.size) (wr.alloc (wtO x)) q L C0 0 := (h.qx.foreign hb).less (by rintro k (hk | rfl); exact .inl hk; exact .inr (Nat.le_refl _))
  refine (addX h1 (by rintro j (hj | rfl); exact Nat.lt_of_lt_of_le (hv j hj) hb.size; simp) (Nat.le_trans h.bel.size hb.size) (by have := h.nice.le4; omega) x).mono ?_
  rintro e w' ⟨rfl, s⟩
  have hk : ∀ j, (j = gs ∨ rowOf aw j) → w'.heap[j]? = wr.heap[j]? := fun j hj => (s.keep j (.inl hj)).trans (hb.block j (hv j hj))
  refine ⟨rfl, s.qx, h.ow.keep fun a ha _ => hk _ (.inr ⟨a, ha, rfl⟩), (hk gs (.inl rfl)).trans h.s4, (s.keep _ (.inr rfl)).trans (heap_alloc_new wr _), (below_step h.bel hb).trans s.bel, h.nice, h.ge, h.gw, h.ne, ⟨?_, fun a ha => ?_⟩, h.bel.size⟩
  · have := hv gs (.inl rfl); omega
  · have := hv a.block (.inr ⟨a, ha, rfl⟩); omega

theorem OneM.stays {w W : World} {q gs : Nat} {aw : Option Addr} {cw : Nat} {L L' : List Wt} {x : Wt} {e : Nat} (h : OneM w W q gs aw cw L L' x e) (hL : L' = L) : OneI w W q gs aw cw L := by
  subst hL
  exact ⟨h.qx.less fun k hk => .inl hk, h.ow, h.s4, h.bel, h.nice, h.ge, h.gw, h.ne⟩

/-- Behind 'seen[c] = true' and 'want = append(want, w)'. -/
theorem OneM.taken {w W w6 : World} {q gs : Nat} {aw : Option Addr} {cw : Nat} {L : List Wt} {x : Wt} {e : Nat} (h : OneM w W q gs aw cw L (L ++ [x]) x e) (hn : Nice (L ++ [x])) (j : Nat) (hj : j < 4) (hx : x.c = (j : Int)) {ao3 : Option Addr} {cap3 : Nat}
    (ho : OwR wtC 4 29 w6 ao3 cap3 (L ++ [x])) (hg : ((W.setCell ⟨gs, j, none⟩ (.bool true)).alloc (wtO x)).grownBy w6 (aw.map (·.block))) (ha : ao3 = aw ∨ ao3 = some ⟨((W.setCell ⟨gs, j, none⟩ (.bool true)).alloc (wtO x)).heap.size, 0, none⟩) : OneI w w6 q gs ao3 cap3 (L ++ [x]) := by
  have hsz : (W.setCell ⟨gs, j, none⟩ (.bool true)).heap.size = W.heap.size := by simp
  have hgs : gs < W.heap.size := (Array.getElem?_eq_some_iff.1 h.s4).1
  have o1 : OffS (fun j => (j = gs ∨ rowOf aw j) ∨ j = e) W (W.setCell ⟨gs, j, none⟩ (.bool true)) := (OffS.refl _ _).setCell (.inl (.inl rfl)) _
  have o2 : OffS (fun j => (j = gs ∨ rowOf aw j) ∨ j = e) W ((W.setCell ⟨gs, j, none⟩ (.bool true)).alloc (wtO x)) := o1.trans (.of_below ((Below.refl _ _).alloc (Nat.le_refl _) _))
  have o3 : OffS (fun j => (j = gs ∨ rowOf aw j) ∨ j = e) W w6 := o2.trans (OffS.grown hg fun k hk => by
    cases aw with
    | none => cases hk
    | some a => exact .inl (.inl (.inr ⟨a, rfl, by simpa using hk.symm⟩)))
  have hne : ∀ k, some k ≠ aw.map (·.block) → k < W.heap.size → k ≠ gs → w6.heap[k]? = W.heap[k]? := fun k hk hl hk2 => by
    rw [hg.block k (by simp; omega) hk, Below.heap_alloc _ _ _ (by simpa using hl), Below.heap_setCell _ _ _ _ hk2]
  refine ⟨(h.qx.off o3).less ?_, ho, ?_, ?_, hn, h.ge, ?_, ?_⟩
  · rintro k (rfl | ⟨a, haa, rfl⟩)
    · exact .inl (.inl (.inl rfl))
    · rcases ha with rfl | rfl
      · exact .inl (.inl (.inr ⟨a, haa, rfl⟩))
      · cases haa
        exact .inr (by simp)
  · have h1 : w6.heap[gs]? = ((W.setCell ⟨gs, j, none⟩ (.bool true)).alloc (wtO x)).heap[gs]? := hg.block gs (by simp; omega) (by
      intro e1
      cases aw with
      | none => cases e1
      | some a => exact h.ne a rfl (by simpa using e1.symm))
    rw [h1, Below.heap_alloc _ _ _ (by simpa using hgs)]
    exact s4_put h.s4 x j hj hx
  · exact h.bel.trans (o3.below (fun k hk => by
      rcases hk with (rfl | ⟨a, haa, rfl⟩) | rfl
      · exact h.ge
      · exact h.gw a haa
      · exact h.gx) h.bel.size)
  · intro a haa
    rcases ha with rfl | rfl
    · exact h.gw a haa
    · cases haa
      have := h.bel.size
      simp
      omega
  · intro a haa
    rcases ha with rfl | rfl
    · exact h.ne a haa
    · cases haa
      simp
      omega

end Go.Proofs.Ytcjajckmcikhcaa
