/- Strings in a block; what a crash leaves. -/
import Derived.Test.YtnapkcejpllmcaaS4
import Derived.Test.YtnapkcejpllmcaaAc
import Derived.Test.YtnapkcejpllmcaaSg
namespace Go.Proofs.Ytnapkcejpllmcaa
open Go.RowKit
set_option linter.unusedVariables false

/-- Strings lie in a block. -/
structure StrAt (w : World) (p : Nat) (Bs : List (List Nat)) : Prop where
  c : ∀ i (h : i < Bs.length), w.cell? ⟨p, i, none⟩ = some (.string (strOfNums (ci Bs[i])))
  f : ∀ j, w.frozen? ⟨p, j, none⟩ = false
  lt : p < w.heap.size

theorem StrAt.block {w w' : World} {p : Nat} {Bs : List (List Nat)} (h : StrAt w p Bs) (hb : w'.heap[p]? = w.heap[p]?) (hs : w.heap.size ≤ w'.heap.size) : StrAt w' p Bs :=
  ⟨fun i hi => (World.cell?_of_block (w := w) hb).trans (h.c i hi), fun j => (World.frozen?_of_block (w := w) hb).trans (h.f j), Nat.lt_of_lt_of_le h.lt hs⟩
theorem StrAt.below {w w' : World} {p : Nat} {Bs : List (List Nat)} (h : StrAt w p Bs) (hb : Below w.heap.size w w') : StrAt w' p Bs := h.block (hb.block p h.lt) hb.size
theorem StrAt.off {w w' : World} {p g : Nat} {Bs : List (List Nat)} (h : StrAt w p Bs) (hb : Off g w w') (hne : p ≠ g) : StrAt w' p Bs := h.block (hb.block p h.lt hne) hb.size
theorem StrAt.other {w : World} {p : Nat} {Bs : List (List Nat)} (h : StrAt w p Bs) (a : Addr) (u : Value) (hne : p ≠ a.block) : StrAt (w.setCell a u) p Bs := h.block (Below.heap_setCell _ _ _ _ hne) (by simp [World.setCell])
theorem StrAt.put {w : World} {p : Nat} {Bs : List (List Nat)} (h : StrAt w p Bs) (i : Nat) (hi : i < Bs.length) (bs : List Nat) : StrAt (w.setCell ⟨p, i, none⟩ (.string (strOfNums (ci bs)))) p (Bs.set i bs) := by
  refine ⟨fun j hj => ?_, fun j => by rw [World.frozen?_setCell]; exact h.f j, by simpa [World.setCell] using h.lt⟩
  have hj' : j < Bs.length := by simpa using hj
  by_cases e : j = i
  · subst e
    rw [World.cell?_setCell_same _ _ _ (h.c j hj')]; simp
  · rw [put_other _ _ _ _ _ e, List.getElem_set_ne (fun h => e h.symm)]
    exact h.c j hj'

theorem six_of {α : Type} {L : List α} (h : L.length = 6) : ∃ x0 x1 x2 x3 x4 x5, L = [x0, x1, x2, x3, x4, x5] := by
  match L, h with
  | [x0, x1, x2, x3, x4, x5], _ => exact ⟨x0, x1, x2, x3, x4, x5, rfl⟩

theorem StrAt.new (w : World) : StrAt (w.alloc (.cells #[.string ⟨#[]⟩, .string ⟨#[]⟩, .string ⟨#[]⟩, .string ⟨#[]⟩, .string ⟨#[]⟩, .string ⟨#[]⟩] 53)) w.heap.size (List.replicate 6 []) := by
  have h := heap_alloc_new w (.cells #[.string ⟨#[]⟩, .string ⟨#[]⟩, .string ⟨#[]⟩, .string ⟨#[]⟩, .string ⟨#[]⟩, .string ⟨#[]⟩] 53)
  refine ⟨fun i hi => ?_, fun j => frozen_of_row _ _ _ _ _ h, by simp⟩
  rw [cell_of_row _ _ _ _ _ _ h]
  simp only [List.length_replicate] at hi
  obtain rfl | rfl | rfl | rfl | rfl | rfl : i = 0 ∨ i = 1 ∨ i = 2 ∨ i = 3 ∨ i = 4 ∨ i = 5 := by omega
  all_goals rfl

/-- Six strings are written over. -/
theorem StrAt.six {w : World} {p : Nat} {a0 a1 a2 a3 a4 a5 : List Nat} (h : StrAt w p [a0, a1, a2, a3, a4, a5]) (b0 b1 b2 b3 b4 b5 : List Nat) :
    StrAt ((((((w.setCell ⟨p, 0, none⟩ (.string (strOfNums (ci b0)))).setCell ⟨p, 1, none⟩ (.string (strOfNums (ci b1)))).setCell ⟨p, 2, none⟩ (.string (strOfNums (ci b2)))).setCell ⟨p, 3, none⟩ (.string (strOfNums (ci b3)))).setCell ⟨p, 4, none⟩ (.string (strOfNums (ci b4)))).setCell ⟨p, 5, none⟩ (.string (strOfNums (ci b5)))) p [b0, b1, b2, b3, b4, b5] :=
  (((((h.put 0 (by simp) b0).put 1 (by simp) b1).put 2 (by simp) b2).put 3 (by simp) b3).put 4 (by simp) b4).put 5 (by simp) b5

theorem Drv.other {w : World} {g : Nat} {V : Nat → Prop} {L : List Sec} (h : Drv w g V L) (a : Addr) (u : Value) (hV : ¬ V a.block) (h0 : a.block ≠ g) (h1 : a.block ≠ g + 1) : Drv (w.setCell a u) g V L :=
  h.kept (Kept.setCell _ _ _ (by rintro (hx | hx | hx); exact hV hx; exact h0 hx; exact h1 hx))

theorem fate_b (keep : Int) (i : Nat) (x : Sec) : (fate keep i x).b = x.b ∨ (fate keep i x).b = x.s := by
  unfold fate; split
  · exact .inl rfl
  · exact .inr rfl

theorem fate_fate (k1 k2 : Int) (i : Nat) (x : Sec) : (fate k2 i (fate k1 i x)).b = (fate k1 i x).b := by
  unfold fate; split <;> split <;> rfl

theorem crash_twice (k1 k2 : Int) (L : List Sec) : (L.mapIdx (fate k1)).map Sec.b = ((L.mapIdx (fate k1)).mapIdx (fate k2)).map Sec.b := by
  apply List.ext_getElem (by simp)
  intro i h1 h2
  simp [fate_fate]

theorem map_wrote_s (L : List Sec) (i : Nat) (hi : i < L.length) (bs : List Nat) : (L.set i (L[i].wrote bs)).map Sec.s = L.map Sec.s := by
  rw [List.map_set]
  apply List.ext_getElem (by simp)
  intro j h1 h2
  rw [List.getElem_set]
  split
  · rename_i e; subst e; simp [Sec.wrote]
  · rfl

theorem hasB_nat {L : List Sec} {i : Int} (h : hasB L i = true) : ∃ j : Nat, i = (j : Int) ∧ j < L.length := by
  simp [hasB] at h
  exact ⟨i.toNat, by omega, by omega⟩

theorem Own8.off {w w' : World} {g base : Nat} {ao : Option Addr} {n cap : Nat} {bs : List Nat} (h : Own8 w base ao n cap bs) (hb : Off g w w') (hg : g < base) : Rd8 w' ao n cap bs :=
  h.rd.kept h.inn (Kept.of_off hb fun k hk => by omega)

theorem Own88.off {w w' : World} {g base : Nat} {ao : Option Addr} {cap : Nat} {ps : List Pt} (h : Own88 w base ao cap ps) (hb : Off g w w') (hg : g < base) : RdS w' ao cap (ps.map Pt.val) ∧ ∀ p ∈ ps, Rd8 w' p.ao p.n p.cap p.bs :=
  ⟨h.own.rd.kept h.own.inn (Kept.of_off hb fun k hk => by omega), fun p hp => (h.el p hp).off hb hg⟩

end Go.Proofs.Ytnapkcejpllmcaa
