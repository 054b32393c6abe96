/- What comes in as a slice of slices of bytes. -/
import Derived.Test.YtdajhdeheheccaaAc
import Derived.Test.YtdajhdeheheccaaAp
import Derived.Deep.Matrix
namespace Go.Proofs.Ytdajhdeheheccaa
open Go.RowKit
set_option linter.unusedVariables false

theorem parts_of {H : Type} {enc : TypeId × Value → H} {W : World} {fuel : Nat} {cs : List Value} {x : DataW H × List MemPlace} (h : DataW.trod enc Try.prog W 0 (fun _ => true) true fuel 47 cs = some x) :
    ∃ (a : Option Addr) (len cap : Nat) (ps : List Pt), cs = [.slice a len cap] ∧ RdS W a cap (ps.map Pt.val) ∧ ps.length = len ∧ ∀ p ∈ ps, Rd8 W p.ao p.n p.cap p.bs := by
  rcases Go.Deep.open_int_rows Try.underlying47 Try.underlying27 Try.underlying5 cells27 cells5 h with ⟨hcs, _⟩ | ⟨a, len, cap, A, L, C, Z, hcs, _, hl, hm, _, hr⟩
  · exact ⟨none, 0, 0, [], hcs, RdS.empty W, rfl, by simp⟩
  · have hrow : ∀ r, r < cap → ∃ bs, Rd8 W (A r) (L r) (C r) bs := by
      intro r hrc
      obtain ⟨_, h1, h2, h3, h4, h5, h6⟩ := hr r hrc
      cases hA : A r with
      | none =>
        have := h5 hA
        have e0 : L r = 0 := by omega
        rw [this, e0]
        exact ⟨[], Rd8.empty W⟩
      | some a' =>
        have := rdI_of_row (w := W) (k := .u8) (x := a') (len := L r) (cap := C r) (zs := Z r) h1 h2 h3 (fun i hi => (h6 a' hA).2 i (by omega))
        exact rd8_of this (by simp; omega) (fun z hz => h4 z (List.mem_of_mem_take hz))
    have hf : ∃ f : Nat → List Nat, ∀ r, r < cap → Rd8 W (A r) (L r) (C r) (f r) := by
      refine ⟨fun r => if hrc : r < cap then Classical.choose (hrow r hrc) else [], fun r hrc => ?_⟩
      simp only [hrc, dif_pos]
      exact Classical.choose_spec (hrow r hrc)
    obtain ⟨f, hf⟩ := hf
    refine ⟨some a, len, cap, (List.range len).map (fun r => ⟨A r, L r, C r, f r⟩), hcs, ⟨by simp; exact hl, hm, fun h => (by cases h), fun hx => ?_⟩, by simp, ?_⟩
    · have hp : 0 < len := by
        rcases Nat.eq_zero_or_pos len with h | h
        · subst h; exact absurd (by simp) hx
        · exact h
      obtain ⟨b, off, spot⟩ := a
      have h0 := (hr 0 (by omega)).1
      have hspot : spot = none := by simpa [Addr.add] using World.cell?_spot h0
      subst hspot
      refine ⟨b, off, rfl, World.block_lt_of_cell? W _ h0, fun t ht => ?_⟩
      simp only [List.length_map, List.length_range] at ht
      have := (hr t (by omega)).1
      rw [Addr.add_lit] at this
      rw [this]
      simp [Pt.val]
    · intro p hp
      obtain ⟨r, hr1, rfl⟩ := List.mem_map.1 hp
      simp at hr1
      exact hf r (by omega)

end Go.Proofs.Ytdajhdeheheccaa
