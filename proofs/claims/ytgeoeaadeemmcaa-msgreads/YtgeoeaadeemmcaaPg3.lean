/- What Bytes of package page does, walked. -/
import Derived.Test.YtgeoeaadeemmcaaCr3
import Derived.Laws.Rows
import Derived.Deep.RegionHeld
import Derived.Deep.RegionHeldLaw
import Derived.Handy
namespace Go.Proofs.Ytgeoeaadeemmcaa
open Go.RowKit
set_option linter.unusedVariables false

/-- Some numbers as bytes. -/
def nb (zs : List Int) : List Nat := zs.map Int.toNat

theorem nb_length (zs : List Int) : (nb zs).length = zs.length := by simp [nb]

theorem ci_nb {zs : List Int} (h : ∀ z ∈ zs, 0 ≤ z ∧ z < 256) : ci (nb zs) = zs := by
  simp only [ci, nb, List.map_map]
  conv => rhs; rw [← List.map_id zs]
  apply List.map_congr_left
  intro z hz
  have := h z hz
  simp
  omega

theorem nb_ci (bs : List Nat) : nb (ci bs) = bs := by simp [nb, ci, Function.comp_def]

theorem nb_bytes {zs : List Int} (h : ∀ z ∈ zs, 0 ≤ z ∧ z < 256) : ∀ b ∈ nb zs, b < 256 := by
  intro b hb
  obtain ⟨z, hz, rfl⟩ := List.mem_map.1 hb
  have := h z hz
  omega

theorem ci_bd {bs : List Nat} (h : ∀ b ∈ bs, b < 256) : ∀ z ∈ ci bs, 0 ≤ z ∧ z < 256 := by
  intro z hz
  obtain ⟨b, hb, rfl⟩ := List.mem_map.1 hz
  have := h b hb
  omega

theorem rd8_nb {w : World} {ao : Option Addr} {n cap : Nat} {zs : List Int} (r : RdI w .u8 ao cap zs) (l : zs.length = n) (h : ∀ z ∈ zs, 0 ≤ z ∧ z < 256) : Rd8 w ao n cap (nb zs) :=
  ⟨by rw [ci_nb h]; exact r, by rw [nb_length]; exact l, nb_bytes h⟩

/-- The bytes of some objects, one behind the other. -/
def objsZ (cs : List (Nat × Nat)) : List Int := cs.flatMap fun c => valN c.1 c.2

theorem objsZ_length (cs : List (Nat × Nat)) : (objsZ cs).length = 16 * cs.length := by
  induction cs with
  | nil => rfl
  | cons c cs ih => simp only [objsZ, List.flatMap_cons, List.length_append, valN_length, List.length_cons] at *; omega

/-- Both parts are words. -/
def wordB (c : Nat × Nat) : Prop := c.1 < 18446744073709551616 ∧ c.2 < 18446744073709551616

end Go.Proofs.Ytgeoeaadeemmcaa
