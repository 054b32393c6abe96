/- What comes in as bytes, and what a burst leaves, by name. -/
import Derived.Test.YtfllkhimlambhaaCr5
namespace Go.Proofs.Ytfllkhimlambhaa
open Go.RowKit
set_option linter.unusedVariables false

theorem str_inj {xs ys : List Nat} (hx : ∀ b ∈ xs, b < 256) (hy : ∀ b ∈ ys, b < 256) (h : strOfNums (ci xs) = strOfNums (ci ys)) : xs = ys := by
  have h1 := congrArg (fun s : ByteArray => s.data.toList) h
  simp only [strOfNums, ci, List.map_map] at h1
  have h2 := congrArg (fun l : List UInt8 => l.map UInt8.toNat) h1
  simp only [List.map_map] at h2
  have e : ∀ l : List Nat, (∀ b ∈ l, b < 256) → l.map (UInt8.toNat ∘ ((fun n : Int => UInt8.ofNat n.toNat) ∘ fun b : Nat => (b : Int))) = l := by
    intro l hl
    conv => rhs; rw [← List.map_id l]
    apply List.map_congr_left
    intro b hb
    have := hl b hb
    simp
    omega
  rwa [e xs hx, e ys hy] at h2

theorem str_ne {xs ys : List Nat} (hx : ∀ b ∈ xs, b < 256) (hy : ∀ b ∈ ys, b < 256) (h : xs ≠ ys) : ((strOfNums (ci xs)).toList == (strOfNums (ci ys)).toList) = false := by
  apply Bool.eq_false_iff.2
  intro e
  have e2 := eq_of_beq e
  rw [ByteArray.toList_eq, ByteArray.toList_eq] at e2
  exact h (str_inj hx hy (ByteArray.ext (Array.toList_inj.1 e2)))

/-- A slice of bytes that came in. -/
theorem rd8_of {w : World} {ao : Option Addr} {n cap : Nat} {zs : List Int} (r : RdI w .u8 ao cap zs) (l : zs.length = n) (b : ∀ z ∈ zs, (Lit.int .u8 z).wf = true) : ∃ bs, Rd8 w ao n cap bs := by
  refine ⟨zs.map Int.toNat, ?_, by simpa using l, ?_⟩
  · have e : ci (zs.map Int.toNat) = zs := by
      simp only [ci, List.map_map]
      conv => rhs; rw [← List.map_id zs]
      apply List.map_congr_left
      intro z hz
      have := b z hz
      simp [Lit.wf, IntKind.min, IntKind.max, IntKind.bits, IntKind.signed] at this
      simp
      omega
    rwa [e]
  · intro x hx
    obtain ⟨z, hz, rfl⟩ := List.mem_map.1 hx
    have := b z hz
    simp [Lit.wf, IntKind.min, IntKind.max, IntKind.bits, IntKind.signed] at this
    omega

theorem u16_of {a : Int} (h : (Lit.int .u16 a).wf = true) : ∃ m : Nat, a = (m : Int) ∧ m < 65536 := by
  simp [Lit.wf, IntKind.min, IntKind.max, IntKind.bits, IntKind.signed] at h
  exact ⟨a.toNat, by omega, by omega⟩

theorem i64_of {a : Int} (h : (Lit.int .i64 a).wf = true) : -9223372036854775808 ≤ a ∧ a ≤ 9223372036854775807 := by
  simp [Lit.wf, IntKind.min, IntKind.max, IntKind.bits, IntKind.signed] at h
  omega

theorem burst_to (ao : Option Addr) (n cap : Nat) (bs xs : List Nat) (p : Int) (m : Nat) (w : World) (h : Rd8 w ao n cap bs) (hx : brN bs p m (L16 m) = xs) (hn : n ≤ 140737488355328) (hm : m < 65536) (hp : -9223372036854775808 ≤ p) (hp2 : p ≤ 9223372036854775807) :
    Calls Try.prog 29 #[.slice ao n cap, .int .i64 p, .int .u16 (m : Int)] w fun e w' => ∃ ao' cap', e = .returned (.slice ao' n cap') ∧ Own8 w' w.heap.size ao' n cap' xs ∧ Below w.heap.size w w' := by
  subst hx
  exact burst_any ao n cap bs p m w h hn hm hp hp2

end Go.Proofs.Ytfllkhimlambhaa
