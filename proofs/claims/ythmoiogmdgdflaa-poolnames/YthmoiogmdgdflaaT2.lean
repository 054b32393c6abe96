/- What the functions of package tape do, walked: Append, Drop, Cut, Crash. -/
import Derived.Test.YthmoiogmdgdflaaT1
namespace Go.Proofs.Ythmoiogmdgdflaa
open Go.RowKit
set_option linter.unusedVariables false

theorem Off2.undrew {g j : Nat} {ao : Option Addr} {w w' : World} (h : Off2 g ao (w.drewN j) w') : Off2 g ao w w' := ⟨h.os, h.tape, h.output, h.size, h.block⟩
theorem Own8.drewN {w : World} {base : Nat} {ao : Option Addr} {n cap : Nat} {bs : List Nat} (h : Own8 w base ao n cap bs) (j : Nat) : Own8 (w.drewN j) base ao n cap bs := h.keep fun _ _ => rfl
theorem ne_own {ao ao2 : Option Addr} {g : Nat} {w : World} (ne : ∀ a, ao = some a → a.block ≠ g) (hlt : g < w.heap.size) (h : Nw w ao ao2) : ∀ a, ao2 = some a → a.block ≠ g := by
  intro a ha
  rcases h a ha with ⟨c, hc, e⟩ | hc
  · have := ne c hc; omega
  · omega
theorem nw_at {w : World} {ao ao2 : Option Addr} (h : ao2 = ao ∨ ao2 = some ⟨w.heap.size, 0, none⟩) : Nw w ao ao2 := by
  rcases h with rfl | rfl
  · exact Nw.refl _ _
  · intro a ha; cases ha; exact .inr (Nat.le_refl _)

/-- How many bytes a Cut leaves. -/
def cutN (k : Int) (n : Nat) : Nat := (min (max k 0) (n : Int)).toNat
theorem cutN_le (k : Int) (n : Nat) : cutN k n ≤ n := by unfold cutN; omega

/-- What a call leaves of a tape. -/
def Led (w w' : World) (B g : Nat) (ao : Option Addr) (n : Nat) (bs : List Nat) (s r : Nat) : Prop := ∃ ao2 cap2, Tp w' B g ao2 n cap2 bs s r ∧ Off2 g ao w w' ∧ Nw w ao ao2

set_option maxHeartbeats 800000 in
theorem cut_at (B g : Nat) (ao : Option Addr) (n cap : Nat) (bs : List Nat) (s r : Nat) (w : World) (hT : Tp w B g ao n cap bs s r) (k : Int) (L S : Nat) (T : List Nat) (hL : cutN k n = L) (hS : min s L = S) (hX : bs.take L = T) : Calls Try.prog 14 #[tp g, .int .i64 k] w fun e w' => e = .returned (.tuple #[]) ∧ Tp w' B g ao L cap T S r ∧ Off2 g ao w w' ∧ w'.heap.size = w.heap.size := by
  have h0 := hT.hd.c0
  have h1 := hT.hd.c1
  have hqf := hT.hd.fz 0
  have hqf1 := hT.hd.fz 1
  have hsl := hT.sl
  have hle := hT.le
  have hl := hT.own.len
  have hcap := hT.own.rd.rd.le
  rw [ci_length, hl] at hcap
  have hmx := hT.own.rd.rd.mx
  unfold maxLen at hmx
  have hLn := cutN_le k n
  rw [hL] at hLn
  have HF : Hid (∀ X : Int, X = (S : Int) → Tp ((w.setCell ⟨g, 0, none⟩ (.slice ao L cap)).setCell ⟨g, 1, none⟩ (.int .i64 X)) B g ao L cap T S r) := by
    intro X hX2
    subst hX2 hX
    exact Tp.put01 hT.hd (hT.own.take _ hLn) hT.bg hT.ne (by omega) (by omega) hT.rl
  have HS : Hid (min s L = S) := hS
  unfold cutN at hL
  clear hX hS
  by_cases hk0 : k < 0
  · obtain rfl : L = 0 := by omega
    clear hL
    go_enter Try.func14, Try.ntmps14
    go_wp2
    all_goals go_end0
    all_goals
      refine ⟨rfl, HF.out _ ?_, ((Off2.refl g ao w).setCell (p := ⟨g, 0, none⟩) rfl _).setCell (p := ⟨g, 1, none⟩) rfl _, by simp [World.setCell]⟩
      have := HS.out
      omega
  · obtain ⟨j, rfl⟩ : ∃ j : Nat, k = j := ⟨k.toNat, by omega⟩
    by_cases hj : j ≤ n
    · obtain rfl : L = j := by omega
      clear hL
      by_cases hs : s ≤ L
      · go_enter Try.func14, Try.ntmps14
        go_wp2
        all_goals go_end0
        all_goals
          refine ⟨rfl, HF.out _ ?_, ((Off2.refl g ao w).setCell (p := ⟨g, 0, none⟩) rfl _).setCell (p := ⟨g, 1, none⟩) rfl _, by simp [World.setCell]⟩
          have := HS.out
          omega
      · go_enter Try.func14, Try.ntmps14
        go_wp2
        all_goals go_end0
        all_goals
          refine ⟨rfl, HF.out _ ?_, ((Off2.refl g ao w).setCell (p := ⟨g, 0, none⟩) rfl _).setCell (p := ⟨g, 1, none⟩) rfl _, by simp [World.setCell]⟩
          have := HS.out
          omega
    · obtain rfl : L = n := by omega
      clear hL
      go_enter Try.func14, Try.ntmps14
      go_wp2
      all_goals go_end0
      all_goals
        refine ⟨rfl, HF.out _ ?_, ((Off2.refl g ao w).setCell (p := ⟨g, 0, none⟩) rfl _).setCell (p := ⟨g, 1, none⟩) rfl _, by simp [World.setCell]⟩
        have := HS.out
        omega

/-- What is left behind a crash. -/
def crashN (s n : Nat) (k : Int) : Nat := s + (min (max k 0) ((n : Int) - s)).toNat
theorem crashN_le (s n : Nat) (k : Int) (h : s ≤ n) : s ≤ crashN s n k ∧ crashN s n k ≤ n := by unfold crashN; omega

end Go.Proofs.Ythmoiogmdgdflaa
