/- What the functions of package tape do, walked: Append, Drop, Cut, Crash. -/
import Derived.Test.YthckdfggnmoaeaaT1
namespace Go.Proofs.Ythckdfggnmoaeaa
open Go.RowKit
set_option linter.unusedVariables false

theorem Off2.undrew {g j : Nat} {ao : Option Addr} {w w' : World} (h : Off2 g ao (w.drewN j) w') : Off2 g ao w w' := ⟨h.os, h.tape, h.output, h.size, h.block⟩
theorem Own8.drewN {w : World} {base : Nat} {ao : Option Addr} {n cap : Nat} {bs : List Nat} (h : Own8 w base ao n cap bs) (j : Nat) : Own8 (w.drewN j) base ao n cap bs := h.keep fun _ _ => rfl
theorem ne_own {ao ao2 : Option Addr} {g : Nat} {w : World} (ne : ∀ a, ao = some a → a.block ≠ g) (hlt : g < w.heap.size) (h : Nw w ao ao2) : ∀ a, ao2 = some a → a.block ≠ g := by
  intro a ha
  rcases h a ha with ⟨c, hc, e⟩ | hc
  · have := ne c hc; omega
  · omega
theorem nw_at {w : World} {ao ao2 : Option Addr} (h : ao2 = ao ∨ ao2 = some ⟨w.heap.size, 0, none⟩) : Nw w ao ao2 := by
  rcases h with rfl | rfl
  · exact Nw.refl _ _
  · intro a ha; cases ha; exact .inr (Nat.le_refl _)

/-- How many bytes a Cut leaves. -/
def cutN (k : Int) (n : Nat) : Nat := (min (max k 0) (n : Int)).toNat
theorem cutN_le (k : Int) (n : Nat) : cutN k n ≤ n := by unfold cutN; omega

/-- What a call leaves of a tape. -/
def Led (w w' : World) (B g : Nat) (ao : Option Addr) (n : Nat) (bs : List Nat) (s r : Nat) : Prop := ∃ ao2 cap2, Tp w' B g ao2 n cap2 bs s r ∧ Off2 g ao w w' ∧ Nw w ao ao2

set_option maxHeartbeats 800000 in
theorem append_ok (B g : Nat) (ao : Option Addr) (n cap : Nat) (bs : List Nat) (s r : Nat) (w : World) (hT : Tp w B g ao n cap bs s r) (ax : Option Addr) (m cx : Nat) (ys : List Nat) (hr : Rd8 w ax m cx ys) (hfit : m = 0 ∨ n + m ≤ r) :
    Calls Try.prog 57 #[tp g, .slice ax m cx] w fun e w' => e = .returned (.int .i64 0) ∧ Led w w' B g ao (n + m) (bs ++ ys) s r := by
  have h0 := hT.hd.c0
  have h2 := hT.hd.c2
  have hle := hT.le
  have hrl := hT.rl
  have hbg := hT.bg
  have hlt := hT.hd.lt
  have hl := hT.own.len
  have hly := hr.len
  have fin : ∀ (j : Nat) (ao2 : Option Addr) (cap2 : Nat) (w1 : World), OwnI w1 B 5 .u8 ao2 cap2 (ci bs ++ ci ys) → (w.drewN j).grownBy w1 (Value.ownBlock (.slice ao n cap)) → (ao2 = ao ∨ ao2 = some ⟨(w.drewN j).heap.size, 0, none⟩) →
      Hd w1 g (.slice ao n cap) s r ∧ Tp (w1.setCell ⟨g, 0, none⟩ (.slice ao2 (n + m) cap2)) B g ao2 (n + m) cap2 (bs ++ ys) s r ∧ Off2 g ao w (w1.setCell ⟨g, 0, none⟩ (.slice ao2 (n + m) cap2)) ∧ Nw w ao ao2 := by
    intro j ao2 cap2 w1 ho hG hW
    have hO : Off2 g ao w w1 := (Off2.of_grown g hG).undrew
    have hN : Nw w ao ao2 := nw_at hW
    have hH : Hd w1 g (.slice ao n cap) s r := hT.hd.keep (hG.block g hlt (by
      cases ao with
      | none => simp [Value.ownBlock]
      | some a => have := hT.ne a rfl; simp [Value.ownBlock]; omega)) hG.size
    refine ⟨hH, Tp.put0 hH ⟨by rw [ci_append]; exact ho, by simp; omega, ?_⟩ hT.bg (ne_own hT.ne hlt hN) (by omega) (by have := hT.sl; omega) hT.rl, hO.setCell rfl _, hN⟩
    intro b hb
    rcases List.mem_append.1 hb with hb | hb
    · exact hT.own.byte b hb
    · exact hr.byte b hb
  have HF : Hid (∀ (j : Nat) (ao2 : Option Addr) (cap2 : Nat) (w1 : World), OwnI w1 B 5 .u8 ao2 cap2 (ci bs ++ ci ys) → (w.drewN j).grownBy w1 (Value.ownBlock (.slice ao n cap)) → (ao2 = ao ∨ ao2 = some ⟨(w.drewN j).heap.size, 0, none⟩) →
      Hd w1 g (.slice ao n cap) s r ∧ Tp (w1.setCell ⟨g, 0, none⟩ (.slice ao2 (n + m) cap2)) B g ao2 (n + m) cap2 (bs ++ ys) s r ∧ Off2 g ao w (w1.setCell ⟨g, 0, none⟩ (.slice ao2 (n + m) cap2)) ∧ Nw w ao ao2) := fin
  clear fin
  have hw1 : IntKind.i64.wrap ((r : Int) - (n : Int)) = (r : Int) - (n : Int) := by rw [IntKind.wrap_i64]; omega
  by_cases hm : m = 0
  · subst hm
    go_enter Try.func57, Try.ntmps57
    go_wp2
    go_quiet (fail)
    go_wp2_with (at_builtin; refine wpList_append_at _ rfl _ _ 56 rfl B 5 .u8 (.int .u8 0) 1 Try.underlying56 info5 rfl rfl rfl (hT.own.drewN _).own (hr.heap (w' := w.drewN _) rfl).rd (by rw [ci_length]; exact hl) (by rw [ci_length]; exact hly) (by omega) (by unfold maxLen; omega) (by simp; omega) ?_; intro ao2 cap2 w1 ho1 hG1 hW1; obtain ⟨hH1, hT1, hO, hN⟩ := HF.out _ ao2 cap2 w1 ho1 hG1 hW1; have hq0 := hH1.c0; have hqf := hH1.fz 0)
    go_ret
    exact ⟨rfl, ao2, cap2, hT1, hO, hN⟩
  · have hp : 0 < m := by omega
    have hf : n + m ≤ r := by omega
    have hd1 : decide ((m : Int) > 0) = true := by simp; omega
    have hd2 : decide ((m : Int) > (r : Int) - (n : Int)) = false := by simp; omega
    clear hfit
    go_enter Try.func57, Try.ntmps57
    go_wp2
    go_quiet (fail)
    go_wp2_with (at_builtin; refine wpList_append_at _ rfl _ _ 56 rfl B 5 .u8 (.int .u8 0) 1 Try.underlying56 info5 rfl rfl rfl (hT.own.drewN _).own (hr.heap (w' := w.drewN _) rfl).rd (by rw [ci_length]; exact hl) (by rw [ci_length]; exact hly) (by omega) (by unfold maxLen; omega) (by simp; omega) ?_; intro ao2 cap2 w1 ho1 hG1 hW1; obtain ⟨hH1, hT1, hO, hN⟩ := HF.out _ ao2 cap2 w1 ho1 hG1 hW1; have hq0 := hH1.c0; have hqf := hH1.fz 0)
    go_ret
    exact ⟨rfl, ao2, cap2, hT1, hO, hN⟩

set_option maxHeartbeats 800000 in
theorem append_bad (B g : Nat) (ao : Option Addr) (n cap : Nat) (bs : List Nat) (s r : Nat) (w : World) (hT : Tp w B g ao n cap bs s r) (ax : Option Addr) (m cx : Nat) (hm : m ≠ 0) (hfit : ¬ n + m ≤ r) (hx : m ≤ 140737488355328) :
    Calls Try.prog 57 #[tp g, .slice ax m cx] w fun e w' => e = .returned (.int .i64 61) ∧ Below w.heap.size w w' := by
  have h0 := hT.hd.c0
  have h2 := hT.hd.c2
  have hle := hT.le
  have hrl := hT.rl
  have hw1 : IntKind.i64.wrap ((r : Int) - (n : Int)) = (r : Int) - (n : Int) := by rw [IntKind.wrap_i64]; omega
  have hd1 : decide ((m : Int) > 0) = true := by simp; omega
  have hd2 : decide ((m : Int) > (r : Int) - (n : Int)) = true := by simp; omega
  have hp : 0 < m := by omega
  go_enter Try.func57, Try.ntmps57
  go_wp2
  go_quiet (fail)
  go_wp2
  go_ret
  exact ⟨rfl, ⟨rfl, rfl, rfl, Nat.le_refl _, fun _ _ => rfl⟩⟩

set_option maxHeartbeats 800000 in
theorem cut_at (B g : Nat) (ao : Option Addr) (n cap : Nat) (bs : List Nat) (s r : Nat) (w : World) (hT : Tp w B g ao n cap bs s r) (k : Int) (L S : Nat) (T : List Nat) (hL : cutN k n = L) (hS : min s L = S) (hX : bs.take L = T) : Calls Try.prog 31 #[tp g, .int .i64 k] w fun e w' => e = .returned (.tuple #[]) ∧ Tp w' B g ao L cap T S r ∧ Off2 g ao w w' ∧ w'.heap.size = w.heap.size := by
  have h0 := hT.hd.c0
  have h1 := hT.hd.c1
  have hqf := hT.hd.fz 0
  have hqf1 := hT.hd.fz 1
  have hsl := hT.sl
  have hle := hT.le
  have hl := hT.own.len
  have hcap := hT.own.rd.rd.le
  rw [ci_length, hl] at hcap
  have hmx := hT.own.rd.rd.mx
  unfold maxLen at hmx
  have hLn := cutN_le k n
  rw [hL] at hLn
  have HF : Hid (∀ X : Int, X = (S : Int) → Tp ((w.setCell ⟨g, 0, none⟩ (.slice ao L cap)).setCell ⟨g, 1, none⟩ (.int .i64 X)) B g ao L cap T S r) := by
    intro X hX2
    subst hX2 hX
    exact Tp.put01 hT.hd (hT.own.take _ hLn) hT.bg hT.ne (by omega) (by omega) hT.rl
  have HS : Hid (min s L = S) := hS
  unfold cutN at hL
  clear hX hS
  by_cases hk0 : k < 0
  · obtain rfl : L = 0 := by omega
    clear hL
    go_enter Try.func31, Try.ntmps31
    go_wp2
    all_goals go_end0
    all_goals
      refine ⟨rfl, HF.out _ ?_, ((Off2.refl g ao w).setCell (p := ⟨g, 0, none⟩) rfl _).setCell (p := ⟨g, 1, none⟩) rfl _, by simp [World.setCell]⟩
      have := HS.out
      omega
  · obtain ⟨j, rfl⟩ : ∃ j : Nat, k = j := ⟨k.toNat, by omega⟩
    by_cases hj : j ≤ n
    · obtain rfl : L = j := by omega
      clear hL
      by_cases hs : s ≤ L
      · go_enter Try.func31, Try.ntmps31
        go_wp2
        all_goals go_end0
        all_goals
          refine ⟨rfl, HF.out _ ?_, ((Off2.refl g ao w).setCell (p := ⟨g, 0, none⟩) rfl _).setCell (p := ⟨g, 1, none⟩) rfl _, by simp [World.setCell]⟩
          have := HS.out
          omega
      · go_enter Try.func31, Try.ntmps31
        go_wp2
        all_goals go_end0
        all_goals
          refine ⟨rfl, HF.out _ ?_, ((Off2.refl g ao w).setCell (p := ⟨g, 0, none⟩) rfl _).setCell (p := ⟨g, 1, none⟩) rfl _, by simp [World.setCell]⟩
          have := HS.out
          omega
    · obtain rfl : L = n := by omega
      clear hL
      go_enter Try.func31, Try.ntmps31
      go_wp2
      all_goals go_end0
      all_goals
        refine ⟨rfl, HF.out _ ?_, ((Off2.refl g ao w).setCell (p := ⟨g, 0, none⟩) rfl _).setCell (p := ⟨g, 1, none⟩) rfl _, by simp [World.setCell]⟩
        have := HS.out
        omega

/-- What is left behind a crash. -/
def crashN (s n : Nat) (k : Int) : Nat := s + (min (max k 0) ((n : Int) - s)).toNat
theorem crashN_le (s n : Nat) (k : Int) (h : s ≤ n) : s ≤ crashN s n k ∧ crashN s n k ≤ n := by unfold crashN; omega

set_option maxHeartbeats 800000 in
theorem crash_at (B g : Nat) (ao : Option Addr) (n cap : Nat) (bs : List Nat) (s r : Nat) (w : World) (hT : Tp w B g ao n cap bs s r) (k : Int) (L : Nat) (T : List Nat) (hL : crashN s n k = L) (hX : bs.take L = T) : Calls Try.prog 26 #[tp g, .int .i64 k] w fun e w' => e = .returned (.tuple #[]) ∧ Tp w' B g ao L cap T L r ∧ Off2 g ao w w' ∧ w'.heap.size = w.heap.size := by
  have h0 := hT.hd.c0
  have h1 := hT.hd.c1
  have hsl := hT.sl
  have hle := hT.le
  have hLn := crashN_le s n k hsl
  rw [hL] at hLn
  have HC : Hid (∀ (j : Nat) (W : World) (Z : Int), W = w.drewN j → Z = (L : Int) → Calls Try.prog 31 #[tp g, .int .i64 Z] W fun e w' => e = .returned (.tuple #[]) ∧ Tp w' B g ao L cap T s r ∧ Off2 g ao W w' ∧ w'.heap.size = W.heap.size) := by
    intro j W Z hW hZ
    subst hW hZ
    exact cut_at B g ao n cap bs s r (w.drewN j) (hT.keep (Nat.le_refl _) rfl fun _ _ => rfl) L L s T (by unfold cutN; omega) (by omega) hX
  unfold crashN at hL
  clear hX
  have hw1 : IntKind.i64.wrap ((n : Int) - (s : Int)) = (n : Int) - (s : Int) := by rw [IntKind.wrap_i64]; omega
  by_cases hk0 : k < 0
  · obtain rfl : L = s := by omega
    clear hL
    go_enter Try.func26, Try.ntmps26
    go_wp2
    go_quiet (fail)
    go_wp2_with (first
      | (go_at_call 31; refine (HC.out _ _ _ rfl ?_).mono ?_; omega; rintro e w1 ⟨rfl, hT1, hO1, hS1⟩)
      | (go_at_call 43; refine (sync_any _ _ _ _ _ _ _ _ _ hT1).mono ?_; rintro e w2 ⟨rfl, hT2, hO2, hS2⟩))
    go_end0
    exact ⟨rfl, hT2, hO1.undrew.trans hO2 (Nw.refl _ _), hS2.trans hS1⟩
  · obtain ⟨j, rfl⟩ : ∃ j : Nat, k = j := ⟨k.toNat, by omega⟩
    by_cases hj : s + j ≤ n
    · obtain rfl : L = s + j := by omega
      clear hL
      go_enter Try.func26, Try.ntmps26
      go_wp2
      go_quiet (fail)
      go_wp2_with (first
        | (go_at_call 31; refine (HC.out _ _ _ rfl ?_).mono ?_; omega; rintro e w1 ⟨rfl, hT1, hO1, hS1⟩)
        | (go_at_call 43; refine (sync_any _ _ _ _ _ _ _ _ _ hT1).mono ?_; rintro e w2 ⟨rfl, hT2, hO2, hS2⟩))
      go_end0
      exact ⟨rfl, hT2, hO1.undrew.trans hO2 (Nw.refl _ _), hS2.trans hS1⟩
    · obtain rfl : L = n := by omega
      clear hL
      go_enter Try.func26, Try.ntmps26
      go_wp2
      go_quiet (fail)
      go_wp2_with (first
        | (go_at_call 31; refine (HC.out _ _ _ rfl ?_).mono ?_; omega; rintro e w1 ⟨rfl, hT1, hO1, hS1⟩)
        | (go_at_call 43; refine (sync_any _ _ _ _ _ _ _ _ _ hT1).mono ?_; rintro e w2 ⟨rfl, hT2, hO2, hS2⟩))
      go_end0
      exact ⟨rfl, hT2, hO1.undrew.trans hO2 (Nw.refl _ _), hS2.trans hS1⟩

end Go.Proofs.Ythckdfggnmoaeaa
