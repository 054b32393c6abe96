/- Push and Got of a link and of the document's, each as one contract with what comes of it under names. -/
import Derived.Test.YtgdlejeopdipiaaRn
namespace Go.Proofs.Ytgdlejeopdipiaa
open Go.RowKit
set_option linter.unusedVariables false

/-- What Push answers. -/
def pshE (m n : Nat) : Int := if 700 < m then 101 else if n = 8 then 111 else 0
def pshN (m n x : Nat) : Nat := if pshE m n = 0 then x + 1 else x
def pshL (m n : Nat) (L : List (List Nat)) (bs : List Nat) : List (List Nat) := if pshE m n = 0 then L ++ [bs] else L

theorem pshE_ok {m n : Nat} (h1 : ¬ 700 < m) (h2 : ¬ n = 8) : pshE m n = 0 := by simp [pshE, h1, h2]

theorem push_any (w : World) (B g : Nat) (ao : Option Addr) (n cap : Nat) (V : Nat → Prop) (I : LkI) (L : List (List Nat)) (s h : Nat) (H : Lk w B g ao n cap V I L s h) (ax : Option Addr) (m cx : Nat) (bs : List Nat) (hr : Rd8 w ax m cx bs) (hs : s < 16777215) (hV : ∀ k, w.heap.size ≤ k → V k)
    (E : Int) (n2 s2 : Nat) (L2 : List (List Nat)) (hE : pshE m n = E) (hn2 : pshN m n n = n2) (hs2 : pshN m n s = s2) (hL2 : pshL m n L bs = L2) :
    Calls Try.prog 10 #[lp g, .slice ax m cx] w fun e w' => e = .returned (.int .i64 E) ∧ Led w w' B g ao n2 V I L2 s2 h := by
  subst hE hn2 hs2 hL2
  by_cases h1 : 700 < m
  · refine (push_big g ax m cx w h1).mono ?_
    rintro e w' ⟨rfl, rfl⟩
    have e1 : pshE m n = 101 := by simp [pshE, h1]
    have e2 : ¬ (pshE m n = 0) := by rw [e1]; decide
    refine ⟨by rw [e1], ao, cap, ?_, Off2.refl _ _ _, Nw.refl _ _⟩
    simp only [pshN, pshL, e2, if_false]
    exact H
  · by_cases h2 : n = 8
    · subst h2
      refine (push_full w B g ao cap V I L s h H ax m cx (by omega) hs).mono ?_
      rintro e w' ⟨rfl, rfl⟩
      have e1 : pshE m 8 = 111 := by simp [pshE, h1]
      have e2 : ¬ (pshE m 8 = 0) := by rw [e1]; decide
      refine ⟨by rw [e1], ao, cap, ?_, Off2.refl _ _ _, Nw.refl _ _⟩
      simp only [pshN, pshL, e2, if_false]
      exact H
    · have hle := H.le
      refine (push_ok w B g ao n cap V I L s h H ax m cx bs hr (by omega) (by omega) hs hV).mono ?_
      rintro e w' ⟨rfl, hl⟩
      have e1 := pshE_ok h1 h2
      refine ⟨by rw [e1], ?_⟩
      simp only [pshN, pshL, e1, if_true]
      exact hl

/-- The list's place is the elder one's, or new. -/
def Nx (w : World) (ao ao' : Option Addr) : Prop := ∀ a, ao' = some a → ao = some a ∨ w.heap.size ≤ a.block

theorem rpush_any (w : World) (B : Nat) (V : Nat → Prop) (I : LkI) (ao : Option Addr) (N cap kn h : Nat) (LL : List (List Nat)) (ax : Option Addr) (m cx : Nat) (bs : List Nat) (H : RRow w B ao cap V LL) (hl : LL.length = N) (hr : Rd8 w ax m cx bs) (hN : N ≤ 1000) (hk : kn ≤ N) (hB : B ≤ w.heap.size) (hV : ∀ k, w.heap.size ≤ k → V k) (n : Nat) (hn : n = N - kn) (hn8 : n ≤ 8)
    (E : Int) (N2 : Nat) (L2 : List (List Nat)) (hE : pshE m n = E) (hN2 : pshN m n N = N2) (hL2 : pshL m n LL bs = L2) :
    Calls Try.prog 13 #[rfV I (.slice ao N cap) kn h, .slice ax m cx] w fun e w' => ∃ a3 c3, e = .returned (.tuple #[rfV I (.slice a3 N2 c3) kn h, .int .i64 E]) ∧ RRow w' B a3 c3 V L2 ∧ Nx w ao a3 ∧ Below w.heap.size w w' := by
  subst hE hN2 hL2
  by_cases h1 : 700 < m
  · refine (rpush_big I ao N cap kn h ax m cx w h1).mono ?_
    rintro e w' ⟨rfl, hb⟩
    have e1 : pshE m n = 101 := by simp [pshE, h1]
    have e2 : ¬ (pshE m n = 0) := by rw [e1]; decide
    refine ⟨ao, cap, ?_, ?_, fun a ha => .inl ha, hb⟩
    · simp only [pshN, e1]
      rfl
    · simp only [pshL, e2, if_false]
      exact H.below hb
  · by_cases h2 : n = 8
    · refine (rpush_full I ao N cap kn h ax m cx w (by omega) (by omega) (by omega)).mono ?_
      rintro e w' ⟨rfl, hb⟩
      have e1 : pshE m n = 111 := by simp [pshE, h1, h2]
      have e2 : ¬ (pshE m n = 0) := by rw [e1]; decide
      refine ⟨ao, cap, ?_, ?_, fun a ha => .inl ha, hb⟩
      · simp only [pshN, e1]
        rfl
      · simp only [pshL, e2, if_false]
        exact H.below hb
    · refine (rpush_ok w B V I ao N cap kn h LL ax m cx bs H hl hr (by omega) hN (by omega) hk hV).mono ?_
      rintro e w' ⟨a3, c3, rfl, hR, hb⟩
      have e1 := pshE_ok h1 h2
      refine ⟨a3, c3, ?_, ?_, fun a ha => .inr (hR.ge a ha).1, hb⟩
      · simp only [pshN, e1, if_true]
      · simp only [pshL, e1, if_true]
        exact hR.mono hB fun _ _ h => h

theorem psh_len {m n : Nat} {LL : List (List Nat)} {bs : List Nat} {N : Nat} (h : LL.length = N) : (pshL m n LL bs).length = pshN m n N := by
  unfold pshL pshN
  split <;> simp [h]
theorem psh_drop {m n : Nat} {LL : List (List Nat)} {bs : List Nat} {N kn : Nat} (h : LL.length = N) (hk : kn ≤ N) : pshL m n (LL.drop kn) bs = (pshL m n LL bs).drop kn := by
  unfold pshL
  split
  · rw [List.drop_append_of_le_length (by omega)]
  · rfl
theorem psh_le (m n N : Nat) : N ≤ pshN m n N ∧ pshN m n N ≤ N + 1 := by unfold pshN; split <;> omega

/-- How many bodies the document knows to have come behind a packet. -/
def gotK (I : LkI) (N kn : Nat) (P : PkG) : Nat := if fitB I N P then knB kn P.ak else kn
def gotU (b : Bool) (u : Value) : Value := if b then u else .slice none 0 0

theorem rgot_any (w : World) (I : LkI) (ao : Option Addr) (N cap kn h : Nat) (P : PkG) (u : Value) (hw : PkWf P)
    (b : Bool) (k2 h2 : Nat) (hb : gotB I N h P = b) (hk2 : gotK I N kn P = k2) (hh2 : gotH I N h P = h2) :
    Calls Try.prog 15 #[rfV I (.slice ao N cap) kn h, pkV P u] w fun e w' => e = .returned (.tuple #[rfV I (.slice ao N cap) k2 h2, gotU b u, .bool b]) ∧ Below w.heap.size w w' := by
  subst hb hk2 hh2
  cases hf : fitB I N P
  · refine (rgot_no w I ao N cap kn h P u hf).mono ?_
    rintro e w' ⟨rfl, h1⟩
    have e1 : gotB I N h P = false := by simp [gotB, hf]
    refine ⟨?_, h1⟩
    simp only [gotH, gotK, gotU, e1, hf]
    rfl
  · obtain ⟨k1, k2⟩ := rgot_fit w I ao N cap kn h P u hf hw.sq0 hw.sq1 _ rfl
    by_cases hq : P.sq = (h : Int) + 1
    · refine (k1 hq).mono ?_
      rintro e w' ⟨rfl, h1⟩
      have e1 : gotB I N h P = true := by simp [gotB, hf, hq]
      refine ⟨?_, h1⟩
      simp only [gotH, gotK, gotU, e1, hf]
      rfl
    · refine (k2 hq).mono ?_
      rintro e w' ⟨rfl, h1⟩
      have e1 : gotB I N h P = false := by simp [gotB, hf, hq]
      refine ⟨?_, h1⟩
      simp only [gotH, gotK, gotU, e1, hf]
      rfl

theorem got_le (I : LkI) (N kn : Nat) (P : PkG) (hk : kn ≤ N) : kn ≤ gotK I N kn P ∧ gotK I N kn P ≤ N := by
  unfold gotK
  split
  · rename_i hf
    simp only [fitB, Bool.and_eq_true, decide_eq_true_eq] at hf
    have := hf.2
    unfold knB
    split <;> omega
  · omega
/-- What is under way behind a packet is the document's. -/
theorem got_drop (I : LkI) (LL : List (List Nat)) (n N kn : Nat) (P : PkG) (hk : kn ≤ N) (hn : n = N - kn) : (LL.drop kn).drop (gotC I n N P) = LL.drop (gotK I N kn P) ∧ n - gotC I n N P = N - gotK I N kn P := by
  have e : kn + gotC I n N P = gotK I N kn P := by
    unfold gotC gotK
    split
    · unfold came knB
      subst hn
      split <;> omega
    · rfl
  rw [List.drop_drop, e]
  refine ⟨rfl, ?_⟩
  omega
theorem gotH_le (I : LkI) (s h : Nat) (P : PkG) : gotH I s h P ≤ h + 1 := by unfold gotH; split <;> omega

end Go.Proofs.Ytgdlejeopdipiaa
