/- Each once, in order: the mathematics of two ends and what is on its way between them. No walk. -/
import Derived.Test.YtgdlejeopdipiaaAw
namespace Go.Proofs.Ytgdlejeopdipiaa
open Go.RowKit
set_option linter.unusedVariables false

/-- One direction: what was handed in, how much of it is under way, how much was sent; how much the other end has heard. -/
structure Dir (In : List (List Nat)) (n s hh : Nat) (L : List (List Nat)) : Prop where
  len : In.length = s
  und : L = In.drop (s - n)
  le : n ≤ s
  kn : s - n ≤ hh
  hs : hh ≤ s

theorem Dir.new : Dir [] 0 0 0 [] := ⟨rfl, rfl, Nat.le_refl _, Nat.le_refl _, Nat.le_refl _⟩
theorem Dir.push {In : List (List Nat)} {n s hh : Nat} {L : List (List Nat)} (h : Dir In n s hh L) (bs : List Nat) : Dir (In ++ [bs]) (n + 1) (s + 1) hh (L ++ [bs]) := by
  have h1 := h.len
  have h2 := h.le
  have h3 := h.kn
  have h4 := h.hs
  refine ⟨by simp [h1], ?_, by omega, by omega, by omega⟩
  rw [h.und, show s + 1 - (n + 1) = s - n by omega, List.drop_append_of_le_length (by omega)]
/-- What is known is let go. -/
theorem Dir.known {In : List (List Nat)} {n s hh : Nat} {L : List (List Nat)} (h : Dir In n s hh L) {ak : Nat} (ha : ak ≤ hh) : Dir In (n - came n s (ak : Int)) s hh (L.drop (came n s (ak : Int))) := by
  have h1 := h.len
  have h2 := h.le
  have h3 := h.kn
  have h4 := h.hs
  have hc : came n s (ak : Int) = max ak (s - n) - (s - n) := by unfold came; omega
  rw [hc]
  refine ⟨h1, ?_, by omega, by omega, h4⟩
  rw [h.und, List.drop_drop]
  congr 1
  omega
theorem Dir.heard {In : List (List Nat)} {n s hh : Nat} {L : List (List Nat)} (h : Dir In n s hh L) {b : List Nat} (hb : In[hh]? = some b) : Dir In n s (hh + 1) L ∧ In.take (hh + 1) = In.take hh ++ [b] := by
  have h1 := h.len
  obtain ⟨hlt, _⟩ := List.getElem?_eq_some_iff.1 hb
  exact ⟨⟨h1, h.und, h.le, by have := h.kn; omega, by omega⟩, by rw [List.take_add_one, hb]; rfl⟩

/-- A packet that one end has sent: what it says that it heard is no more than it has heard, its number and body are of what was handed in. -/
def PkOk (I : LkI) (In : List (List Nat)) (h : Nat) (p : PkG) : Prop := ∃ (ak : Nat) (sq : Int) (b : List Nat), p = mkPk I ak sq b ∧ ak ≤ h ∧ b.length ≤ 700 ∧ (sq = 0 ∨ ∃ i : Nat, sq = (i : Int) + 1 ∧ In[i]? = some b)

theorem PkOk.grow {I : LkI} {In : List (List Nat)} {h h' : Nat} {p : PkG} (H : PkOk I In h p) (T : List (List Nat)) (hh : h ≤ h') : PkOk I (In ++ T) h' p := by
  obtain ⟨ak, sq, b, e, h1, h0, h2⟩ := H
  refine ⟨ak, sq, b, e, by omega, h0, h2.imp id ?_⟩
  rintro ⟨i, e1, e2⟩
  exact ⟨i, e1, by rw [List.getElem?_append_left (List.getElem?_eq_some_iff.1 e2).1]; exact e2⟩
theorem PkOk.later {I : LkI} {In : List (List Nat)} {h h' : Nat} {p : PkG} (H : PkOk I In h p) (hh : h ≤ h') : PkOk I In h' p := by
  have := H.grow [] hh
  rwa [List.append_nil] at this

theorem pks_ok {I : LkI} {In : List (List Nat)} {n s hh h : Nat} {L : List (List Nat)} (D : Dir In n s hh L) (hsz : ∀ b ∈ L, b.length ≤ 700) {p : PkG} (hp : p ∈ pksOf I L s h) : PkOk I In h p := by
  have h1 := D.len
  have h2 := D.le
  have hl : L.length = n := by rw [D.und]; simp; omega
  unfold pksOf at hp
  split at hp
  · simp at hp
    exact ⟨h, 0, [], hp, Nat.le_refl _, by simp, .inl rfl⟩
  · obtain ⟨j, hj⟩ := List.mem_iff_getElem?.1 hp
    have hjl : j < L.length := by
      have := (List.getElem?_eq_some_iff.1 hj).1
      rwa [pksFrom_length] at this
    rw [pksFrom_get I h L _ j hjl] at hj
    refine ⟨h, _, L[j], (Option.some.inj hj).symm, Nat.le_refl _, hsz _ (List.getElem_mem _), .inr ⟨s - n + j, ?_, ?_⟩⟩
    · rw [hl]; omega
    · have h3 : L[j]? = some L[j] := List.getElem?_eq_getElem hjl
      rw [← h3]
      conv => rhs; rw [D.und]
      rw [List.getElem?_drop]

/-- What an end makes of a packet of the other end. -/
theorem got_ok {P : PkG} {b0 b1 : Bool} (hb : b0 ≠ b1) {InR : List (List Nat)} {n s hh : Nat} {L : List (List Nat)} (D : Dir InR n s hh L) {InS : List (List Nat)} {p : PkG} (H : PkOk (idI P b0) InS hh p) {nS sS hR : Nat} {LS : List (List Nat)} (DS : Dir InS nS sS hR LS) :
    Dir InR (n - gotC (idI P b1) n s p) s hh (L.drop (gotC (idI P b1) n s p)) ∧ Dir InS nS sS (gotH (idI P b1) s hR p) LS ∧
      (gotB (idI P b1) s hR p = true → InS.take (gotH (idI P b1) s hR p) = InS.take hR ++ [gotX (idI P b1) s hR p]) ∧ (gotB (idI P b1) s hR p = false → gotH (idI P b1) s hR p = hR) := by
  obtain ⟨ak, sq, b, rfl, ha, hbl, hsq⟩ := H
  have h4 := D.hs
  have hf : fitB (idI P b1) s (mkPk (idI P b0) ak sq b) = true := by
    have h1 : (b0 != b1) = true := by simpa using hb
    have h2 : decide ((ak : Int) ≤ (s : Int)) = true := by simp; omega
    show (P.cl == P.cl && P.ep == P.ep && P.bo == P.bo && b0 != b1 && decide ((ak : Int) ≤ (s : Int))) = true
    rw [h1, h2]
    simp
  have hc : gotC (idI P b1) n s (mkPk (idI P b0) ak sq b) = came n s (ak : Int) := by
    unfold gotC
    rw [if_pos hf]
    rfl
  have hg : gotB (idI P b1) s hR (mkPk (idI P b0) ak sq b) = (sq == (hR : Int) + 1) := by
    show (fitB (idI P b1) s (mkPk (idI P b0) ak sq b) && sq == (hR : Int) + 1) = _
    rw [hf, Bool.true_and]
  rw [hc]
  refine ⟨D.known ha, ?_⟩
  cases e : (sq == (hR : Int) + 1)
  · rw [e] at hg
    have e1 : gotH (idI P b1) s hR (mkPk (idI P b0) ak sq b) = hR := by simp [gotH, hg]
    rw [e1, hg]
    exact ⟨DS, by simp, fun _ => rfl⟩
  · have hq : sq = (hR : Int) + 1 := by simpa using e
    rw [e] at hg
    have e1 : gotH (idI P b1) s hR (mkPk (idI P b0) ak sq b) = hR + 1 := by simp [gotH, hg]
    have e2 : gotX (idI P b1) s hR (mkPk (idI P b0) ak sq b) = b := by simp only [gotX, hg, if_true]; rfl
    rw [e1, e2, hg]
    have hi : InS[hR]? = some b := by
      rcases hsq with h0 | ⟨i, h1, h2⟩
      · omega
      · have : i = hR := by omega
        subst this
        exact h2
    obtain ⟨d1, d2⟩ := DS.heard hi
    exact ⟨d1, fun _ => d2, by simp⟩

/-- Both directions, and all that is on its way. -/
structure Inv (P : PkG) (X Y : En) (In0 In1 : List (List Nat)) (Ws : List PkG) : Prop where
  d0 : Dir In0 X.n X.s Y.h X.L
  d1 : Dir In1 Y.n Y.s X.h Y.L
  ws : ∀ p ∈ Ws, PkOk (idI P false) In0 X.h p ∨ PkOk (idI P true) In1 Y.h p

theorem Inv.new (P : PkG) : Inv P En0 En0 [] [] [] := ⟨Dir.new, Dir.new, by simp⟩
/-- Parts of what is on its way. -/
theorem Inv.part {P : PkG} {X Y : En} {In0 In1 : List (List Nat)} {Ws Vs : List PkG} (h : Inv P X Y In0 In1 Ws) (hv : ∀ p ∈ Vs, p ∈ Ws) : Inv P X Y In0 In1 Vs := ⟨h.d0, h.d1, fun p hp => h.ws p (hv p hp)⟩
theorem Inv.push0 {P : PkG} {X Y Z : En} {In0 In1 : List (List Nat)} {Ws : List PkG} (h : Inv P X Y In0 In1 Ws) {bs : List Nat} (hn : Z.n = X.n + 1) (hs : Z.s = X.s + 1) (hL : Z.L = X.L ++ [bs]) (hh : Z.h = X.h) : Inv P Z Y (In0 ++ [bs]) In1 Ws := by
  refine ⟨by rw [hn, hs, hL]; exact h.d0.push bs, by rw [hh]; exact h.d1, fun p hp => ?_⟩
  rw [hh]
  exact (h.ws p hp).imp (fun k => k.grow _ (Nat.le_refl _)) id
theorem Inv.push1 {P : PkG} {X Y Z : En} {In0 In1 : List (List Nat)} {Ws : List PkG} (h : Inv P X Y In0 In1 Ws) {bs : List Nat} (hn : Z.n = Y.n + 1) (hs : Z.s = Y.s + 1) (hL : Z.L = Y.L ++ [bs]) (hh : Z.h = Y.h) : Inv P X Z In0 (In1 ++ [bs]) Ws := by
  refine ⟨by rw [hh]; exact h.d0, by rw [hn, hs, hL]; exact h.d1.push bs, fun p hp => ?_⟩
  rw [hh]
  exact (h.ws p hp).imp id (fun k => k.grow _ (Nat.le_refl _))
/-- An end sends what is under way. -/
theorem Inv.send0 {P : PkG} {X Y : En} {In0 In1 : List (List Nat)} {Ws : List PkG} (h : Inv P X Y In0 In1 Ws) (hsz : ∀ b ∈ X.L, b.length ≤ 700) : Inv P X Y In0 In1 (Ws ++ pksOf (idI P false) X.L X.s X.h) :=
  ⟨h.d0, h.d1, fun p hp => (List.mem_append.1 hp).elim (h.ws p) fun hq => .inl (pks_ok h.d0 hsz hq)⟩
theorem Inv.send1 {P : PkG} {X Y : En} {In0 In1 : List (List Nat)} {Ws : List PkG} (h : Inv P X Y In0 In1 Ws) (hsz : ∀ b ∈ Y.L, b.length ≤ 700) : Inv P X Y In0 In1 (Ws ++ pksOf (idI P true) Y.L Y.s Y.h) :=
  ⟨h.d0, h.d1, fun p hp => (List.mem_append.1 hp).elim (h.ws p) fun hq => .inr (pks_ok h.d1 hsz hq)⟩
/-- End 1 gets a packet of end 0. -/
theorem Inv.got1 {P : PkG} {X Y Z : En} {In0 In1 : List (List Nat)} {Ws : List PkG} (h : Inv P X Y In0 In1 Ws) {p : PkG} (hp : p ∈ Ws) (hsv : p.sv = false)
    (hn : Z.n = Y.n - gotC (idI P true) Y.n Y.s p) (hs : Z.s = Y.s) (hL : Z.L = Y.L.drop (gotC (idI P true) Y.n Y.s p)) (hh : Z.h = gotH (idI P true) Y.s Y.h p) :
    Inv P X Z In0 In1 Ws ∧ (gotB (idI P true) Y.s Y.h p = true → In0.take Z.h = In0.take Y.h ++ [gotX (idI P true) Y.s Y.h p]) ∧ (gotB (idI P true) Y.s Y.h p = false → Z.h = Y.h) := by
  rcases h.ws p hp with k | k
  rotate_left
  · obtain ⟨ak, sq, b, rfl, _⟩ := k
    cases hsv
  obtain ⟨e1, e2, e3, e4⟩ := got_ok (b0 := false) (b1 := true) (by decide) h.d1 k h.d0
  refine ⟨⟨by rw [hh]; exact e2, by rw [hn, hs, hL]; exact e1, fun r hr => (h.ws r hr).imp id fun k => k.later ?_⟩, by rw [hh]; exact e3, by rw [hh]; exact e4⟩
  rw [hh]
  unfold gotH
  split <;> omega
/-- End 0 gets a packet of end 1. -/
theorem Inv.got0 {P : PkG} {X Y Z : En} {In0 In1 : List (List Nat)} {Ws : List PkG} (h : Inv P X Y In0 In1 Ws) {p : PkG} (hp : p ∈ Ws) (hsv : p.sv = true)
    (hn : Z.n = X.n - gotC (idI P false) X.n X.s p) (hs : Z.s = X.s) (hL : Z.L = X.L.drop (gotC (idI P false) X.n X.s p)) (hh : Z.h = gotH (idI P false) X.s X.h p) :
    Inv P Z Y In0 In1 Ws ∧ (gotB (idI P false) X.s X.h p = true → In1.take Z.h = In1.take X.h ++ [gotX (idI P false) X.s X.h p]) ∧ (gotB (idI P false) X.s X.h p = false → Z.h = X.h) := by
  rcases h.ws p hp with k | k
  · obtain ⟨ak, sq, b, rfl, _⟩ := k
    cases hsv
  obtain ⟨e1, e2, e3, e4⟩ := got_ok (b0 := true) (b1 := false) (by decide) h.d0 k h.d1
  refine ⟨⟨by rw [hn, hs, hL]; exact e1, by rw [hh]; exact e2, fun r hr => (h.ws r hr).imp (fun k => k.later ?_) id⟩, by rw [hh]; exact e3, by rw [hh]; exact e4⟩
  rw [hh]
  unfold gotH
  split <;> omega

end Go.Proofs.Ytgdlejeopdipiaa
