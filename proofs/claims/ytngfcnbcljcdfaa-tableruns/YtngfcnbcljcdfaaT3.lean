/- Grant, Drop and Clear of any numbers; the chapter's example, walked. -/
import Derived.Test.YtngfcnbcljcdfaaT2
namespace Go.Proofs.Ytngfcnbcljcdfaa
open Go.RowKit
set_option linter.unusedVariables false

/-- What Grant answers to any numbers, and what it leaves. -/
def gOk (T : Nat → Nat) (c p a b : Int) : Bool := argB c p a b && grB T c.toNat p.toNat a.toNat b.toNat
def gT (T : Nat → Nat) (c p a b : Int) : Nat → Nat := if gOk T c p a b = true then grT T c.toNat p.toNat a.toNat b.toNat else T
def dT (T : Nat → Nat) (c p a b : Int) : Nat → Nat := if argB c p a b = true then drT T c.toNat p.toNat a.toNat b.toNat else T
def cT (T : Nat → Nat) (c : Int) : Nat → Nat := if clB c = true then clT T c.toNat else T

theorem arg_yes {c p a b : Int} (h : argB c p a b = true) : ∃ k l x y : Nat, k < 4 ∧ l < 6 ∧ x < 16 ∧ y < 16 ∧ c = k ∧ p = l ∧ a = x ∧ b = y := by
  unfold argB at h
  simp only [Bool.and_eq_true] at h
  obtain ⟨k, l, h1, h2, e1, e2⟩ := nat_of_pl h.1.1
  obtain ⟨x, h3, e3⟩ := nat_of_ma h.1.2
  obtain ⟨y, h4, e4⟩ := nat_of_ma h.2
  exact ⟨k, l, x, y, h1, h2, h3, h4, e1, e2, e3, e4⟩

section
variable (w : World) (g : Nat) (T : Nat → Nat) (H : Tb w g T)

theorem grant_any (H : Tb w g T) (c p a b : Int) (B : Bool) (hB : gOk T c p a b = B) : Calls Try.prog 10 #[tp g, .int .i64 c, .int .i64 p, .int .i64 a, .int .i64 b] w fun e w' => e = .returned (.bool B) ∧ Tb w' g (gT T c p a b) ∧ Off g w w' := by
  subst hB
  cases h : argB c p a b
  · refine (grant_no g w c p a b h).mono ?_
    rintro e w' ⟨rfl, rfl⟩
    have e1 : gOk T c p a b = false := by simp [gOk, h]
    exact ⟨by rw [e1], by rw [gT, e1]; exact H, Off.refl _ _⟩
  · obtain ⟨k, l, x, y, h1, h2, h3, h4, rfl, rfl, rfl, rfl⟩ := arg_yes h
    refine (grant_in w g T H k l x y h1 h2 h3 h4).mono ?_
    rintro e w' ⟨rfl, h5, h6⟩
    have e1 : gOk T k l x y = grB T k l x y := by simp [gOk, h]
    exact ⟨by rw [e1], by rw [gT, e1]; exact h5, h6⟩

theorem drop_any (H : Tb w g T) (c p a b : Int) : Calls Try.prog 15 #[tp g, .int .i64 c, .int .i64 p, .int .i64 a, .int .i64 b] w fun e w' => e = .returned (.tuple #[]) ∧ Tb w' g (dT T c p a b) ∧ Off g w w' := by
  cases h : argB c p a b
  · refine (drop_no g w c p a b h).mono ?_
    rintro e w' ⟨rfl, rfl⟩
    exact ⟨rfl, by rw [dT, h]; exact H, Off.refl _ _⟩
  · obtain ⟨k, l, x, y, h1, h2, h3, h4, rfl, rfl, rfl, rfl⟩ := arg_yes h
    refine (drop_in w g T H k l x y h1 h2 h3 h4).mono ?_
    rintro e w' ⟨rfl, h5, h6⟩
    exact ⟨rfl, by rw [dT, h]; exact h5, h6⟩

theorem clear_any (H : Tb w g T) (c : Int) : Calls Try.prog 17 #[tp g, .int .i64 c] w fun e w' => e = .returned (.tuple #[]) ∧ Tb w' g (cT T c) ∧ Off g w w' := by
  cases h : clB c
  · refine (clear_no g w c h).mono ?_
    rintro e w' ⟨rfl, rfl⟩
    exact ⟨rfl, by rw [cT, h]; exact H, Off.refl _ _⟩
  · obtain ⟨k, h1, rfl⟩ := nat_of_cl h
    refine (clear_in w g T H k h1).mono ?_
    rintro e w' ⟨rfl, h5, h6⟩
    exact ⟨rfl, by rw [cT, h]; exact h5, h6⟩

theorem own_is (H : Tb w g T) (c p : Int) (n : Int) (hn : ((owI T c p : Nat) : Int) = n) : Calls Try.prog 21 #[tp g, .int .i64 c, .int .i64 p] w fun e w' => e = .returned (.int .i64 n) ∧ w' = w := by
  subst hn; exact own_any w g T H c p
theorem copies_is (H : Tb w g T) (c p : Int) (n : Int) (hn : ((cpI T c p : Nat) : Int) = n) : Calls Try.prog 19 #[tp g, .int .i64 c, .int .i64 p] w fun e w' => e = .returned (.int .i64 n) ∧ w' = w := by
  subst hn; exact copies_any w g T H c p
theorem free_is (H : Tb w g T) (c p : Int) (n : Int) (hn : ((frI T c p : Nat) : Int) = n) : Calls Try.prog 11 #[tp g, .int .i64 c, .int .i64 p] w fun e w' => e = .returned (.int .i64 n) ∧ Below w.heap.size w w' := by
  subst hn; exact free_any w g T H c p
theorem alone_is (H : Tb w g T) (c p : Int) (b : Bool) (hn : alI T c p = b) : Calls Try.prog 12 #[tp g, .int .i64 c, .int .i64 p] w fun e w' => e = .returned (.bool b) ∧ Below w.heap.size w w' := by
  subst hn; exact alone_any w g T H c p
theorem holders_is (H : Tb w g T) (c p o : Int) (wr : Bool) (L : List Int) (n : Nat) (hL : hoI T c p o wr = L) (hn : L.length = n) : Calls Try.prog 13 #[tp g, .int .i64 c, .int .i64 p, .int .i64 o, .bool wr] w fun e w' => ∃ ao cap, e = .returned (.slice ao n cap) ∧ OwnI w' w.heap.size 3 .i64 ao cap L ∧ Below w.heap.size w w' := by
  subst hL hn
  refine (holders_any w g T H c p o wr).mono ?_
  rintro e w' ⟨ao, n, cap, rfl, h1, rfl, h2⟩
  exact ⟨ao, cap, rfl, h1, h2⟩
end

abbrev A0 : Nat → Nat := fun _ => 0
def A1 : Nat → Nat := gT A0 0 2 2 0
def A2 : Nat → Nat := gT A1 1 2 0 2
def A3 : Nat → Nat := gT A2 1 2 2 0
def A4 : Nat → Nat := dT A3 0 2 2 0
def A5 : Nat → Nat := gT A4 1 2 0 2
def A6 : Nat → Nat := gT A5 0 2 2 0

set_option maxHeartbeats 800000 in
theorem alive_any (w : World) : Calls Try.prog 9 #[] w fun e w' => e = .returned (.bool true) ∧ Below w.heap.size w w' := by
  have s1 : gOk A0 0 2 2 0 = true := by kernel_rfl
  have s2 : gOk A1 1 2 0 2 = false := by kernel_rfl
  have s3 : gOk A2 1 2 2 0 = true := by kernel_rfl
  have s5 : gOk A4 1 2 0 2 = true := by kernel_rfl
  have s6 : gOk A5 0 2 2 0 = false := by kernel_rfl
  have s7 : ((owI A5 1 2 : Nat) : Int) = 2 := by kernel_rfl
  have s8 : ((frI A6 0 2 : Nat) : Int) = 13 := by kernel_rfl
  go_enter Try.func9, Try.ntmps9
  go_wp2_with (first
    | (go_at_call 11; refine (free_is _ _ _ H6 0 2 13 s8).mono ?_; rintro e w7 ⟨rfl, hb7⟩; have hB7 := b6.trans (hb7.mono b6.size))
    | (go_at_call 10; refine (grant_any _ _ _ H5 0 2 2 0 _ s6).mono ?_; rintro e w6 ⟨rfl, (H6 : Tb w6 _ A6), o6⟩; have b6 := b5.trans (o6.below (Nat.le_refl _) b5.size))
    | (go_at_call 21; refine (own_is _ _ _ H5 1 2 2 s7).mono ?_; rintro e wx ⟨rfl, hw⟩; subst wx)
    | (go_at_call 10; refine (grant_any _ _ _ H4 1 2 0 2 _ s5).mono ?_; rintro e w5 ⟨rfl, (H5 : Tb w5 _ A5), o5⟩; have b5 := b4.trans (o5.below (Nat.le_refl _) b4.size))
    | (go_at_call 15; refine (drop_any _ _ _ H3 0 2 2 0).mono ?_; rintro e w4 ⟨rfl, (H4 : Tb w4 _ A4), o4⟩; have b4 := b3.trans (o4.below (Nat.le_refl _) b3.size))
    | (go_at_call 10; refine (grant_any _ _ _ H2 1 2 2 0 _ s3).mono ?_; rintro e w3 ⟨rfl, (H3 : Tb w3 _ A3), o3⟩; have b3 := b2.trans (o3.below (Nat.le_refl _) b2.size))
    | (go_at_call 10; refine (grant_any _ _ _ H1 1 2 0 2 _ s2).mono ?_; rintro e w2 ⟨rfl, (H2 : Tb w2 _ A2), o2⟩; have b2 := b1.trans (o2.below (Nat.le_refl _) b1.size))
    | (go_at_call 10; refine (grant_any _ _ _ H0 0 2 2 0 _ s1).mono ?_; rintro e w1 ⟨rfl, (H1 : Tb w1 _ A1), o1⟩; have b1 := b0.trans (o1.below (Nat.le_refl _) b0.size))
    | (go_at_call 8; refine (new_any _).mono ?_; rintro e w0 ⟨rfl, (H0 : Tb w0 _ A0), b0⟩))
  go_ret
  exact ⟨rfl, hB7⟩

set_option maxHeartbeats 1600000 in
theorem names_main (w : World) : Calls Try.prog 3 #[] w fun e w' => e = .returned (.bool true) ∧ Below w.heap.size w w' := by
  have n1 := fun g w => grant_no g w 4 0 1 0 (by kernel_rfl)
  have n2 := fun g w => grant_no g w 0 6 1 0 (by kernel_rfl)
  have n3 := fun g w => grant_no g w 0 0 16 0 (by kernel_rfl)
  have s1 : ((frI A0 0 0 : Nat) : Int) = 15 := by kernel_rfl
  have s2 : ((frI A0 (-1) 0 : Nat) : Int) = 0 := by kernel_rfl
  have s3 : alI A0 0 0 = true := by kernel_rfl
  have s4 : alI A0 4 0 = false := by kernel_rfl
  have s5 : hoI A0 0 0 4 true = [] := by kernel_rfl
  go_enter Try.func3, Try.ntmps3
  go_wp2_with (first
    | (go_at_call 13; refine (holders_is _ _ _ H5 0 0 4 true _ 0 s5 rfl).mono ?_; rintro e w6 ⟨ao, cap, rfl, -, hb6⟩; have B6 := below_step B5 hb6)
    | (go_at_call 12; refine (alone_is _ _ _ H4 4 0 _ s4).mono ?_; rintro e w5 ⟨rfl, hb5⟩; have B5 := below_step B4 hb5; have H5 := H4.below hb5)
    | (go_at_call 12; refine (alone_is _ _ _ H3 0 0 _ s3).mono ?_; rintro e w4 ⟨rfl, hb4⟩; have B4 := below_step B3 hb4; have H4 := H3.below hb4)
    | (go_at_call 11; refine (free_is _ _ _ H2 (-1) 0 0 s2).mono ?_; rintro e w3 ⟨rfl, hb3⟩; have B3 := below_step B2 hb3; have H3 := H2.below hb3)
    | (go_at_call 11; refine (free_is _ _ _ H1 0 0 15 s1).mono ?_; rintro e w2 ⟨rfl, hb2⟩; have B2 := below_step B1 hb2; have H2 := H1.below hb2)
    | (go_at_call 10; with_reducible refine (n3 _ _).mono ?_; rintro e wx ⟨rfl, hw⟩; subst wx)
    | (go_at_call 10; with_reducible refine (n2 _ _).mono ?_; rintro e wx ⟨rfl, hw⟩; subst wx)
    | (go_at_call 10; with_reducible refine (n1 _ _).mono ?_; rintro e wx ⟨rfl, hw⟩; subst wx)
    | (go_at_call 9; refine (alive_any _).mono ?_; rintro e w1 ⟨rfl, hb1⟩; have H1 := H0.below hb1; have B1 := below_step b0 hb1)
    | (go_at_call 8; refine (new_any _).mono ?_; rintro e w0 ⟨rfl, (H0 : Tb w0 _ A0), b0⟩))
  go_ret
  exact ⟨rfl, B6⟩

end Go.Proofs.Ytngfcnbcljcdfaa
