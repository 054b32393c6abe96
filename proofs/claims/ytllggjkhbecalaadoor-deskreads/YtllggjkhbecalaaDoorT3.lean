/- Grant, Drop and Clear of any numbers; the chapter's example, walked. -/
import Derived.Test.YtllggjkhbecalaaDoorT2
namespace Go.Proofs.YtllggjkhbecalaaDoor.Tab
open Go.RowKit
set_option linter.unusedVariables false
set_option maxRecDepth 8000

/-- What Grant answers to any numbers, and what it leaves. -/
def gOk (T : Nat → Nat) (c p a b : Int) : Bool := argB c p a b && grB T c.toNat p.toNat a.toNat b.toNat
def gT (T : Nat → Nat) (c p a b : Int) : Nat → Nat := if gOk T c p a b = true then grT T c.toNat p.toNat a.toNat b.toNat else T
def dT (T : Nat → Nat) (c p a b : Int) : Nat → Nat := if argB c p a b = true then drT T c.toNat p.toNat a.toNat b.toNat else T
def cT (T : Nat → Nat) (c : Int) : Nat → Nat := if clB c = true then clT T c.toNat else T

theorem arg_yes {c p a b : Int} (h : argB c p a b = true) : ∃ k l x y : Nat, k < 4 ∧ l < 6 ∧ x < 16 ∧ y < 16 ∧ c = k ∧ p = l ∧ a = x ∧ b = y := by
  unfold argB at h
  simp only [Bool.and_eq_true] at h
  obtain ⟨k, l, h1, h2, e1, e2⟩ := nat_of_pl h.1.1
  obtain ⟨x, h3, e3⟩ := nat_of_ma h.1.2
  obtain ⟨y, h4, e4⟩ := nat_of_ma h.2
  exact ⟨k, l, x, y, h1, h2, h3, h4, e1, e2, e3, e4⟩

section
variable (w : World) (g : Nat) (T : Nat → Nat) (H : Tb w g T)

theorem grant_any (H : Tb w g T) (c p a b : Int) (B : Bool) (hB : gOk T c p a b = B) : Calls Tryd.prog 60 #[tp g, .int .i64 c, .int .i64 p, .int .i64 a, .int .i64 b] w fun e w' => e = .returned (.bool B) ∧ Tb w' g (gT T c p a b) ∧ Off g w w' := by
  subst hB
  cases h : argB c p a b
  · refine (grant_no g w c p a b h).mono ?_
    rintro e w' ⟨rfl, rfl⟩
    have e1 : gOk T c p a b = false := by simp [gOk, h]
    exact ⟨by rw [e1], by rw [gT, e1]; exact H, Off.refl _ _⟩
  · obtain ⟨k, l, x, y, h1, h2, h3, h4, rfl, rfl, rfl, rfl⟩ := arg_yes h
    refine (grant_in w g T H k l x y h1 h2 h3 h4).mono ?_
    rintro e w' ⟨rfl, h5, h6⟩
    have e1 : gOk T k l x y = grB T k l x y := by simp [gOk, h]
    exact ⟨by rw [e1], by rw [gT, e1]; exact h5, h6⟩

theorem drop_any (H : Tb w g T) (c p a b : Int) : Calls Tryd.prog 16 #[tp g, .int .i64 c, .int .i64 p, .int .i64 a, .int .i64 b] w fun e w' => e = .returned (.tuple #[]) ∧ Tb w' g (dT T c p a b) ∧ Off g w w' := by
  cases h : argB c p a b
  · refine (drop_no g w c p a b h).mono ?_
    rintro e w' ⟨rfl, rfl⟩
    exact ⟨rfl, by rw [dT, h]; exact H, Off.refl _ _⟩
  · obtain ⟨k, l, x, y, h1, h2, h3, h4, rfl, rfl, rfl, rfl⟩ := arg_yes h
    refine (drop_in w g T H k l x y h1 h2 h3 h4).mono ?_
    rintro e w' ⟨rfl, h5, h6⟩
    exact ⟨rfl, by rw [dT, h]; exact h5, h6⟩

theorem own_is (H : Tb w g T) (c p : Int) (n : Int) (hn : ((owI T c p : Nat) : Int) = n) : Calls Tryd.prog 20 #[tp g, .int .i64 c, .int .i64 p] w fun e w' => e = .returned (.int .i64 n) ∧ w' = w := by
  subst hn; exact own_any w g T H c p
theorem copies_is (H : Tb w g T) (c p : Int) (n : Int) (hn : ((cpI T c p : Nat) : Int) = n) : Calls Tryd.prog 21 #[tp g, .int .i64 c, .int .i64 p] w fun e w' => e = .returned (.int .i64 n) ∧ w' = w := by
  subst hn; exact copies_any w g T H c p
theorem free_is (H : Tb w g T) (c p : Int) (n : Int) (hn : ((frI T c p : Nat) : Int) = n) : Calls Tryd.prog 66 #[tp g, .int .i64 c, .int .i64 p] w fun e w' => e = .returned (.int .i64 n) ∧ Below w.heap.size w w' := by
  subst hn; exact free_any w g T H c p
theorem alone_is (H : Tb w g T) (c p : Int) (b : Bool) (hn : alI T c p = b) : Calls Tryd.prog 64 #[tp g, .int .i64 c, .int .i64 p] w fun e w' => e = .returned (.bool b) ∧ Below w.heap.size w w' := by
  subst hn; exact alone_any w g T H c p
theorem holders_is (H : Tb w g T) (c p o : Int) (wr : Bool) (L : List Int) (n : Nat) (hL : hoI T c p o wr = L) (hn : L.length = n) : Calls Tryd.prog 40 #[tp g, .int .i64 c, .int .i64 p, .int .i64 o, .bool wr] w fun e w' => ∃ ao cap, e = .returned (.slice ao n cap) ∧ OwnI w' w.heap.size 3 .i64 ao cap L ∧ Below w.heap.size w w' := by
  subst hL hn
  refine (holders_any w g T H c p o wr).mono ?_
  rintro e w' ⟨ao, n, cap, rfl, h1, rfl, h2⟩
  exact ⟨ao, cap, rfl, h1, h2⟩
end

abbrev A0 : Nat → Nat := fun _ => 0
def A1 : Nat → Nat := gT A0 0 2 2 0
def A2 : Nat → Nat := gT A1 1 2 0 2
def A3 : Nat → Nat := gT A2 1 2 2 0
def A4 : Nat → Nat := dT A3 0 2 2 0
def A5 : Nat → Nat := gT A4 1 2 0 2
def A6 : Nat → Nat := gT A5 0 2 2 0

end Go.Proofs.YtllggjkhbecalaaDoor.Tab
