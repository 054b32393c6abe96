import Derived.Test.YtemldmjpanmdbaaGreatDoorE1
set_option linter.unusedVariables false
namespace Go.Proofs.YtemldmjpanmdbaaGreatDoor.Ev
/-! ### Trees -/
theorem bit_eq (k n : Nat) : Nat.beq (Nat.land (Nat.shiftRight k n) 1) 0 = !(k.testBit n) := by
  have h1 : Nat.land (Nat.shiftRight k n) 1 = (k >>> n) &&& 1 := rfl
  have h2 : k.testBit n = (1 &&& (k >>> n) != 0) := rfl
  rw [h1, h2, Nat.and_comm]
  generalize (1 &&& (k >>> n)) = z
  cases z <;> rfl
namespace Tr
variable {α : Type}
/-- The halves, and a tree of two. -/
def lo {n : Nat} (t : Tr α (n + 1)) : Tr α n := Prod.fst t
def hi {n : Nat} (t : Tr α (n + 1)) : Tr α n := Prod.snd t
def mk {n : Nat} (a b : Tr α n) : Tr α (n + 1) := Prod.mk a b
theorem lo_mk {n : Nat} (a b : Tr α n) : lo (mk a b) = a := rfl
theorem hi_mk {n : Nat} (a b : Tr α n) : hi (mk a b) = b := rfl
theorem get_zero (t : Tr α 0) (k : Nat) : get 0 t k = (t : Option α) := rfl
theorem get_succ (n : Nat) (t : Tr α (n + 1)) (k : Nat) : get (n + 1) t k = if k.testBit n then get n (hi t) k else get n (lo t) k := by
  show cond (Nat.beq (Nat.land (Nat.shiftRight k n) 1) 0) _ _ = _
  rw [bit_eq]
  cases k.testBit n <;> rfl
theorem set_succ (n : Nat) (t : Tr α (n + 1)) (k : Nat) (v : Option α) : set (n + 1) t k v = if k.testBit n then mk (lo t) (set n (hi t) k v) else mk (set n (lo t) k v) (hi t) := by
  show cond (Nat.beq (Nat.land (Nat.shiftRight k n) 1) 0) _ _ = _
  rw [bit_eq]
  cases k.testBit n <;> rfl
theorem get_set (n : Nat) : ∀ (t : Tr α n) (k j : Nat) (v : Option α), get n (set n t k v) j = if (∀ i, i < n → j.testBit i = k.testBit i) then v else get n t j := by
  induction n with
  | zero => intro t k j v; rw [if_pos (fun i h => absurd h (Nat.not_lt_zero i))]; rfl
  | succ n ih =>
    intro t k j v
    have h3 : ∀ (b : Bool), j.testBit n = b → k.testBit n = b → ((∀ i, i < n + 1 → j.testBit i = k.testBit i) ↔ ∀ i, i < n → j.testBit i = k.testBit i) := fun b hj hk =>
      ⟨fun h i hi => h i (by omega), fun h i hi => by
        rcases Nat.lt_succ_iff_lt_or_eq.1 hi with h' | rfl
        · exact h i h'
        · rw [hj, hk]⟩
    have h4 : ∀ (b c : Bool), j.testBit n = b → k.testBit n = c → b ≠ c → ¬ ∀ i, i < n + 1 → j.testBit i = k.testBit i := fun b c hj hk hne h => hne (by rw [← hj, ← hk]; exact h n (by omega))
    rw [set_succ, get_succ, get_succ]
    cases hk : k.testBit n <;> cases hj : j.testBit n <;> simp only [if_true, if_false, Bool.false_eq_true, lo_mk, hi_mk]
    · rw [ih]; simp only [h3 false hj hk]
    · rw [if_neg (h4 _ _ hj hk (by decide))]
    · rw [if_neg (h4 _ _ hj hk (by decide))]
    · rw [ih]; simp only [h3 true hj hk]
theorem eq_of_bits {n j k : Nat} (hj : j < 2 ^ n) (hk : k < 2 ^ n) (h : ∀ i, i < n → j.testBit i = k.testBit i) : j = k := by
  apply Nat.eq_of_testBit_eq
  intro i
  by_cases hi : i < n
  · exact h i hi
  · have hp : 2 ^ n ≤ 2 ^ i := Nat.pow_le_pow_right (by decide) (by omega)
    rw [Nat.testBit_lt_two_pow (by omega), Nat.testBit_lt_two_pow (by omega)]
theorem get_set' {n : Nat} {t : Tr α n} {k j : Nat} {v : Option α} (hj : j < 2 ^ n) (hk : k < 2 ^ n) : get n (set n t k v) j = if j = k then v else get n t j := by
  rw [get_set]
  by_cases h : j = k
  · subst h; rw [if_pos rfl, if_pos fun _ _ => rfl]
  · rw [if_neg h, if_neg fun h' => h (eq_of_bits hj hk h')]
theorem get_emp (n k : Nat) : get n (emp n : Tr α n) k = none := by
  induction n with
  | zero => rfl
  | succ n ih =>
    rw [get_succ]
    have h1 : hi (emp (n + 1) : Tr α (n + 1)) = emp n := rfl
    have h2 : lo (emp (n + 1) : Tr α (n + 1)) = emp n := rfl
    rw [h1, h2, ih]; simp
theorem get_up (n k : Nat) (t : Tr α n) (hk : k < 2 ^ n) : get (n + 1) (up t) k = get n t k := by
  rw [get_succ, Nat.testBit_lt_two_pow hk]; rfl
theorem get_low {n : Nat} : ∀ (t : Tr α n) (k j : Nat), (∀ i, i < n → j.testBit i = k.testBit i) → get n t j = get n t k := by
  induction n with
  | zero => intro t k j _; rfl
  | succ n ih =>
    intro t k j h
    rw [get_succ, get_succ, h n (by omega), ih _ k j fun i hi => h i (by omega), ih _ k j fun i hi => h i (by omega)]
theorem testBit_sub {k n i : Nat} (hk : k < 2 ^ (n + 1)) (hb : k.testBit n = true) (hi : i < n) : (k - 2 ^ n).testBit i = k.testBit i := by
  have hge : 2 ^ n ≤ k := Nat.ge_two_pow_of_testBit hb
  have : k = 2 ^ n + (k - 2 ^ n) := by omega
  conv => rhs; rw [this]
  rw [Nat.testBit_two_pow_add_gt hi]
theorem get_ofL (n : Nat) : ∀ (l : List α) (k : Nat), k < 2 ^ n → get n (ofL n l) k = l[k]? := by
  induction n with
  | zero =>
    intro l k hk
    have : k = 0 := by simp at hk; exact hk
    subst this
    show l.head? = _
    cases l <;> rfl
  | succ n ih =>
    intro l k hk
    rw [get_succ]
    by_cases hb : k.testBit n = true
    · rw [if_pos hb]
      show get n (ofL n (l.drop (2 ^ n))) k = _
      have hge : 2 ^ n ≤ k := Nat.ge_two_pow_of_testBit hb
      rw [get_low _ (k - 2 ^ n) k fun i hi => (testBit_sub hk hb hi).symm, ih _ _ (by rw [Nat.pow_succ] at hk; omega), List.getElem?_drop]
      congr 1; omega
    · rw [if_neg hb]
      have hb' : k.testBit n = false := by simpa using hb
      have hlt : k < 2 ^ n := by
        rcases Nat.lt_or_ge k (2 ^ n) with h | h
        · exact h
        · exfalso
          have h2 : k = 2 ^ n + (k - 2 ^ n) := by omega
          have h3 : (k - 2 ^ n) < 2 ^ n := by rw [Nat.pow_succ] at hk; omega
          rw [h2, Nat.testBit_two_pow_add_eq, Nat.testBit_lt_two_pow h3] at hb'
          cases hb'
      exact ih l k hlt
theorem get_ofF (f : Nat → Option α) (n : Nat) : ∀ (b k : Nat), k < 2 ^ n → get n (ofF f n b) k = f (b + k) := by
  induction n with
  | zero =>
    intro b k hk
    have : k = 0 := by simp at hk; exact hk
    subst this
    rfl
  | succ n ih =>
    intro b k hk
    rw [get_succ]
    by_cases hb : k.testBit n = true
    · rw [if_pos hb]
      show get n (ofF f n (b + 2 ^ n)) k = _
      have hge : 2 ^ n ≤ k := Nat.ge_two_pow_of_testBit hb
      rw [get_low _ (k - 2 ^ n) k fun i hi => (testBit_sub hk hb hi).symm, ih _ _ (by rw [Nat.pow_succ] at hk; omega)]
      congr 1; omega
    · rw [if_neg hb]
      have hb' : k.testBit n = false := by simpa using hb
      have hlt : k < 2 ^ n := by
        rcases Nat.lt_or_ge k (2 ^ n) with h | h
        · exact h
        · exfalso
          have h2 : k = 2 ^ n + (k - 2 ^ n) := by omega
          have h3 : (k - 2 ^ n) < 2 ^ n := by rw [Nat.pow_succ] at hk; omega
          rw [h2, Nat.testBit_two_pow_add_eq, Nat.testBit_lt_two_pow h3] at hb'
          cases hb'
      exact ih b k hlt
end Tr
/-! ### Options -/
theorem ob_some {α β : Type} {x : Option α} {f : α → Option β} {y : β} : ob x f = some y ↔ ∃ a, x = some a ∧ f a = some y := by
  cases x with
  | none => exact ⟨fun h => (nomatch (show (none : Option β) = some y from h)), fun ⟨_, h, _⟩ => nomatch h⟩
  | some a => exact ⟨fun h => ⟨a, rfl, h⟩, fun ⟨_, h, h'⟩ => by cases h; exact h'⟩
theorem iff_some {β : Type} {b : Bool} {x : Option β} {y : β} : iff' b x = some y ↔ b = true ∧ x = some y := by
  cases b
  · exact ⟨fun h => (nomatch (show (none : Option β) = some y from h)), fun ⟨h, _⟩ => nomatch h⟩
  · exact ⟨fun h => ⟨rfl, h⟩, fun ⟨_, h⟩ => h⟩
theorem cond_some {β : Type} {b : Bool} {x : Option β} {y : β} : cond b x none = some y ↔ b = true ∧ x = some y := iff_some
theorem orElse_some {α : Type} {x y : Option α} {a : α} (h : orElse x y = some a) : x = some a ∨ (x = none ∧ y = some a) := by
  cases x with
  | none => exact .inr ⟨rfl, h⟩
  | some b => exact .inl h
/-! ### What is pure is so in every world -/
theorem pureOf_run {α : Type} {P : Program} {w : World} : ∀ (s : Sem α) (a : α), pureOf P s = some a → s.run P w = .ok a w
  | .pure a, b, h => by cases h; rfl
  | .program k, a, h => by exact pureOf_run (k P) a h
  | .mark m k, a, h => by exact pureOf_run k a h
  | .load .., _, h => by cases h
  | .store .., _, h => by cases h
  | .new .., _, h => by cases h
  | .shape .., _, h => by cases h
  | .freeze .., _, h => by cases h
  | .frozen .., _, h => by cases h
  | .getObj .., _, h => by cases h
  | .setObj .., _, h => by cases h
  | .choose .., _, h => by cases h
  | .sys .., _, h => by cases h
  | .halt .., _, h => by cases h
end Go.Proofs.YtemldmjpanmdbaaGreatDoor.Ev
