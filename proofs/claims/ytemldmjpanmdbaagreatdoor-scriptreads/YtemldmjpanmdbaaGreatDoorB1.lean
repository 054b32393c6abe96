/- The reckoner: its operations. No walk. -/
import Derived.Test.YtemldmjpanmdbaaGreatDoorE1
import Derived.Laws.Sem
import Derived.Laws.World
import Derived.Laws.Cells
import Derived.Laws.CopyRow
import Derived.Below
import Derived.Laws.Tables
import Derived.Laws.MakeOwn
import Derived.Laws.Slices
import Derived.Laws.Entries
set_option linter.unusedVariables false
namespace Go.Proofs.YtemldmjpanmdbaaGreatDoor.Ev
/-! ### Trees -/
theorem bit_eq (k n : Nat) : Nat.beq (Nat.land (Nat.shiftRight k n) 1) 0 = !(k.testBit n) := by
  have h1 : Nat.land (Nat.shiftRight k n) 1 = (k >>> n) &&& 1 := rfl
  have h2 : k.testBit n = (1 &&& (k >>> n) != 0) := rfl
  rw [h1, h2, Nat.and_comm]
  generalize (1 &&& (k >>> n)) = z
  cases z <;> rfl
namespace Tr
variable {α : Type}
/-- The halves, and a tree of two. -/
def lo {n : Nat} (t : Tr α (n + 1)) : Tr α n := Prod.fst t
def hi {n : Nat} (t : Tr α (n + 1)) : Tr α n := Prod.snd t
def mk {n : Nat} (a b : Tr α n) : Tr α (n + 1) := Prod.mk a b
theorem lo_mk {n : Nat} (a b : Tr α n) : lo (mk a b) = a := rfl
theorem hi_mk {n : Nat} (a b : Tr α n) : hi (mk a b) = b := rfl
theorem get_zero (t : Tr α 0) (k : Nat) : get 0 t k = (t : Option α) := rfl
theorem get_succ (n : Nat) (t : Tr α (n + 1)) (k : Nat) : get (n + 1) t k = if k.testBit n then get n (hi t) k else get n (lo t) k := by
  show cond (Nat.beq (Nat.land (Nat.shiftRight k n) 1) 0) _ _ = _
  rw [bit_eq]
  cases k.testBit n <;> rfl
theorem set_succ (n : Nat) (t : Tr α (n + 1)) (k : Nat) (v : Option α) : set (n + 1) t k v = if k.testBit n then mk (lo t) (set n (hi t) k v) else mk (set n (lo t) k v) (hi t) := by
  show cond (Nat.beq (Nat.land (Nat.shiftRight k n) 1) 0) _ _ = _
  rw [bit_eq]
  cases k.testBit n <;> rfl
theorem get_set (n : Nat) : ∀ (t : Tr α n) (k j : Nat) (v : Option α), get n (set n t k v) j = if (∀ i, i < n → j.testBit i = k.testBit i) then v else get n t j := by
  induction n with
  | zero => intro t k j v; rw [if_pos (fun i h => absurd h (Nat.not_lt_zero i))]; rfl
  | succ n ih =>
    intro t k j v
    have h3 : ∀ (b : Bool), j.testBit n = b → k.testBit n = b → ((∀ i, i < n + 1 → j.testBit i = k.testBit i) ↔ ∀ i, i < n → j.testBit i = k.testBit i) := fun b hj hk =>
      ⟨fun h i hi => h i (by omega), fun h i hi => by
        rcases Nat.lt_succ_iff_lt_or_eq.1 hi with h' | rfl
        · exact h i h'
        · rw [hj, hk]⟩
    have h4 : ∀ (b c : Bool), j.testBit n = b → k.testBit n = c → b ≠ c → ¬ ∀ i, i < n + 1 → j.testBit i = k.testBit i := fun b c hj hk hne h => hne (by rw [← hj, ← hk]; exact h n (by omega))
    rw [set_succ, get_succ, get_succ]
    cases hk : k.testBit n <;> cases hj : j.testBit n <;> simp only [if_true, if_false, Bool.false_eq_true, lo_mk, hi_mk]
    · rw [ih]; simp only [h3 false hj hk]
    · rw [if_neg (h4 _ _ hj hk (by decide))]
    · rw [if_neg (h4 _ _ hj hk (by decide))]
    · rw [ih]; simp only [h3 true hj hk]
theorem eq_of_bits {n j k : Nat} (hj : j < 2 ^ n) (hk : k < 2 ^ n) (h : ∀ i, i < n → j.testBit i = k.testBit i) : j = k := by
  apply Nat.eq_of_testBit_eq
  intro i
  by_cases hi : i < n
  · exact h i hi
  · have hp : 2 ^ n ≤ 2 ^ i := Nat.pow_le_pow_right (by decide) (by omega)
    rw [Nat.testBit_lt_two_pow (by omega), Nat.testBit_lt_two_pow (by omega)]
theorem get_set' {n : Nat} {t : Tr α n} {k j : Nat} {v : Option α} (hj : j < 2 ^ n) (hk : k < 2 ^ n) : get n (set n t k v) j = if j = k then v else get n t j := by
  rw [get_set]
  by_cases h : j = k
  · subst h; rw [if_pos rfl, if_pos fun _ _ => rfl]
  · rw [if_neg h, if_neg fun h' => h (eq_of_bits hj hk h')]
theorem get_emp (n k : Nat) : get n (emp n : Tr α n) k = none := by
  induction n with
  | zero => rfl
  | succ n ih =>
    rw [get_succ]
    have h1 : hi (emp (n + 1) : Tr α (n + 1)) = emp n := rfl
    have h2 : lo (emp (n + 1) : Tr α (n + 1)) = emp n := rfl
    rw [h1, h2, ih]; simp
theorem get_up (n k : Nat) (t : Tr α n) (hk : k < 2 ^ n) : get (n + 1) (up t) k = get n t k := by
  rw [get_succ, Nat.testBit_lt_two_pow hk]; rfl
theorem get_low {n : Nat} : ∀ (t : Tr α n) (k j : Nat), (∀ i, i < n → j.testBit i = k.testBit i) → get n t j = get n t k := by
  induction n with
  | zero => intro t k j _; rfl
  | succ n ih =>
    intro t k j h
    rw [get_succ, get_succ, h n (by omega), ih _ k j fun i hi => h i (by omega), ih _ k j fun i hi => h i (by omega)]
theorem testBit_sub {k n i : Nat} (hk : k < 2 ^ (n + 1)) (hb : k.testBit n = true) (hi : i < n) : (k - 2 ^ n).testBit i = k.testBit i := by
  have hge : 2 ^ n ≤ k := Nat.ge_two_pow_of_testBit hb
  have : k = 2 ^ n + (k - 2 ^ n) := by omega
  conv => rhs; rw [this]
  rw [Nat.testBit_two_pow_add_gt hi]
theorem get_ofL (n : Nat) : ∀ (l : List α) (k : Nat), k < 2 ^ n → get n (ofL n l) k = l[k]? := by
  induction n with
  | zero =>
    intro l k hk
    have : k = 0 := by simp at hk; exact hk
    subst this
    show l.head? = _
    cases l <;> rfl
  | succ n ih =>
    intro l k hk
    rw [get_succ]
    by_cases hb : k.testBit n = true
    · rw [if_pos hb]
      show get n (ofL n (l.drop (2 ^ n))) k = _
      have hge : 2 ^ n ≤ k := Nat.ge_two_pow_of_testBit hb
      rw [get_low _ (k - 2 ^ n) k fun i hi => (testBit_sub hk hb hi).symm, ih _ _ (by rw [Nat.pow_succ] at hk; omega), List.getElem?_drop]
      congr 1; omega
    · rw [if_neg hb]
      have hb' : k.testBit n = false := by simpa using hb
      have hlt : k < 2 ^ n := by
        rcases Nat.lt_or_ge k (2 ^ n) with h | h
        · exact h
        · exfalso
          have h2 : k = 2 ^ n + (k - 2 ^ n) := by omega
          have h3 : (k - 2 ^ n) < 2 ^ n := by rw [Nat.pow_succ] at hk; omega
          rw [h2, Nat.testBit_two_pow_add_eq, Nat.testBit_lt_two_pow h3] at hb'
          cases hb'
      exact ih l k hlt
theorem get_ofF (f : Nat → Option α) (n : Nat) : ∀ (b k : Nat), k < 2 ^ n → get n (ofF f n b) k = f (b + k) := by
  induction n with
  | zero =>
    intro b k hk
    have : k = 0 := by simp at hk; exact hk
    subst this
    rfl
  | succ n ih =>
    intro b k hk
    rw [get_succ]
    by_cases hb : k.testBit n = true
    · rw [if_pos hb]
      show get n (ofF f n (b + 2 ^ n)) k = _
      have hge : 2 ^ n ≤ k := Nat.ge_two_pow_of_testBit hb
      rw [get_low _ (k - 2 ^ n) k fun i hi => (testBit_sub hk hb hi).symm, ih _ _ (by rw [Nat.pow_succ] at hk; omega)]
      congr 1; omega
    · rw [if_neg hb]
      have hb' : k.testBit n = false := by simpa using hb
      have hlt : k < 2 ^ n := by
        rcases Nat.lt_or_ge k (2 ^ n) with h | h
        · exact h
        · exfalso
          have h2 : k = 2 ^ n + (k - 2 ^ n) := by omega
          have h3 : (k - 2 ^ n) < 2 ^ n := by rw [Nat.pow_succ] at hk; omega
          rw [h2, Nat.testBit_two_pow_add_eq, Nat.testBit_lt_two_pow h3] at hb'
          cases hb'
      exact ih b k hlt
end Tr
/-! ### Options -/
theorem ob_some {α β : Type} {x : Option α} {f : α → Option β} {y : β} : ob x f = some y ↔ ∃ a, x = some a ∧ f a = some y := by
  cases x with
  | none => exact ⟨fun h => (nomatch (show (none : Option β) = some y from h)), fun ⟨_, h, _⟩ => nomatch h⟩
  | some a => exact ⟨fun h => ⟨a, rfl, h⟩, fun ⟨_, h, h'⟩ => by cases h; exact h'⟩
theorem iff_some {β : Type} {b : Bool} {x : Option β} {y : β} : iff' b x = some y ↔ b = true ∧ x = some y := by
  cases b
  · exact ⟨fun h => (nomatch (show (none : Option β) = some y from h)), fun ⟨h, _⟩ => nomatch h⟩
  · exact ⟨fun h => ⟨rfl, h⟩, fun ⟨_, h⟩ => h⟩
theorem cond_some {β : Type} {b : Bool} {x : Option β} {y : β} : cond b x none = some y ↔ b = true ∧ x = some y := iff_some
theorem orElse_some {α : Type} {x y : Option α} {a : α} (h : orElse x y = some a) : x = some a ∨ (x = none ∧ y = some a) := by
  cases x with
  | none => exact .inr ⟨rfl, h⟩
  | some b => exact .inl h
/-! ### What is pure is so in every world -/
theorem pureOf_run {α : Type} {P : Program} {w : World} : ∀ (s : Sem α) (a : α), pureOf P s = some a → s.run P w = .ok a w
  | .pure a, b, h => by cases h; rfl
  | .program k, a, h => by exact pureOf_run (k P) a h
  | .mark m k, a, h => by exact pureOf_run k a h
  | .load .., _, h => by cases h
  | .store .., _, h => by cases h
  | .new .., _, h => by cases h
  | .shape .., _, h => by cases h
  | .freeze .., _, h => by cases h
  | .frozen .., _, h => by cases h
  | .getObj .., _, h => by cases h
  | .setObj .., _, h => by cases h
  | .choose .., _, h => by cases h
  | .sys .., _, h => by cases h
  | .halt .., _, h => by cases h
end Go.Proofs.YtemldmjpanmdbaaGreatDoor.Ev

namespace Go.Proofs.YtemldmjpanmdbaaGreatDoor.Ev
/-- Where a thing of the reckoner's lies: the block, the place of its first cell there, how many cells the block has, and of which type they are. -/
structure Pl where
  b : Nat
  s : Nat
  n : Nat
  t : TypeId
abbrev Ren := Nat → Option Pl
def VR (P : Program) (ρ : Ren) : Value → Value → Prop
  | .chan (some (m + 1)), c => ∃ n : Nat, c = .int .i64 (.ofNat n) ∧ m % 65536 ≤ n ∧ n ≤ m / 65536
  | .chan _, _ => True
  | .pointer (some a), c => ∃ p, ρ a.block = some p ∧ a.spot = none ∧ c = .pointer (some ⟨p.b, p.s + a.off, none⟩)
  | .slice (some ⟨r, off, none⟩) len cap, c => ∃ p, ρ r = some p ∧ c = .slice (some ⟨p.b, p.s + off, none⟩) len cap
  | .slice (some ⟨r, off, some 0⟩) len cap, c => len ≤ cap ∧ ∃ p cap', ρ r = some p ∧ cap ≤ cap' ∧ p.s + off + cap' * P.cellsOf p.t ≤ p.n ∧ c = .slice (some ⟨p.b, p.s + off, none⟩) len cap'
  | .slice (some ⟨_, _, some (_ + 1)⟩) len cap, c => len = 0 ∧ cap = 0 ∧ ∃ a' cap', c = .slice (some a') 0 cap'
  | .map (some r), c => ∃ p, ρ r = some p ∧ c = .map (some p.b)
  | .func (.yield l) first captured, c => first = #[] ∧ captured = #[] ∧ ∃ p, ρ l = some p ∧ c = .func (.yield p.b) #[] #[]
  | .func fn first captured, c => ∃ f' c', c = .func fn f' c' ∧ VRA first f' ∧ VRA captured c'
  | .iface t v, c => ∃ v', c = .iface t v' ∧ VR P ρ v v'
  | .agg cs, c => ∃ cs', c = .agg cs' ∧ VRA cs cs'
  | .tuple cs, c => ∃ cs', c = .tuple cs' ∧ VRA cs cs'
  | v, c => c = v
  where
  VRA : Array Value → Array Value → Prop
    | ⟨l⟩, c => VRL l c.toList
  VRL : List Value → List Value → Prop
    | [], c => c = []
    | v :: l, c => ∃ v' m, c = v' :: m ∧ VR P ρ v v' ∧ VRL l m
abbrev VRL (P : Program) (ρ : Ren) := VR.VRL P ρ
theorem VRA_iff {P : Program} {ρ : Ren} {a c : Array Value} : VR.VRA P ρ a c ↔ VRL P ρ a.toList c.toList := by cases a; exact Iff.rfl
def Ren.le (ρ ρ' : Ren) : Prop := ∀ r p, ρ r = some p → ρ' r = some p
theorem Ren.le_refl (ρ : Ren) : ρ.le ρ := fun _ _ h => h
theorem Ren.le_trans {a b c : Ren} (h : a.le b) (k : b.le c) : a.le c := fun r p hp => k r p (h r p hp)
theorem VRL_nil {P : Program} {ρ : Ren} {c : List Value} : VRL P ρ [] c ↔ c = [] := Iff.rfl
theorem VRL_cons {P : Program} {ρ : Ren} {v : Value} {l c : List Value} : VRL P ρ (v :: l) c ↔ ∃ v' m, c = v' :: m ∧ VR P ρ v v' ∧ VRL P ρ l m := Iff.rfl
section
variable {P : Program} {ρ ρ' : Ren}
theorem VR_mono (h : ρ.le ρ') (a c : Value) (hv : VR P ρ a c) : VR P ρ' a c := by
  refine (?_ : ∀ c, VR P ρ a c → VR P ρ' a c) c hv
  clear hv c
  refine Value.rec (motive_1 := fun a => ∀ c, VR P ρ a c → VR P ρ' a c) (motive_2 := fun a => ∀ c, VR.VRA P ρ a c → VR.VRA P ρ' a c) (motive_3 := fun l => ∀ c, VRL P ρ l c → VRL P ρ' l c)
    ?_ ?_ ?_ ?_ ?_ ?_ ?_ ?_ ?_ ?_ ?_ ?_ ?_ ?_ ?_ ?_ ?_ ?_ a
  case refine_1 => intro b c h; simpa [VR] using h
  case refine_2 => intro k n c h; simpa [VR] using h
  case refine_3 => intro k n c h; simpa [VR] using h
  case refine_4 => intro k n m c h; simpa [VR] using h
  case refine_5 => intro s c h; simpa [VR] using h
  case refine_6 =>
    intro a c hc
    cases a with
    | none => simpa [VR] using hc
    | some a => simp only [VR] at hc ⊢; obtain ⟨p, hp, hs, hc⟩ := hc; exact ⟨p, h _ _ hp, hs, hc⟩
  case refine_7 =>
    intro a n m c hc
    match a with
    | none => simpa [VR] using hc
    | some ⟨r, off, none⟩ => simp only [VR] at hc ⊢; obtain ⟨p, hp, hc⟩ := hc; exact ⟨p, h _ _ hp, hc⟩
    | some ⟨r, off, some 0⟩ => simp only [VR] at hc ⊢; obtain ⟨hl, p, cap', hp, hc⟩ := hc; exact ⟨hl, p, cap', h _ _ hp, hc⟩
    | some ⟨r, off, some (k + 1)⟩ => simpa [VR] using hc
  case refine_8 =>
    intro r c hc
    cases r with
    | none => simpa [VR] using hc
    | some r => simp only [VR] at hc ⊢; obtain ⟨p, hp, hc⟩ := hc; exact ⟨p, h _ _ hp, hc⟩
  case refine_9 =>
    intro r c h
    match r with
    | none => simp [VR]
    | some 0 => simp [VR]
    | some (k + 1) => simpa [VR] using h
  case refine_10 =>
    intro fn a b ha hb c hc
    cases fn with
    | yield l => simp only [VR] at hc ⊢; obtain ⟨h1, h2, p, hp, hc⟩ := hc; exact ⟨h1, h2, p, h _ _ hp, hc⟩
    | _ => simp only [VR] at hc ⊢; obtain ⟨f', c', hc, h1, h2⟩ := hc; exact ⟨f', c', hc, ha _ h1, hb _ h2⟩
  case refine_11 => intro c h; simpa [VR] using h
  case refine_12 => intro t v hv c hc; simp only [VR] at hc ⊢; obtain ⟨v', hc, h1⟩ := hc; exact ⟨v', hc, hv _ h1⟩
  case refine_13 => intro c h; simpa [VR] using h
  case refine_14 => intro cs hcs c hc; simp only [VR] at hc ⊢; obtain ⟨cs', hc, h1⟩ := hc; exact ⟨cs', hc, hcs _ h1⟩
  case refine_15 => intro cs hcs c hc; simp only [VR] at hc ⊢; obtain ⟨cs', hc, h1⟩ := hc; exact ⟨cs', hc, hcs _ h1⟩
  case refine_16 => intro l hl c hc; exact hl _ hc
  case refine_17 => intro c hc; exact hc
  case refine_18 => intro v l hv hl c hc; obtain ⟨v', m, e, h1, h2⟩ := hc; exact ⟨v', m, e, hv _ h1, hl _ h2⟩
theorem VRL_mono (h : ρ.le ρ') : ∀ (l c : List Value), VRL P ρ l c → VRL P ρ' l c
  | [], _, hc => hc
  | _ :: l, _, ⟨v', m, e, h1, h2⟩ => ⟨v', m, e, VR_mono h _ _ h1, VRL_mono h l m h2⟩
theorem VRL_length : ∀ {l c : List Value}, VRL P ρ l c → c.length = l.length
  | [], _, h => by cases h; rfl
  | _ :: l, _, ⟨v', m, e, h1, h2⟩ => by subst e; simp [VRL_length h2]
theorem VRL_get : ∀ {l c : List Value} (h : VRL P ρ l c) (i : Nat) (v : Value), l[i]? = some v → ∃ v', c[i]? = some v' ∧ VR P ρ v v'
  | [], _, h, i, v, hi => by simp at hi
  | x :: l, _, ⟨v', m, e, h1, h2⟩, 0, v, hi => by simp at hi; subst hi; subst e; exact ⟨v', by simp, h1⟩
  | x :: l, _, ⟨v', m, e, h1, h2⟩, i + 1, v, hi => by subst e; simpa using VRL_get h2 i v (by simpa using hi)
theorem VRL_of : ∀ {l c : List Value}, c.length = l.length → (∀ (i : Nat) v v', l[i]? = some v → c[i]? = some v' → VR P ρ v v') → VRL P ρ l c
  | [], c, hl, _ => by simpa [VRL_nil] using hl
  | v :: l, [], hl, _ => by simp at hl
  | v :: l, v' :: c, hl, h => ⟨v', c, rfl, h 0 v v' rfl rfl, VRL_of (by simpa using hl) fun i a b ha hb => h (i + 1) a b (by simpa using ha) (by simpa using hb)⟩
theorem VRL_append {l c m d : List Value} (h : VRL P ρ l c) (k : VRL P ρ m d) : VRL P ρ (l ++ m) (c ++ d) := by
  induction l generalizing c with
  | nil => cases h; exact k
  | cons v l ih => obtain ⟨v', m', rfl, h1, h2⟩ := h; exact ⟨v', m' ++ d, rfl, h1, ih h2⟩
/-- What has no address reads the same. -/
theorem VR_flat : ∀ (n : Nat) (v c : Value), flatN n v = true → (VR P ρ v c ↔ c = v) := by
  have hl : ∀ n, (∀ (v c : Value), flatN n v = true → (VR P ρ v c ↔ c = v)) → ∀ (l c : List Value), l.all (flatN n) = true → (VRL P ρ l c ↔ c = l) := by
    intro n ih l
    induction l with
    | nil => intro c _; exact Iff.rfl
    | cons v l ihl =>
      intro c h
      simp only [List.all_cons, Bool.and_eq_true] at h
      rw [VRL_cons]
      constructor
      · rintro ⟨v', m, rfl, h1, h2⟩; rw [(ih v v' h.1).1 h1, (ihl m h.2).1 h2]
      · rintro rfl; exact ⟨v, l, rfl, (ih v v h.1).2 rfl, (ihl l h.2).2 rfl⟩
  have ha : ∀ n, (∀ (v c : Value), flatN n v = true → (VR P ρ v c ↔ c = v)) → ∀ (l c : Array Value), l.toList.all (flatN n) = true → (VR.VRA P ρ l c ↔ c = l) := by
    intro n ih l c h
    rw [VRA_iff, hl n ih _ _ h]
    exact ⟨fun e => by cases l; cases c; simp_all, fun e => by rw [e]⟩
  intro n
  induction n with
  | zero =>
    intro v c h
    cases v with
    | pointer a => cases a <;> first | (simp [flatN] at h; done) | simp [VR]
    | slice a n m => cases a <;> first | (simp [flatN] at h; done) | simp [VR]
    | map a => cases a <;> first | (simp [flatN] at h; done) | simp [VR]
    | func fn a b => cases fn <;> simp [flatN] at h
    | _ => first | (simp [flatN] at h; done) | simp [VR]
  | succ n ih =>
    intro v c h
    cases v with
    | pointer a => cases a <;> first | (simp [flatN] at h; done) | simp [VR]
    | slice a n m => cases a <;> first | (simp [flatN] at h; done) | simp [VR]
    | map a => cases a <;> first | (simp [flatN] at h; done) | simp [VR]
    | func fn a b =>
      cases fn with
      | func f =>
        simp only [flatN, Bool.and_eq_true] at h
        simp only [VR]
        constructor
        · rintro ⟨f', c', rfl, h1, h2⟩; rw [(ha n ih _ _ h.1).1 h1, (ha n ih _ _ h.2).1 h2]
        · rintro rfl; exact ⟨a, b, rfl, (ha n ih _ _ h.1).2 rfl, (ha n ih _ _ h.2).2 rfl⟩
      | _ => simp [flatN] at h
    | iface t v =>
      simp only [flatN] at h
      simp only [VR]
      exact ⟨fun ⟨v', e, h1⟩ => by rw [e, (ih v v' h).1 h1], fun e => ⟨v, e, (ih v v h).2 rfl⟩⟩
    | agg cs =>
      simp only [flatN] at h
      simp only [VR]
      exact ⟨fun ⟨v', e, h1⟩ => by rw [e, (ha n ih cs v' h).1 h1], fun e => ⟨cs, e, (ha n ih cs cs h).2 rfl⟩⟩
    | tuple cs =>
      simp only [flatN] at h
      simp only [VR]
      exact ⟨fun ⟨v', e, h1⟩ => by rw [e, (ha n ih cs v' h).1 h1], fun e => ⟨cs, e, (ha n ih cs cs h).2 rfl⟩⟩
    | _ => first | (simp [flatN] at h; done) | simp [VR]
theorem VRL_flat (n : Nat) : ∀ (l c : List Value), l.all (flatN n) = true → (VRL P ρ l c ↔ c = l)
  | [], c, _ => Iff.rfl
  | v :: l, c, h => by
    simp only [List.all_cons, Bool.and_eq_true] at h
    rw [VRL_cons]
    constructor
    · rintro ⟨v', m, rfl, h1, h2⟩; rw [(VR_flat n v v' h.1).1 h1, (VRL_flat n l m h.2).1 h2]
    · rintro rfl; exact ⟨v, l, rfl, (VR_flat n v v h.1).2 rfl, (VRL_flat n l l h.2).2 rfl⟩
end
end Go.Proofs.YtemldmjpanmdbaaGreatDoor.Ev

namespace Go.Proofs.YtemldmjpanmdbaaGreatDoor.Ev
open Go.RowKit
section
variable {P : Program} {ρ ρ' : Ren} {B : Nat} {w w' : World}
def isDead : AO → Bool
  | .inl _ => false
  | .inr o => match o with | .map .. | .mapIter .. | .loop _ | .deferred _ => false | _ => true
def ER (P : Program) (ρ : Ren) : List MapEntry → List MapEntry → Prop
  | [], c => c = []
  | e :: l, c => ∃ e' m, c = e' :: m ∧ flat e.key = true ∧ e'.key = e.key ∧ e'.born = e.born ∧ VR P ρ e.val e'.val ∧ ER P ρ l m
theorem ER_mono (h : ρ.le ρ') : ∀ (l c : List MapEntry), ER P ρ l c → ER P ρ' l c
  | [], _, hc => hc
  | _ :: l, _, ⟨v', m, e, h0, h1, h2, h3, h4⟩ => ⟨v', m, e, h0, h1, h2, VR_mono h _ _ h3, ER_mono h l m h4⟩
/-- A loop's record. -/
structure LR (P : Program) (ρ : Ren) (l l' : Loop) : Prop where
  state : l'.state = l.state
  pending : l'.pending = l.pending
  size : l'.tmps.size = l.tmps.size
  params : l'.params = l.params
  assign : l'.assign = l.assign
  body : l'.body = l.body
  tmps : ∀ (t : Nat) v, l.tmps[t]? = some v → ∃ v', l'.tmps[t]? = some v' ∧ VR P ρ v v'
  defers : ∃ q, ρ l.defers = some q ∧ l'.defers = q.b
theorem LR.mono (h : ρ.le ρ') {l l' : Loop} (k : LR P ρ l l') : LR P ρ' l l' :=
  ⟨k.state, k.pending, k.size, k.params, k.assign, k.body, fun t v hv => let ⟨v', h1, h2⟩ := k.tmps t v hv; ⟨v', h1, VR_mono h _ _ h2⟩, let ⟨q, h1, h2⟩ := k.defers; ⟨q, h _ _ h1, h2⟩⟩
/-- What lies at a place. -/
def OR (P : Program) (ρ : Ren) (p : Pl) (o : AO) (w : World) : Prop :=
  match o with
  | .inl row => ∃ cc, w.heap[p.b]? = some (.cells cc row.t (0, 0)) ∧ cc.size = p.n ∧ p.t = row.t ∧ p.s + row.len ≤ p.n ∧ row.len ≤ 2 ^ row.d ∧
      ∀ x v, x < row.len → Tr.get row.d row.c x = some v → ∃ v', cc[p.s + x]? = some v' ∧ VR P ρ v v'
  | .inr (.map es clock) => ∃ es', w.heap[p.b]? = some (.map es' clock) ∧ ER P ρ es.toList es'.toList
  | .inr (.mapIter m since seen last) => ∃ m', p.s = 0 ∧ w.heap[p.b]? = some (.mapIter m' since seen last) ∧ (m = none ∧ m' = none ∨ ∃ r q, m = some r ∧ ρ r = some q ∧ m' = some q.b)
  | .inr (.loop l) => ∃ l', w.heap[p.b]? = some (.loop l') ∧ LR P ρ l l'
  | .inr (.deferred ds) => ∃ ds', ds = some [] ∧ w.heap[p.b]? = some (.deferred ds') ∧ ds' = some []
  | _ => True
theorem OR.mono (h : ρ.le ρ') {p : Pl} {o : AO} (k : OR P ρ p o w) : OR P ρ' p o w := by
  rcases o with row | o
  · obtain ⟨cc, h1, h2, h3, h4, h5, h6⟩ := k
    exact ⟨cc, h1, h2, h3, h4, h5, fun x v hx hv => let ⟨v', a, b⟩ := h6 x v hx hv; ⟨v', a, VR_mono h _ _ b⟩⟩
  · cases o <;> try exact trivial
    case map es clock => obtain ⟨es', h1, h2⟩ := k; exact ⟨es', h1, ER_mono h _ _ h2⟩
    case mapIter m a b c =>
      obtain ⟨m', h0, h1, h2⟩ := k
      refine ⟨m', h0, h1, ?_⟩
      rcases h2 with h2 | ⟨r, q, h3, h4, h5⟩
      · exact .inl h2
      · exact .inr ⟨r, q, h3, h _ _ h4, h5⟩
    case loop l => obtain ⟨l', h1, h2⟩ := k; exact ⟨l', h1, h2.mono h⟩
    case deferred ds => exact k
theorem OR.same {p : Pl} {o : AO} (h : w'.heap[p.b]? = w.heap[p.b]?) (k : OR P ρ p o w) : OR P ρ p o w' := by
  rcases o with row | o
  · obtain ⟨cc, h1, k⟩ := k; exact ⟨cc, h.trans h1, k⟩
  · cases o <;> try exact trivial
    case map es clock => obtain ⟨es', h1, h2⟩ := k; exact ⟨es', h.trans h1, h2⟩
    case mapIter m a b c => obtain ⟨m', h0, h1, h2⟩ := k; exact ⟨m', h0, h.trans h1, h2⟩
    case loop l => obtain ⟨l', h1, h2⟩ := k; exact ⟨l', h.trans h1, h2⟩
    case deferred ds => obtain ⟨d, h0, h1, h2⟩ := k; exact ⟨d, h0, h.trans h1, h2⟩
abbrev Hp := Nat → Option AO
def upd (V : Hp) (r : Nat) (o : AO) : Hp := fun k => if k = r then some o else V k
/-- One heap over another. -/
def ov (h V : Hp) : Hp := fun r => (h r).or (V r)
theorem ov_upd (h V : Hp) (r : Nat) (o : AO) : ov (upd h r o) V = upd (ov h V) r o := by
  funext k
  by_cases hk : k = r <;> simp [ov, upd, hk]
theorem ov_of {h V : Hp} {r : Nat} {o : AO} (hr : h r = some o) : ov h V r = some o := by simp [ov, hr]
/-- The reckoner's heap and the world's. -/
structure G (P : Program) (B : Nat) (ρ : Ren) (V : Hp) (w : World) : Prop where
  at_ : ∀ r o, V r = some o → isDead o = false → ∃ p, ρ r = some p ∧ OR P ρ p o w
  plc : ∀ r p, ρ r = some p → B ≤ p.b ∧ p.b < w.heap.size
  apart : ∀ r r' o o' p p', r ≠ r' → V r = some o → isDead o = false → V r' = some o' → isDead o' = false → ρ r = some p → ρ r' = some p' → p.b ≠ p'.b
theorem G.put {V : Hp} {r : Nat} {o : AO} {p : Pl} (h : G P B ρ V w) (hle : ρ.le ρ') (hr : ρ' r = some p) (hother : ∀ k, k ≠ r → ρ' k = ρ k) (hB : B ≤ p.b) (hlt : p.b < w'.heap.size)
    (hsz : w.heap.size ≤ w'.heap.size) (hheap : ∀ k, k ≠ p.b → k < w.heap.size → w'.heap[k]? = w.heap[k]?)
    (hap : ∀ k ok pk, k ≠ r → V k = some ok → isDead ok = false → ρ k = some pk → pk.b ≠ p.b) (ho : OR P ρ' p o w') : G P B ρ' (upd V r o) w' := by
  refine ⟨fun k ok hk hd => ?_, fun k pk hk => ?_, fun k k' ok ok' pk pk' hne hk hd hk' hd' hp hp' => ?_⟩
  · by_cases hkr : k = r
    · subst hkr
      simp only [upd, if_true, Option.some.injEq] at hk
      subst hk
      exact ⟨p, hr, ho⟩
    · simp only [upd, hkr, if_false] at hk
      obtain ⟨pk, h1, h2⟩ := h.at_ k ok hk hd
      exact ⟨pk, hle _ _ h1, (h2.mono hle).same (hheap _ (hap k ok pk hkr hk hd h1) (h.plc k pk h1).2)⟩
  · by_cases hkr : k = r
    · subst hkr; rw [hr] at hk; cases hk; exact ⟨hB, hlt⟩
    · rw [hother k hkr] at hk
      have := h.plc k pk hk
      exact ⟨this.1, by omega⟩
  · by_cases h1 : k = r
    · subst h1
      have h2 : k' ≠ k := fun e => hne e.symm
      simp only [upd, h2, if_false] at hk'
      rw [hr] at hp; cases hp
      rw [hother k' h2] at hp'
      exact (hap k' ok' pk' h2 hk' hd' hp').symm
    · simp only [upd, h1, if_false] at hk
      rw [hother k h1] at hp
      by_cases h2 : k' = r
      · subst h2
        rw [hr] at hp'; cases hp'
        exact hap k ok pk h1 hk hd hp
      · simp only [upd, h2, if_false] at hk'
        rw [hother k' h2] at hp'
        exact h.apart k k' ok ok' pk pk' hne hk hd hk' hd' hp hp'
theorem G.kill {V : Hp} (h : G P B ρ V w) (r : Nat) {o : AO} (ho : isDead o = true) : G P B ρ (upd V r o) w := by
  refine ⟨fun k ok hk hd => ?_, h.plc, fun k k' ok ok' pk pk' hne hk hd hk' hd' hp hp' => ?_⟩
  · by_cases hkr : k = r
    · subst hkr; simp only [upd, if_true, Option.some.injEq] at hk; subst hk; rw [ho] at hd; cases hd
    · simp only [upd, hkr, if_false] at hk; exact h.at_ k ok hk hd
  · by_cases h1 : k = r
    · subst h1; simp only [upd, if_true, Option.some.injEq] at hk; subst hk; rw [ho] at hd; cases hd
    · by_cases h2 : k' = r
      · subst h2; simp only [upd, if_true, Option.some.injEq] at hk'; subst hk'; rw [ho] at hd'; cases hd'
      · simp only [upd, h1, if_false] at hk; simp only [upd, h2, if_false] at hk'
        exact h.apart k k' ok ok' pk pk' hne hk hd hk' hd' hp hp'
theorem G.heap {V : Hp} (h : G P B ρ V w) (he : w'.heap = w.heap) : G P B ρ V w' :=
  ⟨fun r o hr hd => let ⟨p, h1, h2⟩ := h.at_ r o hr hd; ⟨p, h1, h2.same (by rw [he])⟩, fun r p hp => by rw [he]; exact h.plc r p hp, h.apart⟩
theorem G.drew {V : Hp} (h : G P B ρ V w) : G P B ρ V w.drew := h.heap rfl
/-- What a step of the reckoner leaves. -/
structure Nx (B : Nat) (ρ ρ' : Ren) (n n' : Nat) (w w' : World) : Prop where
  le : ρ.le ρ'
  bel : Below B w w'
  dom : ∀ r, ρ r = none → (r < n ∨ n' ≤ r) → ρ' r = none
  nx : n ≤ n'
theorem Nx.refl (B : Nat) (ρ : Ren) (n : Nat) (w : World) : Nx B ρ ρ n n w w := ⟨ρ.le_refl, Below.refl _ _, fun _ h _ => h, Nat.le_refl _⟩
theorem Nx.drew (B : Nat) (ρ : Ren) (n : Nat) (w : World) : Nx B ρ ρ n n w w.drew := ⟨ρ.le_refl, (Below.refl B w).drew, fun _ h _ => h, Nat.le_refl _⟩
theorem Nx.trans {ρ ρ' ρ'' : Ren} {n n' n'' : Nat} {w w' w'' : World} (h : Nx B ρ ρ' n n' w w') (k : Nx B ρ' ρ'' n' n'' w' w'') : Nx B ρ ρ'' n n'' w w'' :=
  ⟨Ren.le_trans h.le k.le, h.bel.trans k.bel, fun r hr hn => k.dom r (h.dom r hr (by have := h.nx; have := k.nx; omega)) (by have := h.nx; have := k.nx; omega), Nat.le_trans h.nx k.nx⟩
/-- The numbers that are given out are new ones. -/
def Fsh (ρ : Ren) (n n' : Nat) : Prop := ∀ r, n ≤ r → r < n' → ρ r = none
theorem Fsh.fst {ρ : Ren} {n n' n'' : Nat} (h : Fsh ρ n n'') (hn : n' ≤ n'') : Fsh ρ n n' := fun r h1 h2 => h r h1 (by omega)
theorem Fsh.snd {ρ ρ' : Ren} {n n' n'' : Nat} {w w' : World} (h : Fsh ρ n n'') (k : Nx B ρ ρ' n n' w w') : Fsh ρ' n' n'' :=
  fun r h1 h2 => k.dom r (h r (by have := k.nx; omega) h2) (.inr h1)
end
end Go.Proofs.YtemldmjpanmdbaaGreatDoor.Ev

namespace Go.Proofs.YtemldmjpanmdbaaGreatDoor.Ev
open Go.RowKit
section
variable {P : Program} {E : Env} {ρ ρ' : Ren} {B : Nat} {w w' : World} {S S' : St} {V : Hp}
abbrev GS (P : Program) (B : Nat) (ρ : Ren) (S : St) (V : Hp) (w : World) : Prop := G P B ρ (ov (rdO S) V) w
theorem ble_iff {a b : Nat} : Nat.ble a b = true ↔ a ≤ b := by rw [Nat.ble_eq]
theorem blt_iff {a b : Nat} : Nat.blt a b = true ↔ a < b := by rw [Nat.blt, Nat.ble_eq]; exact Iff.rfl
theorem blt_false {a b : Nat} (h : ¬ a < b) : Nat.blt a b = false := by
  cases hb : Nat.blt a b
  · rfl
  · exact absurd (blt_iff.1 hb) h
theorem rdO_lt {r : Nat} {o : AO} (h : rdO S r = some o) : r < 4096 := by
  unfold rdO at h
  exact blt_iff.1 (cond_some.1 h).1
theorem rdO_eq (S : St) (r : Nat) : rdO S r = if r < 4096 then Tr.get HD S.h r else none := by
  unfold rdO
  by_cases h : r < 4096
  · rw [blt_iff.2 h, if_pos h]; rfl
  · rw [blt_false h, if_neg h]; rfl
theorem rdO_set (h : Tr AO HD) (n r : Nat) (o : AO) (hr : r < 4096) (m : Nat) : rdO { h := Tr.set HD h r (some o), nx := n } = upd (rdO { h := h, nx := m }) r o := by
  funext k
  rw [rdO_eq, upd, rdO_eq]
  by_cases hk : k < 4096
  · rw [if_pos hk, if_pos hk, Tr.get_set' hk hr]
  · rw [if_neg hk, if_neg hk, if_neg (by omega)]
theorem rdO_putO {r : Nat} (o : AO) (hr : r < 4096) : rdO (putO S r o) = upd (rdO S) r o := rdO_set S.h S.nx r o hr S.nx
theorem rdR_some {r : Nat} {row : Row} : rdR S r = some row ↔ rdO S r = some (.inl row) := by
  unfold rdR
  rw [ob_some]
  constructor
  · rintro ⟨o, h1, h2⟩
    rcases o with row' | o
    · cases h2; exact h1
    · cases h2
  · intro h; exact ⟨_, h, rfl⟩
theorem G.of_row {r : Nat} {row : Row} (h : GS P B ρ S V w) (hr : rdR S r = some row) : ∃ p, ρ r = some p ∧ OR P ρ p (.inl row) w :=
  h.at_ r _ (ov_of (rdR_some.1 hr)) rfl
theorem cell_of {p : Pl} {cc : Array Value} {t : TypeId} {x : Nat} {v : Value} (h : w.heap[p.b]? = some (.cells cc t (0, 0))) (hx : cc[x]? = some v) : w.cell? ⟨p.b, x, none⟩ = some v := by
  simp [World.cell?, h, hx]
theorem rdC_spec {r x : Nat} {v : Value} (h : GS P B ρ S V w) (hr : rdC S r x = some v) : ∃ p v', ρ r = some p ∧ w.cell? ⟨p.b, p.s + x, none⟩ = some v' ∧ VR P ρ v v' := by
  unfold rdC at hr
  obtain ⟨row, h1, h2⟩ := ob_some.1 hr
  obtain ⟨h2, h3⟩ := iff_some.1 h2
  obtain ⟨p, hp, cc, a, b, c, d, e, f⟩ := h.of_row h1
  obtain ⟨v', g1, g2⟩ := f x v (blt_iff.1 h2) h3
  exact ⟨p, v', hp, cell_of a g1, g2⟩
theorem cellsFrom_spec (row : Row) : ∀ (n x : Nat) (l : List Value), cellsFrom row x n = some l → l.length = n ∧ ∀ (i : Nat) v, l[i]? = some v → Tr.get row.d row.c (x + i) = some v
  | 0, x, l, h => by cases h; simp
  | n + 1, x, l, h => by
    unfold cellsFrom at h
    obtain ⟨v, h1, h2⟩ := ob_some.1 h
    obtain ⟨m, h3, h4⟩ := ob_some.1 h2
    cases h4
    obtain ⟨h5, h6⟩ := cellsFrom_spec row n _ m h3
    refine ⟨by simp [h5], fun i u hi => ?_⟩
    cases i with
    | zero => simp at hi; subst hi; exact h1
    | succ i =>
      have := h6 i u (by simpa using hi)
      rw [show x + (i + 1) = Nat.add x 1 + i by show _ = x + 1 + i; omega]; exact this
theorem rdCs_spec {r x n : Nat} {l : List Value} (h : GS P B ρ S V w) (hr : rdCs S r x n = some l) :
    ∃ p l', ρ r = some p ∧ VRL P ρ l l' ∧ l'.length = n ∧ p.s + x + n ≤ p.n ∧ ∀ (j : Nat) v, l'[j]? = some v → w.cell? ⟨p.b, p.s + x + j, none⟩ = some v := by
  unfold rdCs at hr
  obtain ⟨row, h1, h2⟩ := ob_some.1 hr
  obtain ⟨h2, h3⟩ := iff_some.1 h2
  have h2 : x + n ≤ row.len := ble_iff.1 h2
  obtain ⟨p, hp, cc, a, b, c, d, e, f⟩ := h.of_row h1
  obtain ⟨h5, h6⟩ := cellsFrom_spec row n x l h3
  refine ⟨p, (cc.toList.drop (p.s + x)).take n, hp, ?_, ?_, by omega, ?_⟩
  · refine VRL_of ?_ ?_
    · simp only [List.length_take, List.length_drop, h5, Array.length_toList]; omega
    · intro i u u' hu hu'
      have hi : i < n := by rw [← h5]; exact (List.getElem?_eq_some_iff.1 hu).1
      obtain ⟨v', g1, g2⟩ := f (x + i) u (by omega) (h6 i u hu)
      rw [List.getElem?_take_of_lt hi, List.getElem?_drop, Array.getElem?_toList, show p.s + x + i = p.s + (x + i) by omega, g1] at hu'
      cases hu'; exact g2
  · simp [List.length_take, List.length_drop]; omega
  · intro j v hj
    have hjn : j < n := by
      rcases Nat.lt_or_ge j n with h | h
      · exact h
      · rw [List.getElem?_eq_none (by simp [List.length_take]; omega)] at hj; cases hj
    rw [List.getElem?_take_of_lt hjn, List.getElem?_drop, Array.getElem?_toList] at hj
    exact cell_of a hj
theorem setCells_spec {d : Nat} : ∀ (l : List Value) (c c' : Tr Value d) (x : Nat), setCells c x l = some c' → x + l.length ≤ 2 ^ d →
    (∀ v ∈ l, oneCell v = true) ∧ ∀ k, k < 2 ^ d → Tr.get d c' k = if x ≤ k ∧ k < x + l.length then l[k - x]? else Tr.get d c k
  | [], c, c', x, h, _ => by
    cases h
    refine ⟨by simp, fun k hk => ?_⟩
    rw [if_neg (by simp)]
  | v :: l, c, c', x, h, hl => by
    unfold setCells at h
    obtain ⟨h1, h2⟩ := cond_some.1 h
    simp only [List.length_cons] at hl
    obtain ⟨h3, h4⟩ := setCells_spec l _ c' _ h2 (by show x + 1 + l.length ≤ _; omega)
    refine ⟨by simpa [h1] using h3, fun k hk => ?_⟩
    rw [h4 k hk, Tr.get_set' hk (by omega)]
    show (if x + 1 ≤ k ∧ k < x + 1 + l.length then l[k - (x + 1)]? else if k = x then some v else Tr.get d c k) = _
    simp only [List.length_cons]
    by_cases hx : k = x
    · subst hx
      rw [if_neg (by omega), if_pos rfl, if_pos (by omega)]; simp
    · rw [if_neg hx]
      by_cases h5 : x + 1 ≤ k ∧ k < x + 1 + l.length
      · rw [if_pos h5, if_pos (by omega), show k - x = k - (x + 1) + 1 by omega]; simp
      · rw [if_neg h5, if_neg (by omega)]
theorem oneCell_VR {v v' : Value} (h : oneCell v = true) (hv : VR P ρ v v') : v'.oneCell' = true := by
  cases v with
  | agg cs => cases h
  | tuple cs => cases h
  | chan c =>
    match c, h, hv with
    | some (m + 1), _, hv => simp only [VR] at hv; obtain ⟨n, rfl, _⟩ := hv; rfl
  | pointer a => cases a with
    | none => simp only [VR] at hv; subst hv; rfl
    | some a => simp only [VR] at hv; obtain ⟨p, _, _, rfl⟩ := hv; rfl
  | slice a n m =>
    match a, hv with
    | none, hv => simp only [VR] at hv; subst hv; rfl
    | some ⟨r, off, none⟩, hv => simp only [VR] at hv; obtain ⟨p, _, rfl⟩ := hv; rfl
    | some ⟨r, off, some 0⟩, hv => simp only [VR] at hv; obtain ⟨_, p, c, _, _, _, rfl⟩ := hv; rfl
    | some ⟨r, off, some (k + 1)⟩, hv => simp only [VR] at hv; obtain ⟨_, _, a, c, rfl⟩ := hv; rfl
  | map a => cases a with
    | none => simp only [VR] at hv; subst hv; rfl
    | some a => simp only [VR] at hv; obtain ⟨p, _, rfl⟩ := hv; rfl
  | func fn a b => cases fn with
    | yield l => simp only [VR] at hv; obtain ⟨_, _, p, _, rfl⟩ := hv; rfl
    | _ => simp only [VR] at hv; obtain ⟨f, c, rfl, _, _⟩ := hv; rfl
  | iface t v => simp only [VR] at hv; obtain ⟨v', rfl, _⟩ := hv; rfl
  | _ => simp only [VR] at hv; subst hv; rfl
theorem oneCell_VRL : ∀ {l l' : List Value}, (∀ v ∈ l, oneCell v = true) → VRL P ρ l l' → ∀ v ∈ l', v.oneCell' = true
  | [], _, _, h => by cases h; simp
  | v :: l, _, h, ⟨v', m, e, h1, h2⟩ => by
    subst e
    intro u hu
    rcases List.mem_cons.1 hu with rfl | hu
    · exact oneCell_VR (h v (by simp)) h1
    · exact oneCell_VRL (fun u hu => h u (by simp [hu])) h2 u hu
/-- Cells are written into a row. -/
theorem wrCs_spec {r x : Nat} {l l' : List Value} (h : GS P B ρ S V w) (hr : wrCs E S r x l = some S') (hl : VRL P ρ l l') :
    ∃ p w', ρ r = some p ∧ (storeCells ⟨p.b, p.s + x, none⟩ l').run P w = .ok () w' ∧ GS P B ρ S' V w' ∧ Nx B ρ ρ S.nx S'.nx w w' ∧ S'.nx = S.nx := by
  unfold wrCs at hr
  obtain ⟨row, h1, h2⟩ := ob_some.1 hr
  obtain ⟨hb, hc⟩ := iff_some.1 h2
  obtain ⟨c, h3, h4⟩ := ob_some.1 hc
  cases h4
  have h2 : x + l.length ≤ row.len := ble_iff.1 hb
  clear hb hc
  obtain ⟨p, hp, cc, a, b, c0, d, e, f⟩ := h.of_row h1
  obtain ⟨g1, g2⟩ := setCells_spec l row.c c x h3 (by omega)
  have hlen := VRL_length hl
  have hrun := run_storeCells_at P p.b (p.s + x) row.t l' 0 cc w a (by omega) (oneCell_VRL g1 hl)
  simp only [Nat.add_zero] at hrun
  have hB := (h.plc r p hp).1
  refine ⟨p, _, hp, hrun, ?_, ⟨ρ.le_refl, ?_, fun _ h _ => h, Nat.le_refl _⟩, rfl⟩
  · show G P B ρ (ov (rdO (putO S r _)) V) _
    rw [rdO_putO _ (rdO_lt (rdR_some.1 h1)), ov_upd]
    refine h.put ρ.le_refl hp (fun _ _ => rfl) hB (by rw [setRow_size]; exact (h.plc r p hp).2) (by rw [setRow_size]; exact Nat.le_refl _) (fun k hk _ => setRow_other w p.b k _ hk) ?_ ?_
    · intro k ok pk hkr hk hd hpk
      exact h.apart k r ok (.inl row) pk p hkr hk hd (ov_of (rdR_some.1 h1)) rfl hpk hp
    · refine ⟨_, setRow_heap w p.b cc _ row.t (0, 0) a, ?_, c0, d, e, ?_⟩
      · simp; omega
      · intro k v hk hv
        have hk2 : k < 2 ^ row.d := by show k < _; have : row.len ≤ 2 ^ row.d := e; have : k < row.len := hk; omega
        have hv : Tr.get row.d c k = some v := hv
        rw [g2 k hk2] at hv
        have hk : k < row.len := hk
        by_cases hin : x ≤ k ∧ k < x + l.length
        · rw [if_pos hin] at hv
          obtain ⟨v', u1, u2⟩ := VRL_get hl _ _ hv
          refine ⟨v', ?_, u2⟩
          simp only [List.getElem?_toArray]
          rw [List.append_assoc, List.getElem?_append_right (by simp; omega), List.getElem?_append_left (by simp; omega)]
          rw [show p.s + k - (List.take (p.s + x) cc.toList).length = k - x by simp; omega]; exact u1
        · rw [if_neg hin] at hv
          obtain ⟨v', u1, u2⟩ := f k v hk hv
          refine ⟨v', ?_, u2⟩
          simp only [List.getElem?_toArray]
          by_cases hlo : k < x
          · rw [List.append_assoc, List.getElem?_append_left (by simp; omega), List.getElem?_take_of_lt (by omega), Array.getElem?_toList]; exact u1
          · rw [List.getElem?_append_right (by simp; omega), List.getElem?_drop, Array.getElem?_toList]
            rw [show p.s + x + l'.length + (p.s + k - (List.take (p.s + x) cc.toList ++ l').length) = p.s + k by simp; omega]; exact u1
  · exact ⟨rfl, rfl, rfl, by rw [setRow_size]; exact Nat.le_refl _, fun k hk => setRow_other w p.b k _ (by omega)⟩
/-- A renaming with one more. -/
def Ren.put (ρ : Ren) (r : Nat) (p : Pl) : Ren := fun k => if k = r then some p else ρ k
theorem Ren.le_put {r : Nat} (p : Pl) (h : ρ r = none) : ρ.le (ρ.put r p) := fun k q hk => by
  by_cases e : k = r
  · subst e; rw [h] at hk; cases hk
  · simp [Ren.put, e, hk]
theorem newO_spec {o : AO} {q : Nat × St} (h : newO S o = some q) : S.nx < 4096 ∧ q.1 = S.nx ∧ q.2.nx = S.nx + 1 ∧ rdO q.2 = upd (rdO S) S.nx o := by
  unfold newO at h
  obtain ⟨h1, h2⟩ := iff_some.1 h
  cases h2
  have h1 : S.nx < 4096 := blt_iff.1 h1
  exact ⟨h1, rfl, rfl, rdO_set S.h _ S.nx o h1 S.nx⟩
/-- A new block. -/
theorem G.newO {o : AO} {o' : Obj} {q : Nat × St} {n : Nat} {t : TypeId} (h : GS P B ρ S V w) (hq : newO S o = some q) (hf : ρ S.nx = none) (hB : B ≤ w.heap.size)
    (ho : ∀ ρ' : Ren, ρ.le ρ' → OR P ρ' ⟨w.heap.size, 0, n, t⟩ o (w.alloc o')) :
    ∃ ρ', ρ' q.1 = some ⟨w.heap.size, 0, n, t⟩ ∧ GS P B ρ' q.2 V (w.alloc o') ∧ Nx B ρ ρ' S.nx q.2.nx w (w.alloc o') := by
  obtain ⟨h1, h2, h3, h4⟩ := newO_spec hq
  have hle := Ren.le_put ⟨w.heap.size, 0, n, t⟩ hf
  refine ⟨ρ.put S.nx ⟨w.heap.size, 0, n, t⟩, by rw [h2]; simp [Ren.put], ?_, ⟨hle, (Below.refl B w).alloc hB o', fun r hr hn => ?_, by omega⟩⟩
  · show G P B _ (ov (rdO q.2) V) _
    rw [h4, ov_upd]
    refine h.put hle (by simp [Ren.put]) (fun k hk => by simp [Ren.put, hk]) hB (by simp) (by simp) (fun k hk hlt => Below.heap_alloc w o' k hlt) ?_ (ho _ hle)
    intro k ok pk hkr hk hd hpk
    have := (h.plc k pk hpk).2
    show pk.b ≠ w.heap.size
    omega
  · have : r ≠ S.nx := by omega
    simp [Ren.put, this, hr]
theorem get_alloc_new (w : World) (o : Obj) : (w.alloc o).heap[w.heap.size]? = some o := by
  show (w.heap.push o)[w.heap.size]? = _
  simp
theorem rowOf_spec {t : TypeId} {l : List Value} {row : Row} (h : rowOf t l = some row) : row.t = t ∧ row.len = l.length ∧ row.len ≤ 2 ^ row.d ∧ (∀ v ∈ l, oneCell v = true) ∧
    ∀ k, k < row.len → Tr.get row.d row.c k = l[k]? := by
  unfold rowOf at h
  obtain ⟨h1, h2⟩ := iff_some.1 h
  obtain ⟨c, h3, h4⟩ := ob_some.1 h2
  cases h4
  have h1 : l.length ≤ 2 ^ depth l.length := ble_iff.1 h1
  obtain ⟨g1, g2⟩ := setCells_spec l _ c 0 h3 (by omega)
  refine ⟨rfl, rfl, h1, g1, fun k hk => ?_⟩
  have hk : k < l.length := hk
  show Tr.get _ c k = _
  rw [g2 k (by omega), if_pos (by omega)]; simp
theorem newRow_nx {t : TypeId} {l : List Value} {p : Nat × St} (h : newRow S t l = some p) : p.2.nx = S.nx + 1 := by
  obtain ⟨row, _, h2⟩ := ob_some.1 (show ob (rowOf t l) _ = some p from h)
  exact (newO_spec h2).2.2.1
theorem newRow_nx' {t : TypeId} {l : List Value} {p : Nat × St} (h : newRow S t l = some p) : S.nx < p.2.nx := by rw [newRow_nx h]; omega
/-- A new row. -/
theorem newRow_spec {t : TypeId} {l l' : List Value} {q : Nat × St} (h : GS P B ρ S V w) (hq : newRow S t l = some q) (hl : VRL P ρ l l') (hf : ρ S.nx = none) (hB : B ≤ w.heap.size) :
    ∃ ρ', (Go.newRow t l'.toArray).run P w = .ok ⟨w.heap.size, 0, none⟩ (w.alloc (.cells l'.toArray t)) ∧ ρ' q.1 = some ⟨w.heap.size, 0, l.length, t⟩ ∧
      GS P B ρ' q.2 V (w.alloc (.cells l'.toArray t)) ∧ Nx B ρ ρ' S.nx q.2.nx w (w.alloc (.cells l'.toArray t)) ∧ q.2.nx = S.nx + 1 := by
  unfold newRow at hq
  obtain ⟨row, h1, h2⟩ := ob_some.1 hq
  obtain ⟨a, b, c, d, e⟩ := rowOf_spec h1
  obtain ⟨ρ', g1, g2, g3⟩ := h.newO (n := l.length) (t := t) h2 hf hB (o' := .cells l'.toArray t) fun ρ' hle => by
    refine ⟨l'.toArray, by rw [a]; exact get_alloc_new w _, by simp [VRL_length hl], a.symm, by simp [b], c, fun x v hx hv => ?_⟩
    rw [e x hx] at hv
    obtain ⟨v', u1, u2⟩ := VRL_get hl x v hv
    exact ⟨v', by simpa using u1, VR_mono hle _ _ u2⟩
  exact ⟨ρ', by simp [Go.newRow], g1, g2, g3, (newO_spec h2).2.2.1⟩
end
end Go.Proofs.YtemldmjpanmdbaaGreatDoor.Ev

namespace Go.Proofs.YtemldmjpanmdbaaGreatDoor.Ev
open Go.RowKit
/-- What the tables say is so. -/
structure EnvOk (E : Env) : Prop where
  ty : ∀ t d, E.dg t = some d → ∃ i, E.P.info? t = some i ∧ E.P.underlying t = some d.und ∧ i.size = d.size ∧ i.bytes = d.bytes ∧ ∀ z, d.zero = some z → i.zero = some z ∧ flat z = true
  fn : ∀ f g, f < 512 → Tr.get 9 E.fn f = some g → E.P.funcs[f]? = some g
section
variable {E : Env} {ρ ρ' : Ren} {B : Nat} {w w' : World} {S S' : St} {V : Hp}
/-- The temporaries. -/
def TRel (P : Program) (ρ : Ren) (τ : Tmps) (a : Act) : Prop := ∀ t v, τ t = some v → ∃ v', a.tmps[t]? = some v' ∧ VR P ρ v v'
theorem TRel.mono {P : Program} {τ : Tmps} {a : Act} (h : TRel P ρ τ a) (hle : ρ.le ρ') : TRel P ρ' τ a := fun t v hv => let ⟨v', a, b⟩ := h t v hv; ⟨v', a, VR_mono hle _ _ b⟩
theorem opd_spec {x : Operand} {τ : Tmps} {a : Act} {v : Value} (h : TRel E.P ρ τ a) (hx : (opd E x).f τ = some v) : VR E.P ρ v (a.eval x) := by
  cases x with
  | tmp t =>
    obtain ⟨v', h1, h2⟩ := h t v hx
    simp [Act.eval, h1]; exact h2
  | const u =>
    simp only [opd] at hx
    cases hf : flat u <;> rw [hf] at hx
    · cases hx
    · cases hx; exact (VR_flat 8 _ _ hf).2 rfl
  | global g => cases hx
  | func f => cases hx; exact ⟨#[], #[], rfl, VRA_iff.2 rfl, VRA_iff.2 rfl⟩
theorem opds_spec {τ : Tmps} {a : Act} (h : TRel E.P ρ τ a) : ∀ {l : List Operand} {vs : List Value}, (opds E l).f τ = some vs → VRL E.P ρ vs (l.map a.eval)
  | [], vs, hx => by cases hx; rfl
  | x :: l, vs, hx => by
    obtain ⟨v, h1, h2⟩ := ob_some.1 (show ob ((opd E x).f τ) _ = _ from hx)
    obtain ⟨m, h3, h4⟩ := ob_some.1 h2
    cases h4
    exact ⟨_, _, rfl, opd_spec h h1, opds_spec h h3⟩
/-- Pairs. -/
def PRL (P : Program) (ρ : Ren) : List (Nat × Value) → List (Nat × Value) → Prop
  | [], c => c = []
  | x :: l, c => ∃ v' m, c = (x.1, v') :: m ∧ VR P ρ x.2 v' ∧ PRL P ρ l m
theorem opdp_spec {τ : Tmps} {a : Act} (h : TRel E.P ρ τ a) : ∀ {l : List (Nat × Operand)} {vs : List (Nat × Value)}, (opdp E l).f τ = some vs → PRL E.P ρ vs (l.map fun x => (x.1, a.eval x.2)) ∧ ∀ x ∈ vs, known x.2 = true
  | [], vs, hx => by cases hx; exact ⟨rfl, by simp⟩
  | x :: l, vs, hx => by
    obtain ⟨v, h1, h2⟩ := ob_some.1 (show ob ((opd E x.2).f τ) _ = _ from hx)
    obtain ⟨hk, h2⟩ := iff_some.1 h2
    obtain ⟨m, h3, h4⟩ := ob_some.1 h2
    cases h4
    obtain ⟨g1, g2⟩ := opdp_spec h h3
    refine ⟨⟨_, _, rfl, opd_spec h h1, g1⟩, fun y hy => ?_⟩
    rcases List.mem_cons.1 hy with rfl | hy
    · exact hk
    · exact g2 y hy
theorem opdo_spec {τ : Tmps} {a : Act} (h : TRel E.P ρ τ a) {x : Option Operand} {v : Option Value} (hx : (opdo E x).f τ = some v) :
    (x = none ∧ v = none) ∨ ∃ y u, x = some y ∧ v = some u ∧ VR E.P ρ u (a.eval y) := by
  cases x with
  | none => cases hx; exact .inl ⟨rfl, rfl⟩
  | some y =>
    obtain ⟨u, h1, h2⟩ := ob_some.1 (show ob ((opd E y).f τ) _ = _ from hx)
    cases h2
    exact .inr ⟨y, u, rfl, rfl, opd_spec h h1⟩
/-- One operation went well. -/
def Ok1 {α : Type} (P : Program) (B : Nat) (ρ : Ren) (S : St) (V : Hp) (w : World) (s : Sem α) (R : Ren → α → Prop) (S' : St) : Prop :=
  ∃ ρ' w' v', s.run P w = .ok v' w' ∧ R ρ' v' ∧ GS P B ρ' S' V w' ∧ Nx B ρ ρ' S.nx S'.nx w w'
abbrev OkV (P : Program) (B : Nat) (ρ : Ren) (S : St) (V : Hp) (w : World) (s : Sem Value) (v : Value) (S' : St) : Prop := Ok1 P B ρ S V w s (fun ρ' v' => VR P ρ' v v') S'
theorem OkV.same {P : Program} {s : Sem Value} {v v' : Value} (h : GS P B ρ S V w) (hr : s.run P w = .ok v' w) (hv : VR P ρ v v') : OkV P B ρ S V w s v S := ⟨ρ, w, v', hr, hv, h, Nx.refl _ _ _ _⟩
theorem VR_ptr {P : Program} {v c : Value} {a : Addr} (hp : ptrOf v = some a) (h : VR P ρ v c) : ∃ p, ρ a.block = some p ∧ c = .pointer (some ⟨p.b, p.s + a.off, none⟩) := by
  match v, hp, h with
  | .pointer (some ⟨r, off, none⟩), hp, h =>
    cases hp
    simp only [VR] at h
    obtain ⟨p, h1, _, h2⟩ := h
    exact ⟨p, h1, h2⟩
theorem cells_VRL {P : Program} {v v' : Value} (h1 : ∀ u ∈ v.cells.toList, oneCell u = true) (hv : VR P ρ v v') : VRL P ρ v.cells.toList v'.cells.toList := by
  by_cases ha : ∃ cs, v = .agg cs
  · obtain ⟨cs, rfl⟩ := ha
    simp only [VR] at hv
    obtain ⟨cs', rfl, h⟩ := hv
    exact VRA_iff.1 h
  · have hc : v.cells = #[v] := by cases v <;> first | rfl | exact absurd ⟨_, rfl⟩ ha
    rw [hc] at h1 ⊢
    have h2 : v'.oneCell' = true := oneCell_VR (h1 v (by simp)) hv
    have hc' : v'.cells = #[v'] := by cases v' <;> first | rfl | cases h2
    rw [hc']
    exact ⟨v', [], rfl, hv, rfl⟩
theorem run_isAgg {P : Program} {t : TypeId} {d : TypeDesc} (h : P.underlying t = some d) (w : World) : (isAgg t).run P w = .ok (isAggD d) w := by
  simp [isAgg, run_underlying h]
  cases d <;> rfl
theorem run_sizeOf {P : Program} {t : TypeId} {i : TypeInfo} (h : P.info? t = some i) (w : World) : (sizeOf t).run P w = .ok i.size w := by
  simp [sizeOf, typeInfo, h]
theorem run_zero {P : Program} {t : TypeId} {i : TypeInfo} {z : Value} (h : P.info? t = some i) (hz : i.zero = some z) (w : World) : (zeroValue t).run P w = .ok z w := by
  simp [zeroValue, typeInfo, h, hz]
/-- A load. -/
theorem load_spec (hE : EnvOk E) {t : TypeId} {x : Arg Value} {τ : Tmps} {q : Value × St} {c : Value} (h : GS E.P B ρ S V w) (hq : (cLoad E t x).f τ S = some q) (hx : ∀ v, x.f τ = some v → VR E.P ρ v c) :
    OkV E.P B ρ S V w (Instr.loadAt t c) q.1 q.2 := by
  unfold cLoad at hq
  cases hd : E.dg t with
  | none => rw [hd] at hq; cases hq
  | some d =>
    obtain ⟨i, hi, hu, hs, _, _⟩ := hE.ty t d hd
    rw [hd] at hq
    simp only at hq
    cases hag : isAggD d.und <;> rw [hag] at hq <;> simp only [cond_true, cond_false] at hq
    · obtain ⟨v, h1, hq⟩ := ob_some.1 hq
      obtain ⟨a, h2, hq⟩ := ob_some.1 hq
      obtain ⟨u, h3, hq⟩ := ob_some.1 hq
      cases hq
      obtain ⟨p, hp, rfl⟩ := VR_ptr h2 (hx v h1)
      obtain ⟨p', v', hp', hc, hv⟩ := rdC_spec h h3
      rw [hp] at hp'; cases hp'
      refine OkV.same h (v' := v') ?_ hv
      simp [Instr.loadAt, Instr.sureAddr, loadVar, run_isAgg hu, hag, hc]
    · obtain ⟨v, h1, hq⟩ := ob_some.1 hq
      obtain ⟨a, h2, hq⟩ := ob_some.1 hq
      obtain ⟨l, h3, hq⟩ := ob_some.1 hq
      cases hq
      obtain ⟨p, hp, rfl⟩ := VR_ptr h2 (hx v h1)
      obtain ⟨p', l', hp', hl, hlen, _, hc⟩ := rdCs_spec h h3
      rw [hp] at hp'; cases hp'
      refine OkV.same h (v' := .agg l'.toArray) ?_ ?_
      · have hrun := run_loadCells_list (P := E.P) (w := w) ⟨p.b, p.s + a.off, none⟩ l' (fun j v hj => by
          have := hc j v hj
          unfold Addr.add
          split
          · rename_i h0; subst h0; simpa using this
          · simpa using this)
        rw [hlen] at hrun
        simp [Instr.loadAt, Instr.sureAddr, loadVar, run_isAgg hu, hag, run_sizeOf hi, hs, hrun]
      · simp only [VR]; exact ⟨_, rfl, VRA_iff.2 (by simpa using hl)⟩
/-- A store. -/
theorem store_spec (hE : EnvOk E) {t : TypeId} {x y : Arg Value} {τ : Tmps} {q : Value × St} {c e : Value} (h : GS E.P B ρ S V w) (hq : (cStore E t x y).f τ S = some q) (hx : ∀ v, x.f τ = some v → VR E.P ρ v c)
    (hy : ∀ v, y.f τ = some v → VR E.P ρ v e) : q.1 = undef ∧ Ok1 E.P B ρ S V w (Instr.storeAt t c e) (fun _ _ => True) q.2 := by
  unfold cStore at hq
  cases hd : E.dg t with
  | none => rw [hd] at hq; cases hq
  | some d =>
    obtain ⟨i, hi, hu, hs, _, _⟩ := hE.ty t d hd
    rw [hd] at hq
    simp only at hq
    obtain ⟨v, h1, hq⟩ := ob_some.1 hq
    obtain ⟨a, h2, hq⟩ := ob_some.1 hq
    obtain ⟨u, h3, hq⟩ := ob_some.1 hq
    obtain ⟨h4, hq⟩ := iff_some.1 hq
    obtain ⟨S1, h5, hq⟩ := ob_some.1 hq
    cases hq
    refine ⟨rfl, ?_⟩
    obtain ⟨p, hp, rfl⟩ := VR_ptr h2 (hx v h1)
    have h1c : ∀ z ∈ u.cells.toList, oneCell z = true := by
      unfold wrCs at h5
      obtain ⟨row, g1, g2⟩ := ob_some.1 h5
      obtain ⟨g3, g4⟩ := iff_some.1 g2
      obtain ⟨c', g5, g6⟩ := ob_some.1 g4
      obtain ⟨p', hp', cc, _, _, _, _, he, _⟩ := h.of_row g1
      exact (setCells_spec _ _ _ _ g5 (by have : a.off + u.cells.toList.length ≤ row.len := ble_iff.1 g3; have : row.len ≤ 2 ^ row.d := he; omega)).1
    have hl := cells_VRL h1c (hy u h3)
    obtain ⟨p', w', hp', hrun, hG, hN, _⟩ := wrCs_spec h h5 hl
    rw [hp] at hp'; cases hp'
    have hsz : e.cells.size = i.size := by
      have := VRL_length hl
      have h6 : u.cells.size = d.size := Nat.eq_of_beq_eq_true h4
      simp at this
      omega
    exact ⟨ρ, w', (), by simp [Instr.storeAt, Instr.sureAddr, storeVar, run_sizeOf hi, hsz, hrun], trivial, hG, hN⟩
/-- A new variable. -/
theorem var_spec {t : TypeId} {z z' : Value} {q : Nat × St} (h : GS E.P B ρ S V w) (hq : newRow S t z.cells.toList = some q) (hz : VR E.P ρ z z') (hf : ρ S.nx = none) (hB : B ≤ w.heap.size) :
    Ok1 E.P B ρ S V w (newVar t z') (fun ρ' a => VR E.P ρ' (.pointer (some ⟨q.1, 0, none⟩)) (.pointer (some a))) q.2 := by
  have h1 : ∀ u ∈ z.cells.toList, oneCell u = true := by
    unfold newRow at hq
    obtain ⟨row, g1, g2⟩ := ob_some.1 hq
    exact (rowOf_spec g1).2.2.2.1
  obtain ⟨ρ', hrun, hp, hG, hN, _⟩ := newRow_spec h hq (cells_VRL h1 hz) hf hB
  exact ⟨ρ', _, _, by simpa [newVar] using hrun, by simp only [VR]; exact ⟨_, hp, trivial, rfl⟩, by simpa using hG, by simpa using hN⟩
end
end Go.Proofs.YtemldmjpanmdbaaGreatDoor.Ev

namespace Go.Proofs.YtemldmjpanmdbaaGreatDoor.Ev
open Go.RowKit
section
variable {E : Env} {ρ ρ' : Ren} {B : Nat} {w w' : World} {S S' : St} {V : Hp}
/-! ### Composite values -/
theorem fill_spec {P : Program} (place : Nat → Option (Nat × Nat)) : ∀ (l l' : List (Nat × Value)) (z z' cs : Array Value), PRL P ρ l l' → VRL P ρ z.toList z'.toList → (∀ x ∈ l, known x.2 = true) →
    Instr.fill place z l = some cs → ∃ cs', Instr.fill place z' l' = some cs' ∧ VRL P ρ cs.toList cs'.toList
  | [], l', z, z', cs, h, hz, _, hf => by cases h; cases hf; exact ⟨z', rfl, hz⟩
  | x :: l, l', z, z', cs, ⟨v', m, e, h1, h2⟩, hz, hn, hf => by
    subst e
    obtain ⟨i, v⟩ := x
    simp only [Instr.fill] at hf ⊢
    cases hp : place i with
    | none => rw [hp] at hf; cases hf
    | some os =>
      obtain ⟨off, size⟩ := os
      rw [hp] at hf
      simp only at hf ⊢
      have hv : VR P ρ v v' := h1
      have hnc : known v = true := hn (i, v) (by simp)
      have hcells : VRL P ρ v.cells.toList v'.cells.toList := by
        by_cases ha : ∃ cs, v = .agg cs
        · obtain ⟨cs, rfl⟩ := ha
          simp only [VR] at hv
          obtain ⟨cs', rfl, h⟩ := hv
          exact VRA_iff.1 h
        · have hc : v.cells = #[v] := by cases v <;> first | rfl | exact absurd ⟨_, rfl⟩ ha
          have hc' : v'.cells = #[v'] := by
            by_cases ht : ∃ cs, v = .tuple cs
            · obtain ⟨cs, rfl⟩ := ht
              simp only [VR] at hv
              obtain ⟨cs', rfl, _⟩ := hv
              rfl
            · have h3 : oneCell v = true := by cases v <;> first | rfl | exact absurd ⟨_, rfl⟩ ha | exact absurd ⟨_, rfl⟩ ht | exact hnc
              have h2 : v'.oneCell' = true := oneCell_VR h3 hv
              cases v' <;> first | rfl | cases h2
          rw [hc, hc']
          exact ⟨v', [], rfl, hv, rfl⟩
      have hlen : v'.cells.size = v.cells.size := by simpa using VRL_length hcells
      have hzl : z'.size = z.size := by simpa using VRL_length hz
      rw [hlen, hzl]
      split at hf
      · cases hf
      · rename_i hcond
        rw [if_neg hcond]
        refine fill_spec place l m _ _ cs h2 ?_ (fun x hx => hn x (by simp [hx])) hf
        refine VRL_of ?_ ?_
        · have hsz : ∀ (a : List (Value × Nat)) (y : Array Value), (a.foldl (fun cs x => cs.setIfInBounds (off + x.2) x.1) y).size = y.size := by
            intro a
            induction a with
            | nil => intro y; rfl
            | cons b a ih => intro y; simp only [List.foldl_cons]; rw [ih]; simp
          simp only [Array.length_toList, ← Array.foldl_toList]
          rw [hsz, hsz, hzl]
        · have key : ∀ (a a' : List (Value × Nat)) (y y' : Array Value), a'.length = a.length → (∀ (k : Nat) u u', a[k]? = some u → a'[k]? = some u' → u'.2 = u.2 ∧ VR P ρ u.1 u'.1) → y'.size = y.size →
              (∀ (k : Nat) u u', y[k]? = some u → y'[k]? = some u' → VR P ρ u u') →
              ∀ (k : Nat) u u', (a.foldl (fun cs x => cs.setIfInBounds (off + x.2) x.1) y)[k]? = some u → (a'.foldl (fun cs x => cs.setIfInBounds (off + x.2) x.1) y')[k]? = some u' → VR P ρ u u' := by
            intro a
            induction a with
            | nil =>
              intro a' y y' hl _ _ hy k u u' hu hu'
              have : a' = [] := by simpa using hl
              subst this
              exact hy k u u' hu hu'
            | cons b a ih =>
              intro a' y y' hl hab hs hy
              cases a' with
              | nil => simp at hl
              | cons b' a' =>
                simp only [List.foldl_cons]
                obtain ⟨e1, e2⟩ := hab 0 b b' rfl rfl
                refine ih a' _ _ (by simpa using hl) (fun k u u' hu hu' => hab (k + 1) u u' (by simpa using hu) (by simpa using hu')) (by simp [hs]) ?_
                intro k u u' hu hu'
                rw [Array.getElem?_setIfInBounds] at hu hu'
                rw [e1] at hu'
                by_cases hk : off + b.2 = k
                · rw [if_pos hk] at hu hu'
                  split at hu
                  · cases hu
                    split at hu'
                    · cases hu'; exact e2
                    · cases hu'
                  · cases hu
                · rw [if_neg hk] at hu hu'
                  exact hy k u u' hu hu'
          intro k u u' hu hu'
          simp only [Array.getElem?_toList, ← Array.foldl_toList] at hu hu'
          refine key _ _ z z' ?_ ?_ hzl ?_ k u u' hu hu'
          · simp [hlen]
          · intro j a a' ha ha'
            simp only [Array.getElem?_toList, Array.getElem?_zipIdx] at ha ha'
            cases hv1 : v.cells[j]? with
            | none => rw [hv1] at ha; simp at ha
            | some c1 =>
              cases hv2 : v'.cells[j]? with
              | none => rw [hv2] at ha'; simp at ha'
              | some c2 =>
                rw [hv1] at ha; rw [hv2] at ha'
                simp at ha ha'
                subst ha; subst ha'
                obtain ⟨c3, g1, g2⟩ := VRL_get hcells j c1 (by simpa using hv1)
                rw [Array.getElem?_toList, hv2] at g1
                cases g1
                exact ⟨rfl, g2⟩
          · intro k u u' hu hu'
            obtain ⟨c3, g1, g2⟩ := VRL_get hz k u (by simpa using hu)
            rw [Array.getElem?_toList, hu'] at g1
            cases g1; exact g2
end
end Go.Proofs.YtemldmjpanmdbaaGreatDoor.Ev

namespace Go.Proofs.YtemldmjpanmdbaaGreatDoor.Ev
open Go.RowKit
section
variable {E : Env} {ρ ρ' : Ren} {B : Nat} {w w' : World} {S S' : St} {V : Hp}
theorem places_spec (hE : EnvOk E) : ∀ (fs : List Field) (ps : List (Nat × Nat)), places E fs = some ps → fs.mapM (fun f => (E.P.info? f.type).map fun i => (f.offset, i.size)) = some ps
  | [], ps, h => by cases h; rfl
  | f :: fs, ps, h => by
    unfold places at h
    obtain ⟨d, h1, h⟩ := ob_some.1 h
    obtain ⟨qs, h2, h⟩ := ob_some.1 h
    cases h
    obtain ⟨i, hi, _, hs, _, _⟩ := hE.ty _ d h1
    simp [List.mapM_cons, hi, places_spec hE fs qs h2, hs]
theorem flat_cells {P : Program} {z : Value} (h : flat z = true) : VRL P ρ z.cells.toList z.cells.toList := by
  have hz : VR P ρ z z := (VR_flat 8 z z h).2 rfl
  by_cases ha : ∃ cs, z = .agg cs
  · obtain ⟨cs, rfl⟩ := ha
    simp only [flatN] at h
    exact (VRL_flat 7 _ _ h).2 rfl
  · have hc : z.cells = #[z] := by cases z <;> first | rfl | exact absurd ⟨_, rfl⟩ ha
    rw [hc]
    exact ⟨z, [], rfl, hz, rfl⟩
theorem build_spec (hE : EnvOk E) {t : TypeId} {ps : Arg (List (Nat × Value))} {τ : Tmps} {q : Value × St} {l' : Array (Nat × Value)} (h : GS E.P B ρ S V w) (hq : (cBuild E t ps).f τ S = some q)
    (hp : ∀ l, ps.f τ = some l → PRL E.P ρ l l'.toList ∧ ∀ x ∈ l, known x.2 = true) : OkV E.P B ρ S V w (Instr.build t l') q.1 q.2 := by
  unfold cBuild at hq
  split at hq
  · rename_i d fs sz z bz hd
    obtain ⟨i, hi, hu, hs, _, hz⟩ := hE.ty t _ hd
    obtain ⟨hz1, hz2⟩ := hz z rfl
    split at hq
    · rename_i pl hpl
      obtain ⟨l, h1, hq⟩ := ob_some.1 hq
      obtain ⟨cs, h2, hq⟩ := ob_some.1 hq
      cases hq
      obtain ⟨h3, h4⟩ := hp l h1
      obtain ⟨cs', h5, h6⟩ := fill_spec _ l l'.toList z.cells z.cells cs h3 (flat_cells hz2) h4 h2
      refine OkV.same h (v' := .agg cs') (run_build w t l' cs' ?_) (by simp only [VR]; exact ⟨cs', rfl, VRA_iff.2 h6⟩)
      simp only [Program.built, hi, hu, hz1, places_spec hE _ _ hpl]
      exact h5
    · cases hq
  · rename_i d n e sz z bz hd
    obtain ⟨i, hi, hu, hs, _, hz⟩ := hE.ty t _ hd
    obtain ⟨hz1, hz2⟩ := hz z rfl
    split at hq
    · rename_i de hde
      obtain ⟨ie, hie, _, hse, _, _⟩ := hE.ty _ _ hde
      obtain ⟨l, h1, hq⟩ := ob_some.1 hq
      obtain ⟨cs, h2, hq⟩ := ob_some.1 hq
      cases hq
      obtain ⟨h3, h4⟩ := hp l h1
      obtain ⟨cs', h5, h6⟩ := fill_spec _ l l'.toList z.cells z.cells cs h3 (flat_cells hz2) h4 h2
      refine OkV.same h (v' := .agg cs') (run_build w t l' cs' ?_) (by simp only [VR]; exact ⟨cs', rfl, VRA_iff.2 h6⟩)
      simp only [Program.built, hi, hu, hz1, hie, hse]
      exact h5
    · cases hq
  · cases hq
theorem zeros_get (z : List Value) (hz : 0 < z.length) : ∀ (n j : Nat), (zeros z n)[j]? = if j < n * z.length then z[j % z.length]? else none
  | 0, j => by simp [zeros]
  | n + 1, j => by
    simp only [zeros]
    by_cases hj : j < z.length
    · rw [List.getElem?_append_left hj, if_pos (by rw [Nat.succ_mul]; omega), Nat.mod_eq_of_lt hj]
    · rw [List.getElem?_append_right (by omega), zeros_get z hz n]
      have h1 : (j - z.length) % z.length = j % z.length := by rw [← Nat.mod_eq_sub_mod (by omega)]
      rw [h1, Nat.succ_mul]
      by_cases h2 : j < n * z.length + z.length
      · rw [if_pos h2, if_pos (by omega)]
      · rw [if_neg h2, if_neg (by omega)]
theorem zeros_length (z : List Value) : ∀ n, (zeros z n).length = n * z.length
  | 0 => by simp [zeros]
  | n + 1 => by simp only [zeros, List.length_append, zeros_length z n, Nat.succ_mul]; omega
theorem zeros_made (z : Array Value) (hz : 0 < z.size) (n : Nat) : (zeros z.toList n).toArray = madeCells z (n * z.size) := by
  apply Array.ext_getElem?
  intro j
  rw [List.getElem?_toArray, zeros_get _ (by simpa using hz)]
  simp only [madeCells, Array.getElem?_map, Array.length_toList]
  by_cases hj : j < n * z.size
  · rw [if_pos hj]
    have h1 : j % z.size < z.size := Nat.mod_lt _ hz
    simp [hj, h1, getElem!_pos]
  · rw [if_neg hj]
    simp [hj]
theorem zeros_flat {P : Program} {z : Value} (h : flat z = true) : ∀ n, VRL P ρ (zeros z.cells.toList n) (zeros z.cells.toList n)
  | 0 => rfl
  | n + 1 => VRL_append (flat_cells h) (zeros_flat h n)
theorem buildSlice_spec (hE : EnvOk E) {t : TypeId} {n : Nat} {ps : Arg (List (Nat × Value))} {τ : Tmps} {q : Value × St} {l' : Array (Nat × Value)} (h : GS E.P B ρ S V w) (hq : (cBuildSlice E t n ps).f τ S = some q)
    (hf : S.nx < q.2.nx → ρ S.nx = none) (hB : B ≤ w.heap.size)
    (hp : ∀ l, ps.f τ = some l → PRL E.P ρ l l'.toList ∧ ∀ x ∈ l, known x.2 = true) : OkV E.P B ρ S V w (Instr.buildSlice t n l') q.1 q.2 := by
  unfold cBuildSlice at hq
  split at hq
  · rename_i d e sz zz bz hd
    obtain ⟨i, hi, hu, hs, _, _⟩ := hE.ty t _ hd
    split at hq
    · rename_i de ue size z be hde
      obtain ⟨ie, hie, _, hse, _, hz⟩ := hE.ty _ _ hde
      obtain ⟨hz1, hz2⟩ := hz z rfl
      cases hc : (Nat.beq z.cells.size size && Nat.blt 0 size && Nat.ble (Nat.mul n size) 16777216) <;> rw [hc] at hq
      · cases hq
      · simp only [Bool.and_eq_true] at hc
        obtain ⟨⟨c1, c2⟩, c3⟩ := hc
        have c1 : z.cells.size = size := Nat.eq_of_beq_eq_true c1
        have c2 : 0 < size := blt_iff.1 c2
        have c3 : n * size ≤ 16777216 := ble_iff.1 c3
        obtain ⟨l, h1, hq⟩ := ob_some.1 hq
        obtain ⟨cs, h2, hq⟩ := ob_some.1 hq
        obtain ⟨p, h7, hq⟩ := ob_some.1 hq
        cases hq
        obtain ⟨h3, h4⟩ := hp l h1
        obtain ⟨cs', h5, h6⟩ := fill_spec _ l l'.toList _ (zeros z.cells.toList n).toArray cs h3 (by simpa using zeros_flat hz2 n) h4 h2
        obtain ⟨ρ', hrun, hp', hG, hN, _⟩ := newRow_spec h h7 h6 (hf (newRow_nx' h7)) hB
        rw [zeros_made _ (by omega), c1] at h5
        refine ⟨ρ', _, .slice (some ⟨w.heap.size, 0, none⟩) n n, ?_, by simp only [VR]; exact ⟨_, hp', rfl⟩, hG, hN⟩
        have hse : ie.size = size := hse
        have hrun' : (Go.newRow e cs').run E.P w = .ok ⟨w.heap.size, 0, none⟩ (w.alloc (.cells cs' e)) := by simpa using hrun
        have g1 : ¬ (16777216 < n * size) := by omega
        by_cases g0 : n * size = 0
        · simp only [g0, madeCells, Array.range_zero', Array.map_empty] at h5
          simp [Instr.buildSlice, run_underlying hu, run_sizeOf hie, hse, g0, h5, Array.range_zero', hrun']
        · simp [Instr.buildSlice, run_underlying hu, run_sizeOf hie, hse, g0, g1, run_zero hie hz1]
          simp only [madeCells] at h5
          simp [h5, hrun']
    · cases hq
  · cases hq
theorem makeSlice_run (hE : EnvOk E) {t elem : TypeId} {z : Value} {d de : Dg} {k k' : IntKind} {l c : Nat} {q : Nat × St} (h : GS E.P B ρ S V w) (hd : E.dg t = some d) (hu' : d.und = .slice elem) (hde : E.dg elem = some de) (hz' : de.zero = some z)
    (hsz : z.cells.size = de.size) (h0 : 0 < de.size) (hlc : l ≤ c) (hb : c * de.bytes ≤ 16777216) (hc : c ≤ 16777216) (hq : newRow S elem (zeros z.cells.toList c) = some q) (hf : ρ S.nx = none) (hB : B ≤ w.heap.size) :
    OkV E.P B ρ S V w (Instr.makeSlice t (.int k (.ofNat l)) (.int k' (.ofNat c))) (.slice (some ⟨q.1, 0, none⟩) l c) q.2 := by
  obtain ⟨i, hi, hu, hs, _, _⟩ := hE.ty t _ hd
  obtain ⟨ie, hie, _, hse, hbe, hz⟩ := hE.ty _ _ hde
  obtain ⟨hz1, hz2⟩ := hz z hz'
  obtain ⟨ρ', hrun, hp', hG, hN, _⟩ := newRow_spec h hq (zeros_flat hz2 c) hf hB
  have h9 : (ie.bytes : Int) * c ≤ 281474976710656 := by
    rw [hbe, ← Int.natCast_mul, Nat.mul_comm]
    omega
  have hr := run_make (P := E.P) w t elem ie z (by rw [hu, hu']) hie hz1 k k' l c (by omega) (by omega) h9 (by omega)
  rw [zeros_made _ (by omega), hsz] at hG hN
  refine ⟨ρ', _, .slice (some ⟨w.heap.size, 0, none⟩) l c, ?_, by simp only [VR]; exact ⟨_, hp', rfl⟩, hG, hN⟩
  have h8 : (Instr.makeSlice t (.int k (.ofNat l)) (.int k' (.ofNat c))) = Instr.makeSlice t (.int k (l : Int)) (.int k' (c : Int)) := rfl
  rw [h8, hr]
  simp [hse]
/-! ### Parts -/
theorem extract_VRL {P : Program} {cs cs' : Array Value} (h : VRL P ρ cs.toList cs'.toList) (a b : Nat) : VRL P ρ (cs.extract a b).toList (cs'.extract a b).toList := by
  have hl := VRL_length h
  simp only [Array.length_toList] at hl
  refine VRL_of (by simp [hl]) fun i v v' hv hv' => ?_
  simp only [Array.getElem?_toList] at hv hv'
  rw [Array.getElem?_extract] at hv hv'
  rw [hl] at hv'
  split at hv
  · rw [if_pos (by assumption)] at hv'
    obtain ⟨u, g1, g2⟩ := VRL_get h _ v (by simpa using hv)
    rw [Array.getElem?_toList, hv'] at g1
    cases g1; exact g2
  · cases hv
theorem part_spec (hE : EnvOk E) {t : TypeId} {d : Dg} {cs cs' : Array Value} {off : Nat} {v : Value} (hd : E.dg t = some d) (hp : Ev.part d cs off = some v) (h : VRL E.P ρ cs.toList cs'.toList) :
    ∃ v', (Go.part t cs' off).run E.P w = .ok v' w ∧ VR E.P ρ v v' := by
  obtain ⟨i, hi, hu, hs, _, _⟩ := hE.ty t _ hd
  unfold Ev.part at hp
  cases hag : isAggD d.und <;> rw [hag] at hp
  · have hp : cs[off]? = some v := hp
    obtain ⟨v', g1, g2⟩ := VRL_get h off v (by simpa using hp)
    exact ⟨v', by simp only [Array.getElem?_toList] at g1; simp [Go.part, run_isAgg hu, hag, g1], g2⟩
  · cases hp
    exact ⟨_, by simp [Go.part, run_isAgg hu, hag, run_sizeOf hi]; rfl, by simp only [VR]; exact ⟨_, rfl, VRA_iff.2 (by rw [hs]; exact extract_VRL h _ _)⟩⟩
end
end Go.Proofs.YtemldmjpanmdbaaGreatDoor.Ev

namespace Go.Proofs.YtemldmjpanmdbaaGreatDoor.Ev
open Go.RowKit
section
variable {E : Env} {ρ ρ' : Ren} {B : Nat} {w w' : World} {S S' : St} {V : Hp}
theorem toN_some {v : Value} {n : Nat} (h : toN v = some n) : ∃ k, v = .int k (n : Int) := by
  match v, h with
  | .int k (.ofNat m), h => cases h; exact ⟨k, rfl⟩
theorem VR_int {P : Program} {k : IntKind} {n : Int} {c : Value} (h : VR P ρ (.int k n) c) : c = .int k n := by simpa [VR] using h
/-- An option beside another. -/
def OO (P : Program) (ρ : Ren) (o o' : Option Value) : Prop := (o = none ∧ o' = none) ∨ ∃ u c, o = some u ∧ o' = some c ∧ VR P ρ u c
theorem bnd_spec {P : Program} {d n : Nat} {o o' : Option Value} (h : bnd d o = some n) (ho : OO P ρ o o') : (o = none ∧ o' = none ∧ n = d) ∨ ∃ k, o.isSome = true ∧ o' = some (.int k (n : Int)) := by
  rcases ho with ⟨rfl, rfl⟩ | ⟨u, c, rfl, rfl, hv⟩
  · cases h; exact .inl ⟨rfl, rfl, rfl⟩
  · obtain ⟨k, rfl⟩ := toN_some h
    exact .inr ⟨k, rfl, by rw [VR_int hv]⟩
theorem bounds_run {P : Program} (isS : Bool) (len cap l h m : Nat) (lo hi mx : Option Value) (hlo : (lo = none ∧ l = 0) ∨ ∃ k, lo = some (.int k (l : Int))) (hhi : (hi = none ∧ h = len) ∨ ∃ k, hi = some (.int k (h : Int)))
    (hmx : (mx = none ∧ m = cap) ∨ ∃ k, mx = some (.int k (m : Int))) (hb : hi = none → mx = none) (h1 : l ≤ h) (h2 : h ≤ m) (h3 : m ≤ cap) : (Instr.sliceBounds isS len cap lo hi mx).run P w = .ok (l, h, m) w := by
  have a1 : (0 : Int) ≤ l := by omega
  have a2 : (0 : Int) ≤ h := by omega
  have a3 : (0 : Int) ≤ m := by omega
  have b1 : (l : Int) ≤ h := by omega
  have b2 : (h : Int) ≤ m := by omega
  have b3 : (m : Int) ≤ cap := by omega
  rcases hmx with ⟨rfl, rfl⟩ | ⟨km, rfl⟩
  · rcases hhi with ⟨rfl, rfl⟩ | ⟨kh, rfl⟩ <;> rcases hlo with ⟨rfl, rfl⟩ | ⟨kl, rfl⟩ <;> simp [Instr.sliceBounds, run_sliceBound, a1, a2, b1, b2]
  · rcases hhi with ⟨rfl, rfl⟩ | ⟨kh, rfl⟩
    · cases hb rfl
    · rcases hlo with ⟨rfl, rfl⟩ | ⟨kl, rfl⟩ <;> simp [Instr.sliceBounds, run_sliceBound, a1, a2, a3, b1, b2, b3]
theorem add_eq (b o n : Nat) (c : Prop) [Decidable c] (h : c → n = 0 ∨ True) : (if c then (⟨b, o, none⟩ : Addr) else Addr.add ⟨b, o, none⟩ n) = ⟨b, if c then o else o + n, none⟩ := by
  split
  · rfl
  · exact Addr.add_lit b o n
theorem cellsOf_eq {P : Program} {t : TypeId} {i : TypeInfo} (h : P.info? t = some i) : P.cellsOf t = i.size := by simp [Program.cellsOf, h]
theorem slice_spec (hE : EnvOk E) {t : TypeId} {x : Arg Value} {lo hi mx : Arg (Option Value)} {τ : Tmps} {q : Value × St} {c : Value} {lo' hi' mx' : Option Value} (h : GS E.P B ρ S V w) (hq : (cSlice E t x lo hi mx).f τ S = some q)
    (hx : ∀ v, x.f τ = some v → VR E.P ρ v c) (hlo : ∀ v, lo.f τ = some v → OO E.P ρ v lo') (hhi : ∀ v, hi.f τ = some v → OO E.P ρ v hi') (hmx : ∀ v, mx.f τ = some v → OO E.P ρ v mx') :
    OkV E.P B ρ S V w (Instr.sliceAt t c lo' hi' mx') q.1 q.2 := by
  unfold cSlice at hq
  split at hq
  · rename_i d elem sz zz bz hd
    obtain ⟨i, hi0, hu, hs, _, _⟩ := hE.ty t _ hd
    split at hq
    · rename_i de hde
      obtain ⟨ie, hie, hue, hse, _, _⟩ := hE.ty _ _ hde
      obtain ⟨v, g1, hq⟩ := ob_some.1 hq
      obtain ⟨lo1, g2, hq⟩ := ob_some.1 hq
      obtain ⟨hi1, g3, hq⟩ := ob_some.1 hq
      obtain ⟨mx1, g4, hq⟩ := ob_some.1 hq
      obtain ⟨g5, hq⟩ := iff_some.1 hq
      have hv := hx v g1
      cases v with
      | slice a len cap =>
        obtain ⟨l, k1, hq⟩ := ob_some.1 (show ob (bnd 0 lo1) _ = some q from hq)
        obtain ⟨hh, k2, hq⟩ := ob_some.1 hq
        obtain ⟨m, k3, hq⟩ := ob_some.1 hq
        obtain ⟨k4, hq⟩ := iff_some.1 hq
        simp only [Bool.and_eq_true] at k4
        obtain ⟨⟨c1, c2⟩, c3⟩ := k4
        have c1 : l ≤ hh := ble_iff.1 c1
        have c2 : hh ≤ m := ble_iff.1 c2
        have c3 : m ≤ cap := ble_iff.1 c3
        have e1 := bnd_spec k1 (hlo _ g2)
        have e2 := bnd_spec k2 (hhi _ g3)
        have e3 := bnd_spec k3 (hmx _ g4)
        have e4 : hi' = none → mx' = none := by
          intro h0
          rcases e2 with ⟨z1, z2, z3⟩ | ⟨k, z1, z2⟩
          · subst z1
            rcases e3 with ⟨y1, y2, y3⟩ | ⟨k, y1, y2⟩
            · exact y2
            · cases mx1 <;> simp_all
          · rw [h0] at z2; cases z2
        have f1 : (lo' = none ∧ l = 0) ∨ ∃ k, lo' = some (.int k (l : Int)) := e1.imp (fun ⟨_, a, b⟩ => ⟨a, b⟩) (fun ⟨k, _, b⟩ => ⟨k, b⟩)
        have f2 : (hi' = none ∧ hh = len) ∨ ∃ k, hi' = some (.int k (hh : Int)) := e2.imp (fun ⟨_, a, b⟩ => ⟨a, b⟩) (fun ⟨k, _, b⟩ => ⟨k, b⟩)
        have f3 : (mx' = none ∧ m = cap) ∨ ∃ k, mx' = some (.int k (m : Int)) := e3.imp (fun ⟨_, a, b⟩ => ⟨a, b⟩) (fun ⟨k, _, b⟩ => ⟨k, b⟩)
        have run : ∀ (a' : Option Addr) (cap' : Nat), cap ≤ cap' → (Instr.sliceAt t (.slice a' len cap') lo' hi' mx').run E.P w =
            .ok (let m' := if mx' = none then cap' else m; .slice (if m' = l then a' else a'.map (·.add (l * ie.size))) (hh - l) (m' - l)) w := by
          intro a' cap' hcap
          have hb := bounds_run (P := E.P) (w := w) true len cap' l hh (if mx' = none then cap' else m) lo' hi' mx' f1 f2 (by
            rcases f3 with ⟨z1, z2⟩ | ⟨k, z⟩
            · exact .inl ⟨z1, by simp [z1]⟩
            · exact .inr ⟨k, by simp [z]⟩) e4 c1 (by split <;> omega) (by split <;> omega)
          simp [Instr.sliceAt, Instr.slice, run_underlying hu, hb, run_sizeOf hie]
        match a, hv, hq with
        | none, hv, hq =>
          cases hq
          simp only [VR] at hv
          subst hv
          refine OkV.same h (run none cap (Nat.le_refl _)) ?_
          have : (if mx' = none then cap else m) = m := by
            split
            · rcases f3 with ⟨z1, z2⟩ | ⟨k, z⟩
              · exact z2.symm
              · simp_all
            · rfl
          simp only [this]
          simp [VR]
        | some ⟨r, off, none⟩, hv, hq =>
          obtain ⟨u, z1, hq⟩ := ob_some.1 hq
          cases hq
          simp only [VR] at hv
          obtain ⟨p, hp, rfl⟩ := hv
          refine OkV.same h (run _ cap (Nat.le_refl _)) ?_
          have hm : (if mx' = none then cap else m) = m := by
            split
            · rcases f3 with ⟨z1, z2⟩ | ⟨k, z⟩
              · exact z2.symm
              · simp_all
            · rfl
          simp only [hm]
          have z1 : some (Value.slice (some ⟨r, cond (Nat.beq m l) off (off + l * de.size), none⟩) (hh - l) (m - l)) = some u := by
            unfold reslice at z1
            cases mx1 <;> exact z1
          cases z1
          simp only [VR]
          refine ⟨p, hp, ?_⟩
          by_cases hml : m = l
          · subst hml; simp
          · have : Nat.beq m l = false := by
              cases hb : Nat.beq m l
              · rfl
              · exact absurd (Nat.eq_of_beq_eq_true hb) hml
            simp [hml, this, hse, Addr.add_lit, Nat.add_assoc]
        | some ⟨r, off, some 0⟩, hv, hq =>
          obtain ⟨u, z1, hq⟩ := ob_some.1 hq
          cases hq
          simp only [VR] at hv
          obtain ⟨hlc, p, cap', hp, hcc, hbd, rfl⟩ := hv
          refine OkV.same h (run _ cap' hcc) ?_
          cases mx1 with
          | none =>
            have hmx0 : mx' = none := by
              rcases e3 with ⟨_, y, _⟩ | ⟨k, y, _⟩
              · exact y
              · cases y
            have hmc : m = cap := by
              rcases f3 with ⟨_, z2⟩ | ⟨k, z⟩
              · exact z2
              · rw [hmx0] at z; cases z
            subst hmc
            simp only [hmx0, if_true]
            unfold reslice at z1
            simp only [Option.isSome_none] at z1
            obtain ⟨row, y1, z1⟩ := ob_some.1 z1
            obtain ⟨y2, z1⟩ := iff_some.1 z1
            have y2 : row.t = elem := Nat.eq_of_beq_eq_true y2
            obtain ⟨p', hp', cc, _, _, ht, _, _, _⟩ := h.of_row y1
            rw [hp] at hp'; cases hp'
            have hsz : E.P.cellsOf p.t = de.size := by rw [ht, y2, cellsOf_eq hie, hse]
            cases hb : (Nat.blt l m || Nat.beq l 0)
            · rw [hb] at z1
              cases z1
              simp only [Bool.or_eq_false_iff] at hb
              have h5 : ¬ l < m := fun hh => by rw [blt_iff.2 hh] at hb; cases hb.1
              simp only [VR]
              have h6 : l = m := by omega
              have h7 : hh = l := by omega
              refine ⟨trivial, trivial, ?_⟩
              subst h7
              simp only [Nat.sub_self]
              by_cases h8 : cap' = hh
              · exact ⟨⟨p.b, p.s + off, none⟩, cap' - hh, by simp [h8]⟩
              · exact ⟨(Addr.add ⟨p.b, p.s + off, none⟩ (hh * ie.size)), cap' - hh, by simp [h8]⟩
            · rw [hb] at z1
              cases z1
              simp only [VR]
              have h5 : l < m ∨ l = 0 := by
                simp only [Bool.or_eq_true] at hb
                exact hb.imp blt_iff.1 Nat.eq_of_beq_eq_true
              have h9 : p.s + (off + l * de.size) + (cap' - l) * E.P.cellsOf p.t ≤ p.n := by
                rw [hsz] at hbd ⊢
                have : cap' * de.size = l * de.size + (cap' - l) * de.size := by rw [← Nat.add_mul]; congr 1; omega
                omega
              refine ⟨by show hh - l ≤ m - l; omega, p, cap' - l, hp, by show m - l ≤ cap' - l; omega, h9, ?_⟩
              by_cases h8 : cap' = l
              · have : l = 0 := by omega
                subst this
                subst h8
                simp
              · simp [h8, hse, Addr.add_lit, Nat.add_assoc]
          | some mv =>
            have hmx0 : mx' ≠ none := by
              rcases e3 with ⟨y, _, _⟩ | ⟨k, _, y⟩
              · cases y
              · rw [y]; simp
            simp only [hmx0, if_false]
            have z1 : some (Value.slice (some ⟨r, cond (Nat.beq m l) off (off + l * de.size), none⟩) (hh - l) (m - l)) = some u := z1
            cases z1
            simp only [VR]
            refine ⟨p, hp, ?_⟩
            by_cases hml : m = l
            · subst hml; simp
            · have : Nat.beq m l = false := by
                cases hb : Nat.beq m l
                · rfl
                · exact absurd (Nat.eq_of_beq_eq_true hb) hml
              simp [hml, this, hse, Addr.add_lit, Nat.add_assoc]
        | some ⟨r, off, some (k + 1)⟩, hv, hq =>
          obtain ⟨u, z1, hq⟩ := ob_some.1 hq
          cases hq
          simp only [VR] at hv
          obtain ⟨rfl, rfl, a', cap', rfl⟩ := hv
          refine OkV.same h (run _ cap' (Nat.zero_le _)) ?_
          have z1 : some (Value.slice (some ⟨r, off, some 1⟩) 0 0) = some u := by
            unfold reslice at z1
            cases mx1 <;> exact z1
          cases z1
          simp only [VR]
          have h5 : l = 0 := by omega
          have h6 : hh = 0 := by omega
          subst h5; subst h6
          exact ⟨trivial, trivial, a', (if mx' = none then cap' else m), by simp [Addr.add]⟩
      | _ => cases hq
    · cases hq
  · rename_i d n elem sz zz bz hd
    obtain ⟨i, hi0, hu, hs, _, _⟩ := hE.ty t _ hd
    split at hq
    · rename_i de hde
      obtain ⟨ie, hie, hue, hse, _, _⟩ := hE.ty _ _ hde
      obtain ⟨v, g1, hq⟩ := ob_some.1 hq
      obtain ⟨lo1, g2, hq⟩ := ob_some.1 hq
      obtain ⟨hi1, g3, hq⟩ := ob_some.1 hq
      obtain ⟨mx1, g4, hq⟩ := ob_some.1 hq
      obtain ⟨a, g6, hq⟩ := ob_some.1 hq
      obtain ⟨g5, hq⟩ := iff_some.1 hq
      obtain ⟨p, hp, rfl⟩ := VR_ptr g6 (hx v g1)
      obtain ⟨l, k1, hq⟩ := ob_some.1 hq
      obtain ⟨hh, k2, hq⟩ := ob_some.1 hq
      obtain ⟨m, k3, hq⟩ := ob_some.1 hq
      obtain ⟨k4, hq⟩ := iff_some.1 hq
      cases hq
      simp only [Bool.and_eq_true] at k4
      obtain ⟨⟨c1, c2⟩, c3⟩ := k4
      have c1 : l ≤ hh := ble_iff.1 c1
      have c2 : hh ≤ m := ble_iff.1 c2
      have c3 : m ≤ n := ble_iff.1 c3
      have e1 := bnd_spec k1 (hlo _ g2)
      have e2 := bnd_spec k2 (hhi _ g3)
      have e3 := bnd_spec k3 (hmx _ g4)
      have e4 : hi' = none → mx' = none := by
        intro h0
        rcases e2 with ⟨z1, z2, z3⟩ | ⟨k, z1, z2⟩
        · subst z1
          rcases e3 with ⟨y1, y2, y3⟩ | ⟨k, y1, y2⟩
          · exact y2
          · cases mx1 <;> simp_all
        · rw [h0] at z2; cases z2
      have f1 : (lo' = none ∧ l = 0) ∨ ∃ k, lo' = some (.int k (l : Int)) := e1.imp (fun ⟨_, a, b⟩ => ⟨a, b⟩) (fun ⟨k, _, b⟩ => ⟨k, b⟩)
      have f2 : (hi' = none ∧ hh = n) ∨ ∃ k, hi' = some (.int k (hh : Int)) := e2.imp (fun ⟨_, a, b⟩ => ⟨a, b⟩) (fun ⟨k, _, b⟩ => ⟨k, b⟩)
      have f3 : (mx' = none ∧ m = n) ∨ ∃ k, mx' = some (.int k (m : Int)) := e3.imp (fun ⟨_, a, b⟩ => ⟨a, b⟩) (fun ⟨k, _, b⟩ => ⟨k, b⟩)
      have hb := bounds_run (P := E.P) (w := w) false n n l hh m lo' hi' mx' f1 f2 f3 e4 c1 c2 c3
      refine OkV.same h (v' := .slice (some ⟨p.b, if m = l then p.s + a.off else p.s + a.off + l * ie.size, none⟩) (hh - l) (m - l)) ?_ ?_
      · by_cases hml : m = l
        · subst hml; simp [Instr.sliceAt, Instr.sureAddr, run_underlying hu, hb, run_sizeOf hie]
        · simp [Instr.sliceAt, Instr.sureAddr, run_underlying hu, hb, run_sizeOf hie, hml, Addr.add_lit]
      · simp only [VR]
        refine ⟨p, hp, ?_⟩
        by_cases hml : m = l
        · subst hml; simp
        · have : Nat.beq m l = false := by
            cases hb : Nat.beq m l
            · rfl
            · exact absurd (Nat.eq_of_beq_eq_true hb) hml
          simp [hml, this, hse, Nat.add_assoc]
    · cases hq
  · cases hq
end
end Go.Proofs.YtemldmjpanmdbaaGreatDoor.Ev

namespace Go.Proofs.YtemldmjpanmdbaaGreatDoor.Ev
open Go.RowKit
section
variable {E : Env} {ρ ρ' : Ren} {B : Nat} {w w' : World} {S S' : St} {V : Hp}
theorem wrap_fit (k : IntKind) (n : Nat) (h : n < lim k) : k.wrap (n : Int) = n := by
  cases k <;> simp [IntKind.wrap, IntKind.bits, IntKind.signed, lim] at * <;> omega
theorem lim_bits (k : IntKind) : lim k ≤ 2 ^ k.bits := by cases k <;> decide
theorem fit_some {k : IntKind} {n : Nat} {v : Value} (h : fit k n = some v) : n < lim k ∧ v = .int k (n : Int) := by
  obtain ⟨h1, h2⟩ := cond_some.1 h
  cases h2
  exact ⟨blt_iff.1 h1, rfl⟩
theorem nn_some {β : Type} {v : Value} {f : IntKind → Nat → Option β} {b : β} (h : nn v f = some b) : ∃ (k : IntKind) (n : Nat), v = .int k (n : Int) ∧ f k n = some b := by
  match v, h with
  | .int k (.ofNat n), h => exact ⟨k, n, rfl, h⟩
theorem fast_two {a b v : Value} {g : IntKind → Nat → IntKind → Nat → Option Value} (h : (nn a fun k x => nn b fun k' y => g k x k' y) = some v) :
    ∃ (k : IntKind) (x : Nat) (k' : IntKind) (y : Nat), a = .int k (x : Int) ∧ b = .int k' (y : Int) ∧ g k x k' y = some v := by
  obtain ⟨k, x, h1, h⟩ := nn_some h
  obtain ⟨k', y, h2, h⟩ := nn_some (v := b) h
  exact ⟨k, x, k', y, h1, h2, h⟩
theorem kind_eq {k k' : IntKind} (h : (k == k') = true) : k = k' := by simpa using h
theorem ofInt_nat (n x : Nat) (h : x < 2 ^ n) : BitVec.ofInt n (x : Int) = BitVec.ofNat n x := BitVec.ofInt_natCast n x
theorem fast_spec {P : Program} {op : BinOp} {t : TypeId} {x y : Operand} {a b v : Value} (h : fast op a b = some v) : (do eqGuard op t x y a b; binOp op t a b).run P w = .ok v w ∧ ∃ u k n m, (v = .bool u ∨ v = .int k n) ∧ m = (0 : Nat) := by
  have fin : ∀ {v : Value}, ((∃ u, v = .bool u) ∨ ∃ k n, v = .int k n) → ∃ (u : Bool) (k : IntKind) (n : Int) (m : Nat), (v = .bool u ∨ v = .int k n) ∧ m = (0 : Nat) := by
    intro v h
    rcases h with ⟨u, h⟩ | ⟨k, n, h⟩
    · exact ⟨u, .i8, 0, 0, .inl h, rfl⟩
    · exact ⟨true, k, n, 0, .inr h, rfl⟩
  cases op with
  | add =>
    obtain ⟨k, x, k', y, rfl, rfl, h⟩ := fast_two (show (nn a fun k x => nn b fun k' y => cond (k == k') (fit k (Nat.add x y)) none) = some v from h)
    obtain ⟨h1, h2⟩ := cond_some.1 h
    have := kind_eq h1; subst this
    obtain ⟨h3, rfl⟩ := fit_some h2
    have e : ((x : Int) + y) = ((x + y : Nat) : Int) := by simp
    exact ⟨by simp [eqGuard_at_int, binOp_add, Op.intArith]; rw [e]; exact wrap_fit k _ h3, fin (.inr ⟨_, _, rfl⟩)⟩
  | sub =>
    obtain ⟨k, x, k', y, rfl, rfl, h⟩ := fast_two (show (nn a fun k x => nn b fun k' y => cond (k == k' && Nat.ble y x) (fit k (Nat.sub x y)) none) = some v from h)
    obtain ⟨h1, h2⟩ := cond_some.1 h
    simp only [Bool.and_eq_true] at h1
    have := kind_eq h1.1; subst this
    obtain ⟨h3, rfl⟩ := fit_some h2
    have h4 : y ≤ x := ble_iff.1 h1.2
    have e : ((x : Int) - y) = ((x - y : Nat) : Int) := by omega
    exact ⟨by simp [eqGuard_at_int, binOp_sub, Op.intArith]; rw [e]; exact wrap_fit k _ h3, fin (.inr ⟨_, _, rfl⟩)⟩
  | mul =>
    obtain ⟨k, x, k', y, rfl, rfl, h⟩ := fast_two (show (nn a fun k x => nn b fun k' y => cond (k == k') (fit k (Nat.mul x y)) none) = some v from h)
    obtain ⟨h1, h2⟩ := cond_some.1 h
    have := kind_eq h1; subst this
    obtain ⟨h3, rfl⟩ := fit_some h2
    have e : ((x : Int) * y) = ((x * y : Nat) : Int) := by simp
    exact ⟨by simp [eqGuard_at_int, binOp_mul, Op.intArith]; rw [e]; exact wrap_fit k _ h3, fin (.inr ⟨_, _, rfl⟩)⟩
  | quo =>
    obtain ⟨k, x, k', y, rfl, rfl, h⟩ := fast_two (show (nn a fun k x => nn b fun k' y => cond (k == k' && Nat.blt 0 y) (fit k (Nat.div x y)) none) = some v from h)
    obtain ⟨h1, h2⟩ := cond_some.1 h
    simp only [Bool.and_eq_true] at h1
    have := kind_eq h1.1; subst this
    obtain ⟨h3, rfl⟩ := fit_some h2
    have h4 : 0 < y := blt_iff.1 h1.2
    have h5 : ¬ (y = 0) := by omega
    have e : ((x : Int).tdiv y) = ((x / y : Nat) : Int) := by rw [Int.tdiv_eq_ediv_of_nonneg (by omega)]; simp
    exact ⟨by simp [eqGuard_at_int, binOp_quo, Op.intDiv, h5]; exact (wrap_fit k _ h3 : k.wrap ((x / y : Nat) : Int) = _), fin (.inr ⟨_, _, rfl⟩)⟩
  | rem =>
    obtain ⟨k, x, k', y, rfl, rfl, h⟩ := fast_two (show (nn a fun k x => nn b fun k' y => cond (k == k' && Nat.blt 0 y) (fit k (Nat.mod x y)) none) = some v from h)
    obtain ⟨h1, h2⟩ := cond_some.1 h
    simp only [Bool.and_eq_true] at h1
    have := kind_eq h1.1; subst this
    obtain ⟨h3, rfl⟩ := fit_some h2
    have h4 : 0 < y := blt_iff.1 h1.2
    have h5 : ¬ (y = 0) := by omega
    have e : ((x : Int).tmod y) = ((x % y : Nat) : Int) := by rw [Int.tmod_eq_emod_of_nonneg (by omega)]; simp
    exact ⟨by simp [eqGuard_at_int, binOp_rem, Op.intDiv, h5]; exact e, fin (.inr ⟨_, _, rfl⟩)⟩
  | and =>
    obtain ⟨k, x, k', y, rfl, rfl, h⟩ := fast_two (show (nn a fun k x => nn b fun k' y => cond (k == k' && Nat.blt x (lim k) && Nat.blt y (lim k)) (fit k (Nat.land x y)) none) = some v from h)
    obtain ⟨h1, h2⟩ := cond_some.1 h
    simp only [Bool.and_eq_true] at h1
    have := kind_eq h1.1.1; subst this
    obtain ⟨h3, rfl⟩ := fit_some h2
    have hx : x < 2 ^ k.bits := Nat.lt_of_lt_of_le (blt_iff.1 h1.1.2) (lim_bits k)
    have hy : y < 2 ^ k.bits := Nat.lt_of_lt_of_le (blt_iff.1 h1.2) (lim_bits k)
    exact ⟨by simp [eqGuard_at_int, binOp_and, Op.intBits, Nat.mod_eq_of_lt hx, Nat.mod_eq_of_lt hy]; exact wrap_fit k _ h3, fin (.inr ⟨_, _, rfl⟩)⟩
  | or =>
    obtain ⟨k, x, k', y, rfl, rfl, h⟩ := fast_two (show (nn a fun k x => nn b fun k' y => cond (k == k' && Nat.blt x (lim k) && Nat.blt y (lim k)) (fit k (Nat.lor x y)) none) = some v from h)
    obtain ⟨h1, h2⟩ := cond_some.1 h
    simp only [Bool.and_eq_true] at h1
    have := kind_eq h1.1.1; subst this
    obtain ⟨h3, rfl⟩ := fit_some h2
    have hx : x < 2 ^ k.bits := Nat.lt_of_lt_of_le (blt_iff.1 h1.1.2) (lim_bits k)
    have hy : y < 2 ^ k.bits := Nat.lt_of_lt_of_le (blt_iff.1 h1.2) (lim_bits k)
    exact ⟨by simp [eqGuard_at_int, binOp_or, Op.intBits, Nat.mod_eq_of_lt hx, Nat.mod_eq_of_lt hy]; exact wrap_fit k _ h3, fin (.inr ⟨_, _, rfl⟩)⟩
  | xor =>
    obtain ⟨k, x, k', y, rfl, rfl, h⟩ := fast_two (show (nn a fun k x => nn b fun k' y => cond (k == k' && Nat.blt x (lim k) && Nat.blt y (lim k)) (fit k (Nat.xor x y)) none) = some v from h)
    obtain ⟨h1, h2⟩ := cond_some.1 h
    simp only [Bool.and_eq_true] at h1
    have := kind_eq h1.1.1; subst this
    obtain ⟨h3, rfl⟩ := fit_some h2
    have hx : x < 2 ^ k.bits := Nat.lt_of_lt_of_le (blt_iff.1 h1.1.2) (lim_bits k)
    have hy : y < 2 ^ k.bits := Nat.lt_of_lt_of_le (blt_iff.1 h1.2) (lim_bits k)
    exact ⟨by simp [eqGuard_at_int, binOp_xor, Op.intBits, Nat.mod_eq_of_lt hx, Nat.mod_eq_of_lt hy]; exact wrap_fit k _ h3, fin (.inr ⟨_, _, rfl⟩)⟩
  | shl =>
    obtain ⟨k, x, k', y, rfl, rfl, h⟩ := fast_two (show (nn a fun k x => nn b fun k' y => cond (Nat.ble y k.bits) (fit k (Nat.shiftLeft x y)) none) = some v from h)
    obtain ⟨h1, h2⟩ := cond_some.1 h
    obtain ⟨h3, rfl⟩ := fit_some h2
    have h4 : y ≤ k.bits := ble_iff.1 h1
    have e : ((x : Int) * 2 ^ y) = ((x <<< y : Nat) : Int) := by rw [Nat.shiftLeft_eq]; simp
    have h6 : ¬ ((y : Int) < 0) := by omega
    exact ⟨by simp [eqGuard_at_int, binOp_shl, Op.shift, Nat.min_eq_left h4]; rw [e, if_neg h6]; exact congrArg (fun z => Result.ok (Value.int k z) w) (wrap_fit k _ h3), fin (.inr ⟨_, _, rfl⟩)⟩
  | shr =>
    obtain ⟨k, x, k', y, rfl, rfl, h⟩ := fast_two (show (nn a fun k x => nn b fun k' y => cond (Nat.ble y k.bits) (fit k (Nat.shiftRight x y)) none) = some v from h)
    obtain ⟨h1, h2⟩ := cond_some.1 h
    obtain ⟨h3, rfl⟩ := fit_some h2
    have h4 : y ≤ k.bits := ble_iff.1 h1
    have e : (x : Int).fdiv (2 ^ y) = ((x >>> y : Nat) : Int) := by
      rw [Nat.shiftRight_eq_div_pow, Int.fdiv_eq_ediv_of_nonneg _ (by exact Int.pow_nonneg (by decide))]; simp
    have h6 : ¬ ((y : Int) < 0) := by omega
    exact ⟨by simp [eqGuard_at_int, binOp_shr, Op.shift, Nat.min_eq_left h4]; rw [if_neg h6, e]; rfl, fin (.inr ⟨_, _, rfl⟩)⟩
  | eql =>
    obtain ⟨k, x, k', y, rfl, rfl, h⟩ := fast_two (show (nn a fun k x => nn b fun k' y => cond (k == k') (some (.bool (Nat.beq x y))) none) = some v from h)
    obtain ⟨h1, h2⟩ := cond_some.1 h
    have := kind_eq h1; subst this
    cases h2
    refine ⟨?_, fin (.inl ⟨_, rfl⟩)⟩
    simp [eqGuard_at_int, binOp_eql]
    by_cases hxy : x = y
    · subst hxy; simp
    · have : Nat.beq x y = false := by
        cases hb : Nat.beq x y
        · rfl
        · exact absurd (Nat.eq_of_beq_eq_true hb) hxy
      rw [this]
      have h5 : ¬ ((x : Int) = y) := by omega
      simp [h5]
  | neq =>
    obtain ⟨k, x, k', y, rfl, rfl, h⟩ := fast_two (show (nn a fun k x => nn b fun k' y => cond (k == k') (some (.bool (!(Nat.beq x y)))) none) = some v from h)
    obtain ⟨h1, h2⟩ := cond_some.1 h
    have := kind_eq h1; subst this
    cases h2
    refine ⟨?_, fin (.inl ⟨_, rfl⟩)⟩
    simp [eqGuard_at_int, binOp_neq]
    by_cases hxy : x = y
    · subst hxy; simp
    · have : Nat.beq x y = false := by
        cases hb : Nat.beq x y
        · rfl
        · exact absurd (Nat.eq_of_beq_eq_true hb) hxy
      rw [this]
      have h5 : ((x : Int) != y) = true := by simp; omega
      rw [h5]; rfl
  | lss =>
    obtain ⟨k, x, k', y, rfl, rfl, h⟩ := fast_two (show (nn a fun k x => nn b fun k' y => cond (k == k') (some (.bool (Nat.blt x y))) none) = some v from h)
    obtain ⟨h1, h2⟩ := cond_some.1 h
    have := kind_eq h1; subst this
    cases h2
    refine ⟨?_, fin (.inl ⟨_, rfl⟩)⟩
    simp [eqGuard_at_int, binOp_lss]
    by_cases hxy : x < y
    · rw [blt_iff.2 hxy]; simpa using hxy
    · rw [blt_false hxy]; simpa using hxy
  | leq =>
    obtain ⟨k, x, k', y, rfl, rfl, h⟩ := fast_two (show (nn a fun k x => nn b fun k' y => cond (k == k') (some (.bool (Nat.ble x y))) none) = some v from h)
    obtain ⟨h1, h2⟩ := cond_some.1 h
    have := kind_eq h1; subst this
    cases h2
    refine ⟨?_, fin (.inl ⟨_, rfl⟩)⟩
    simp [eqGuard_at_int, binOp_leq]
    by_cases hxy : x ≤ y
    · rw [ble_iff.2 hxy]; simpa using hxy
    · have : Nat.ble x y = false := by
        cases hb : Nat.ble x y
        · rfl
        · exact absurd (ble_iff.1 hb) hxy
      rw [this]; simpa using hxy
  | gtr =>
    obtain ⟨k, x, k', y, rfl, rfl, h⟩ := fast_two (show (nn a fun k x => nn b fun k' y => cond (k == k') (some (.bool (Nat.blt y x))) none) = some v from h)
    obtain ⟨h1, h2⟩ := cond_some.1 h
    have := kind_eq h1; subst this
    cases h2
    refine ⟨?_, fin (.inl ⟨_, rfl⟩)⟩
    simp [eqGuard_at_int, binOp_gtr]
    by_cases hxy : y < x
    · rw [blt_iff.2 hxy]; simpa using hxy
    · rw [blt_false hxy]; simpa using hxy
  | geq =>
    obtain ⟨k, x, k', y, rfl, rfl, h⟩ := fast_two (show (nn a fun k x => nn b fun k' y => cond (k == k') (some (.bool (Nat.ble y x))) none) = some v from h)
    obtain ⟨h1, h2⟩ := cond_some.1 h
    have := kind_eq h1; subst this
    cases h2
    refine ⟨?_, fin (.inl ⟨_, rfl⟩)⟩
    simp [eqGuard_at_int, binOp_geq]
    by_cases hxy : y ≤ x
    · rw [ble_iff.2 hxy]; simpa using hxy
    · have : Nat.ble y x = false := by
        cases hb : Nat.ble y x
        · rfl
        · exact absurd (ble_iff.1 hb) hxy
      rw [this]; simpa using hxy
  | andNot => cases h
end
end Go.Proofs.YtemldmjpanmdbaaGreatDoor.Ev
