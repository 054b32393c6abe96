/- Who waits for whom, as mathematics: edges, ways of some steps, ways of any length, masks of four. No walk. Edges in memory: what a slice of them reads as, what of it stays, what an append leaves; the four places of a table that are read. No walk. -/
import Derived.WalkKit
import Derived.Test.YtpofihiojhbfgaaGreatDoorProg
import Derived.Test.YtpofihiojhbfgaaGreatDoorSl
import Derived.Laws.Rows
import Derived.Laws.OwnMore
namespace Go.Proofs.YtpofihiojhbfgaaGreatDoor.Wai
set_option linter.unusedVariables false
set_option maxRecDepth 8000

def clB (c : Int) : Bool := decide (0 ≤ c) && decide (c < 4)
def okE (e : Int × Int) : Bool := clB e.1 && clB e.2

theorem nat_of_cl {c : Int} (h : clB c = true) : ∃ k : Nat, k < 4 ∧ c = k := by
  simp only [clB, Bool.and_eq_true, decide_eq_true_eq] at h
  exact ⟨c.toNat, by omega, by omega⟩
theorem cl_nat {c : Nat} (h : c < 4) : clB c = true := by simp [clB]; omega

def adB (E : List (Int × Int)) (i j : Nat) : Bool := decide (i < 4) && decide (j < 4) && E.contains ((i : Int), (j : Int))

theorem ad_iff (E : List (Int × Int)) (i j : Nat) : adB E i j = true ↔ i < 4 ∧ j < 4 ∧ ((i : Int), (j : Int)) ∈ E := by
  simp [adB, and_assoc]

def pnB (E : List (Int × Int)) : Nat → Nat → Nat → Bool
  | 0, _, _ => false
  | s + 1, i, k => adB E i k || (adB E i 0 && pnB E s 0 k) || (adB E i 1 && pnB E s 1 k) || (adB E i 2 && pnB E s 2 k) || (adB E i 3 && pnB E s 3 k)

theorem pn_iff (E : List (Int × Int)) (s i k : Nat) : pnB E (s + 1) i k = true ↔ adB E i k = true ∨ ∃ j, adB E i j = true ∧ pnB E s j k = true := by
  simp only [pnB, Bool.or_eq_true, Bool.and_eq_true]
  constructor
  · rintro ((((h | h) | h) | h) | h)
    · exact .inl h
    all_goals exact .inr ⟨_, h⟩
  · rintro (h | ⟨j, h1, h2⟩)
    · simp [h]
    · have hj := ((ad_iff _ _ _).1 h1).2.1
      match j, hj with
      | 0, _ => simp [h1, h2]
      | 1, _ => simp [h1, h2]
      | 2, _ => simp [h1, h2]
      | 3, _ => simp [h1, h2]

theorem pn_mono {E : List (Int × Int)} : ∀ {s i k : Nat}, pnB E s i k = true → pnB E (s + 1) i k = true
  | 0, _, _, h => by simp [pnB] at h
  | s + 1, i, k, h => by
    rw [pn_iff] at h ⊢
    rcases h with h | ⟨j, h1, h2⟩
    · exact .inl h
    · exact .inr ⟨j, h1, pn_mono h2⟩

theorem pn_right {E : List (Int × Int)} : ∀ {s i j k : Nat}, pnB E s i j = true → adB E j k = true → pnB E (s + 1) i k = true
  | 0, _, _, _, h, _ => by simp [pnB] at h
  | s + 1, i, j, k, h, hk => by
    rw [pn_iff] at h ⊢
    rcases h with h | ⟨m, h1, h2⟩
    · exact .inr ⟨j, h, (pn_iff _ _ _ _).2 (.inl hk)⟩
    · exact .inr ⟨m, h1, pn_right h2 hk⟩

theorem pn_last {E : List (Int × Int)} : ∀ {s i k : Nat}, pnB E (s + 1) i k = true → adB E i k = true ∨ ∃ j, pnB E s i j = true ∧ adB E j k = true
  | 0, i, k, h => by
    rw [pn_iff] at h
    rcases h with h | ⟨j, _, h2⟩
    · exact .inl h
    · simp [pnB] at h2
  | s + 1, i, k, h => by
    rw [pn_iff] at h
    rcases h with h | ⟨m, h1, h2⟩
    · exact .inl h
    · rcases pn_last h2 with h3 | ⟨j, h3, h4⟩
      · exact .inr ⟨m, (pn_iff _ _ _ _).2 (.inl h1), h3⟩
      · exact .inr ⟨j, (pn_iff _ _ _ _).2 (.inr ⟨m, h1, h3⟩), h4⟩

def Clo (E : List (Int × Int)) (i s : Nat) : Prop := (∀ k, adB E i k = true → pnB E s i k = true) ∧ ∀ j k, pnB E s i j = true → adB E j k = true → pnB E s i k = true

theorem clo_step {E : List (Int × Int)} {i s : Nat} (h : Clo E i s) : Clo E i (s + 1) := by
  have key : ∀ k, pnB E (s + 1) i k = true → pnB E s i k = true := fun k hk => by
    rcases pn_last hk with h1 | ⟨j, h1, h2⟩
    · exact h.1 k h1
    · exact h.2 j k h1 h2
  exact ⟨fun k hk => pn_mono (h.1 k hk), fun j k h1 h2 => pn_mono (h.2 j k (key j h1) h2)⟩

def cnt (E : List (Int × Int)) (i s : Nat) : Nat := (pnB E s i 0).toNat + (pnB E s i 1).toNat + (pnB E s i 2).toNat + (pnB E s i 3).toNat

theorem toNat_mono {a b : Bool} (h : a = true → b = true) : a.toNat ≤ b.toNat := by cases a <;> cases b <;> simp_all
theorem toNat_strict {a b : Bool} (h : a = false) (k : b = true) : a.toNat + 1 ≤ b.toNat := by simp [h, k]

theorem cnt_or (E : List (Int × Int)) (i : Nat) : ∀ s, s ≤ cnt E i s ∨ Clo E i s
  | 0 => .inl (Nat.zero_le _)
  | s + 1 => by
    rcases cnt_or E i s with h | h
    · by_cases hc : Clo E i s
      · exact .inr (clo_step hc)
      · left
        obtain ⟨k, hk, h1, h2⟩ : ∃ k, k < 4 ∧ pnB E s i k = false ∧ pnB E (s + 1) i k = true := by
          rcases Classical.em (∃ k, k < 4 ∧ pnB E s i k = false ∧ pnB E (s + 1) i k = true) with h' | h'
          · exact h'
          · refine absurd ⟨fun k hk => ?_, fun j k h1 h2 => ?_⟩ hc
            · cases e : pnB E s i k
              · exact absurd ⟨k, ((ad_iff _ _ _).1 hk).2.1, e, (pn_iff _ _ _ _).2 (.inl hk)⟩ h'
              · rfl
            · cases e : pnB E s i k
              · exact absurd ⟨k, ((ad_iff _ _ _).1 h2).2.1, e, pn_right h1 h2⟩ h'
              · rfl
        have m0 := toNat_mono (pn_mono (E := E) (s := s) (i := i) (k := 0))
        have m1 := toNat_mono (pn_mono (E := E) (s := s) (i := i) (k := 1))
        have m2 := toNat_mono (pn_mono (E := E) (s := s) (i := i) (k := 2))
        have m3 := toNat_mono (pn_mono (E := E) (s := s) (i := i) (k := 3))
        have st := toNat_strict h1 h2
        unfold cnt at h ⊢
        match k, hk with
        | 0, _ => omega
        | 1, _ => omega
        | 2, _ => omega
        | 3, _ => omega
    · exact .inr (clo_step h)

theorem toNat_le (b : Bool) : b.toNat ≤ 1 := by cases b <;> simp
theorem toNat_one {b : Bool} (h : 1 ≤ b.toNat) : b = true := by cases b <;> simp_all

theorem clo4 (E : List (Int × Int)) (i : Nat) : Clo E i 4 := by
  rcases cnt_or E i 4 with h | h
  · have a0 := toNat_le (pnB E 4 i 0)
    have a1 := toNat_le (pnB E 4 i 1)
    have a2 := toNat_le (pnB E 4 i 2)
    have a3 := toNat_le (pnB E 4 i 3)
    unfold cnt at h
    have all : ∀ k, k < 4 → pnB E 4 i k = true := fun k hk => match k, hk with
      | 0, _ => toNat_one (by omega)
      | 1, _ => toNat_one (by omega)
      | 2, _ => toNat_one (by omega)
      | 3, _ => toNat_one (by omega)
    exact ⟨fun k hk => all k ((ad_iff _ _ _).1 hk).2.1, fun j k _ hk => all k ((ad_iff _ _ _).1 hk).2.1⟩
  · exact h

def rB (E : List (Int × Int)) (i k : Nat) : Bool := pnB E 4 i k

theorem r_one {E : List (Int × Int)} {i k : Nat} (h : adB E i k = true) : rB E i k = true := (clo4 E i).1 k h
theorem r_right {E : List (Int × Int)} {i j k : Nat} (h : rB E i j = true) (h2 : adB E j k = true) : rB E i k = true := (clo4 E i).2 j k h h2

theorem pn_ind {E : List (Int × Int)} {i : Nat} (p : Nat → Prop) (h0 : ∀ k, adB E i k = true → p k) (h1 : ∀ j k, p j → adB E j k = true → p k) : ∀ s k, pnB E s i k = true → p k
  | 0, _, h => by simp [pnB] at h
  | s + 1, k, h => by
    rcases pn_last h with h2 | ⟨j, h2, h3⟩
    · exact h0 k h2
    · exact h1 j k (pn_ind p h0 h1 s j h2) h3
theorem r_ind {E : List (Int × Int)} {i k : Nat} (h : rB E i k = true) (p : Nat → Prop) (h0 : ∀ k, adB E i k = true → p k) (h1 : ∀ j k, p j → adB E j k = true → p k) : p k := pn_ind p h0 h1 4 k h

theorem r_first {E : List (Int × Int)} {i k : Nat} (h : rB E i k = true) : ∃ j, adB E i j = true := by
  rcases (pn_iff _ _ _ _).1 h with h | ⟨j, h, _⟩
  · exact ⟨_, h⟩
  · exact ⟨_, h⟩

/-! ### Masks -/

def sub (a b : Nat) : Nat := a ^^^ (a &&& b)
theorem sub_bit (a b k : Nat) : (sub a b).testBit k = (a.testBit k && !b.testBit k) := by
  unfold sub
  rw [Nat.testBit_xor, Nat.testBit_and]
  cases a.testBit k <;> cases b.testBit k <;> rfl
theorem ext16 : ∀ a < 16, ∀ b < 16, (∀ k < 4, a.testBit k = b.testBit k) → a = b := by decide +kernel
def mk4 (a b c d : Bool) : Nat := a.toNat + 2 * b.toNat + 4 * c.toNat + 8 * d.toNat
theorem mk4_lt (a b c d : Bool) : mk4 a b c d < 16 := by cases a <;> cases b <;> cases c <;> cases d <;> decide
theorem mk4_0 (a b c d : Bool) : (mk4 a b c d).testBit 0 = a := by cases a <;> cases b <;> cases c <;> cases d <;> decide
theorem mk4_1 (a b c d : Bool) : (mk4 a b c d).testBit 1 = b := by cases a <;> cases b <;> cases c <;> cases d <;> decide
theorem mk4_2 (a b c d : Bool) : (mk4 a b c d).testBit 2 = c := by cases a <;> cases b <;> cases c <;> cases d <;> decide
theorem mk4_3 (a b c d : Bool) : (mk4 a b c d).testBit 3 = d := by cases a <;> cases b <;> cases c <;> cases d <;> decide
def pm (E : List (Int × Int)) (i : Nat) : Nat := mk4 (rB E i 0) (rB E i 1) (rB E i 2) (rB E i 3)
theorem pm_lt (E : List (Int × Int)) (i : Nat) : pm E i < 16 := mk4_lt _ _ _ _
theorem pm_bit (E : List (Int × Int)) (i : Nat) : ∀ k < 4, (pm E i).testBit k = rB E i k
  | 0, _ => mk4_0 _ _ _ _
  | 1, _ => mk4_1 _ _ _ _
  | 2, _ => mk4_2 _ _ _ _
  | 3, _ => mk4_3 _ _ _ _

def gk (E : List (Int × Int)) (i : Nat) : Nat → Nat
  | 0 => 0
  | k + 1 => match E[k]? with
    | some e => if (okE e && e.1 == (i : Int)) = true then gk E i k ||| 2 ^ e.2.toNat else gk E i k
    | none => gk E i k

theorem or16 : ∀ a < 16, ∀ b < 16, a ||| b < 16 := by decide +kernel
theorem pow16 : ∀ k < 4, 2 ^ k < 16 := by decide
theorem ok_nat {e : Int × Int} (h : okE e = true) : ∃ i j : Nat, i < 4 ∧ j < 4 ∧ e = ((i : Int), (j : Int)) := by
  simp only [okE, Bool.and_eq_true] at h
  obtain ⟨i, hi, e1⟩ := nat_of_cl h.1
  obtain ⟨j, hj, e2⟩ := nat_of_cl h.2
  exact ⟨i, j, hi, hj, Prod.ext e1 e2⟩

theorem gk_lt (E : List (Int × Int)) (i : Nat) : ∀ k, gk E i k < 16
  | 0 => by show 0 < 16; decide
  | k + 1 => by
    have ih := gk_lt E i k
    unfold gk
    split
    · split
      · rename_i h
        simp only [Bool.and_eq_true] at h
        obtain ⟨a, b, _, hb, rfl⟩ := ok_nat h.1
        exact or16 _ ih _ (by simpa using pow16 b hb)
      · exact ih
    · exact ih

theorem gk_ok {E : List (Int × Int)} {k : Nat} {a b : Nat} (h : E[k]? = some ((a : Int), (b : Int))) (ha : a < 4) (hb : b < 4) (i : Nat) : gk E i (k + 1) = if a = i then gk E i k ||| 2 ^ b else gk E i k := by
  have : okE ((a : Int), (b : Int)) = true := by simp [okE, cl_nat ha, cl_nat hb]
  simp only [gk, h, this, Bool.true_and]
  by_cases e : a = i
  · simp [e]
  · rw [if_neg e, if_neg (by simp; omega)]
theorem gk_bad {E : List (Int × Int)} {k : Nat} {e : Int × Int} (h : E[k]? = some e) (hb : okE e = false) (i : Nat) : gk E i (k + 1) = gk E i k := by
  simp [gk, h, hb]

theorem gk_bit (E : List (Int × Int)) (i j : Nat) : ∀ k, (gk E i k).testBit j = true ↔ i < 4 ∧ j < 4 ∧ ∃ t, t < k ∧ E[t]? = some ((i : Int), (j : Int))
  | 0 => by simp [gk]
  | k + 1 => by
    have ih := gk_bit E i j k
    cases e : E[k]? with
    | none =>
      simp only [gk, e]
      rw [ih]
      constructor
      · rintro ⟨h1, h2, t, h3, h4⟩; exact ⟨h1, h2, t, by omega, h4⟩
      · rintro ⟨h1, h2, t, h3, h4⟩
        refine ⟨h1, h2, t, ?_, h4⟩
        rcases Nat.lt_or_ge t k with h | h
        · exact h
        · have : t = k := by omega
          subst this
          rw [e] at h4; cases h4
    | some x =>
      cases hok : okE x with
      | false =>
        rw [gk_bad e hok, ih]
        constructor
        · rintro ⟨h1, h2, t, h3, h4⟩; exact ⟨h1, h2, t, by omega, h4⟩
        · rintro ⟨h1, h2, t, h3, h4⟩
          refine ⟨h1, h2, t, ?_, h4⟩
          rcases Nat.lt_or_ge t k with h | h
          · exact h
          · have : t = k := by omega
            subst this
            rw [e] at h4
            cases h4
            simp [okE, cl_nat h1, cl_nat h2] at hok
      | true =>
        obtain ⟨a, b, ha, hb, rfl⟩ := ok_nat hok
        rw [gk_ok e ha hb]
        split
        · rename_i hai
          subst hai
          rw [Nat.testBit_or, Bool.or_eq_true, ih, Nat.testBit_two_pow, decide_eq_true_eq]
          constructor
          · rintro (⟨h1, h2, t, h3, h4⟩ | rfl)
            · exact ⟨h1, h2, t, by omega, h4⟩
            · exact ⟨ha, hb, k, by omega, e⟩
          · rintro ⟨h1, h2, t, h3, h4⟩
            rcases Nat.lt_or_ge t k with h | h
            · exact .inl ⟨h1, h2, t, h, h4⟩
            · have : t = k := by omega
              subst this
              rw [e] at h4
              cases h4
              exact .inr rfl
        · rename_i hai
          rw [ih]
          constructor
          · rintro ⟨h1, h2, t, h3, h4⟩; exact ⟨h1, h2, t, by omega, h4⟩
          · rintro ⟨h1, h2, t, h3, h4⟩
            refine ⟨h1, h2, t, ?_, h4⟩
            rcases Nat.lt_or_ge t k with h | h
            · exact h
            · have : t = k := by omega
              subst this
              rw [e] at h4
              cases h4
              exact absurd rfl hai

def gA (E : List (Int × Int)) (i : Nat) : Nat := gk E i E.length
theorem gA_lt (E : List (Int × Int)) (i : Nat) : gA E i < 16 := gk_lt E i _
theorem gA_bit (E : List (Int × Int)) (i j : Nat) : (gA E i).testBit j = adB E i j := by
  have h := gk_bit E i j E.length
  have h2 := ad_iff E i j
  have h3 : (∃ t, t < E.length ∧ E[t]? = some ((i : Int), (j : Int))) ↔ ((i : Int), (j : Int)) ∈ E := by
    rw [List.mem_iff_getElem?]
    constructor
    · rintro ⟨t, _, h⟩; exact ⟨t, h⟩
    · rintro ⟨t, h⟩; exact ⟨t, (List.getElem?_eq_some_iff.1 h).1, h⟩
  rw [h3, ← h2] at h
  show (gk E i E.length).testBit j = _
  cases e : (gk E i E.length).testBit j <;> cases e2 : adB E i j <;> simp_all

/-! ### The search -/

def tz (m : Nat) : Nat := if m.testBit 0 then 0 else if m.testBit 1 then 1 else if m.testBit 2 then 2 else 3
theorem tz_lt : ∀ m < 16, tz m < 4 := by decide
theorem tz_bit : ∀ m < 16, m ≠ 0 → m.testBit (tz m) = true := by decide
def zc (a : Nat) : Nat := 4 - ((a.testBit 0).toNat + (a.testBit 1).toNat + (a.testBit 2).toNat + (a.testBit 3).toNat)
theorem zc_lt : ∀ a < 16, ∀ c < 4, a.testBit c = false → zc (a ||| 2 ^ c) < zc a := by decide +kernel

structure Srch (E : List (Int × Int)) (i f a c : Nat) : Prop where
  f16 : f < 16
  a16 : a < 16
  c4 : c < 4
  new : a.testBit c = false
  all : ∀ j k, a.testBit j = true → adB E j k = true → f.testBit k = true
  only : ∀ k, f.testBit k = true → rB E i k = true
  start : a.testBit i = true ∨ c = i
  whence : c = i ∨ f.testBit c = true

theorem Srch.first (E : List (Int × Int)) (i : Nat) (hi : i < 4) : Srch E i 0 0 i :=
  ⟨by decide, by decide, hi, by simp, by simp, by simp, .inr rfl, .inl rfl⟩

section
variable {E : List (Int × Int)} {i f a c : Nat}
theorem Srch.only' (h : Srch E i f a c) : ∀ k, (f ||| gA E c).testBit k = true → rB E i k = true := fun k hk => by
  rw [Nat.testBit_or, Bool.or_eq_true] at hk
  rcases hk with hk | hk
  · exact h.only k hk
  · rw [gA_bit] at hk
    rcases h.whence with rfl | h2
    · exact r_one hk
    · exact r_right (h.only _ h2) hk
theorem Srch.all' (h : Srch E i f a c) : ∀ j k, (a ||| 2 ^ c).testBit j = true → adB E j k = true → (f ||| gA E c).testBit k = true := fun j k hj hk => by
  rw [Nat.testBit_or, Bool.or_eq_true, Nat.testBit_two_pow, decide_eq_true_eq] at hj
  rw [Nat.testBit_or, Bool.or_eq_true]
  rcases hj with hj | rfl
  · exact .inl (h.all j k hj hk)
  · exact .inr (by rw [gA_bit]; exact hk)
theorem Srch.start' (h : Srch E i f a c) : (a ||| 2 ^ c).testBit i = true := by
  rw [Nat.testBit_or, Bool.or_eq_true, Nat.testBit_two_pow, decide_eq_true_eq]
  exact h.start
theorem Srch.f' (h : Srch E i f a c) : f ||| gA E c < 16 := or16 _ h.f16 _ (gA_lt E c)
theorem Srch.a' (h : Srch E i f a c) : a ||| 2 ^ c < 16 := or16 _ h.a16 _ (pow16 c h.c4)

theorem sub_zero {x y : Nat} (h : sub x y = 0) (k : Nat) (hk : x.testBit k = true) : y.testBit k = true := by
  have := sub_bit x y k
  rw [h, hk] at this
  simpa using this

theorem Srch.last (h : Srch E i f a c) (h0 : sub (f ||| gA E c) (a ||| 2 ^ c) = 0) : f ||| gA E c = pm E i := by
  refine ext16 _ h.f' _ (pm_lt E i) fun k hk => ?_
  rw [pm_bit E i k hk]
  have h1 : ∀ k, rB E i k = true → (f ||| gA E c).testBit k = true := fun k hk =>
    r_ind hk (fun k => (f ||| gA E c).testBit k = true) (fun k hk => h.all' i k h.start' hk) (fun j k hj hk => h.all' j k (sub_zero h0 j hj) hk)
  have h2 := h.only' k
  have h1 := h1 k
  revert h1 h2
  cases (f ||| gA E c).testBit k <;> cases rB E i k <;> simp

theorem Srch.next (h : Srch E i f a c) (h0 : sub (f ||| gA E c) (a ||| 2 ^ c) ≠ 0) (h16 : sub (f ||| gA E c) (a ||| 2 ^ c) < 16) : Srch E i (f ||| gA E c) (a ||| 2 ^ c) (tz (sub (f ||| gA E c) (a ||| 2 ^ c))) := by
  have hb := tz_bit _ h16 h0
  rw [sub_bit, Bool.and_eq_true, Bool.not_eq_true'] at hb
  exact ⟨h.f', h.a', tz_lt _ h16, hb.2, h.all', h.only', .inl h.start', .inr hb.1⟩
end

/-! ### What the package's functions answer -/

def vcI (E : List (Int × Int)) : Int := if rB E 3 3 then 3 else if rB E 2 2 then 2 else if rB E 1 1 then 1 else 0
def vcB (E : List (Int × Int)) : Bool := rB E 3 3 || rB E 2 2 || rB E 1 1 || rB E 0 0
end Go.Proofs.YtpofihiojhbfgaaGreatDoor.Wai

namespace Go.Proofs.YtpofihiojhbfgaaGreatDoor.Wai
open Go.RowKit
set_option linter.unusedVariables false
set_option maxRecDepth 8000

theorem info29 : (Tryz.prog.info? 236).map (fun i => (i.zero, i.size, i.bytes)) = some (some (.agg #[.int .i64 0, .int .i64 0]), 2, 16) := by kernel_rfl
structure RdE (w : World) (ao : Option Addr) (cap : Nat) (E : List (Int × Int)) : Prop where
  le : E.length ≤ cap
  mx : cap ≤ maxLen
  nil : ao = none → cap = 0
  cell : E ≠ [] → ∃ b off, ao = some ⟨b, off, none⟩ ∧ b < w.heap.size ∧ ∀ t (h : t < E.length), w.cell? ⟨b, off + t * 2, none⟩ = some (.int .i64 E[t].1) ∧ w.cell? ⟨b, off + t * 2 + 1, none⟩ = some (.int .i64 E[t].2)

theorem RdE.below {w w' : World} {ao : Option Addr} {cap : Nat} {E : List (Int × Int)} (h : RdE w ao cap E) (hb : Below w.heap.size w w') : RdE w' ao cap E := by
  refine ⟨h.le, h.mx, h.nil, fun hx => ?_⟩
  obtain ⟨b, off, e, hlt, hc⟩ := h.cell hx
  exact ⟨b, off, e, Nat.lt_of_lt_of_le hlt hb.size, fun t ht => ⟨(hb.cell (p := ⟨b, off + t * 2, none⟩) hlt).trans (hc t ht).1, (hb.cell (p := ⟨b, off + t * 2 + 1, none⟩) hlt).trans (hc t ht).2⟩⟩
theorem RdE.at {w : World} {ao : Option Addr} {cap : Nat} {E : List (Int × Int)} (h : RdE w ao cap E) {t : Nat} (ht : t < E.length) :
    ∃ b off, ao = some ⟨b, off, none⟩ ∧ b < w.heap.size ∧ w.cell? ⟨b, off + t * 2, none⟩ = some (.int .i64 E[t].1) ∧ w.cell? ⟨b, off + t * 2 + 1, none⟩ = some (.int .i64 E[t].2) := by
  obtain ⟨b, off, e, hlt, hc⟩ := h.cell (by intro e; subst e; simp at ht)
  exact ⟨b, off, e, hlt, hc t ht⟩

structure Tz (w : World) : Prop where
  c0 : w.cell? ⟨2, 0, none⟩ = some (.int .u8 0)
  c1 : w.cell? ⟨2, 1, none⟩ = some (.int .u8 1)
  c3 : w.cell? ⟨2, 3, none⟩ = some (.int .u8 2)
  c7 : w.cell? ⟨2, 7, none⟩ = some (.int .u8 3)
  lt : 2 < w.heap.size

theorem Tz.below {w w' : World} {B : Nat} (h : Tz w) (hB : 2 < B) (hb : Below B w w') : Tz w' :=
  ⟨(hb.cell (p := ⟨2, 0, none⟩) hB).trans h.c0, (hb.cell (p := ⟨2, 1, none⟩) hB).trans h.c1, (hb.cell (p := ⟨2, 3, none⟩) hB).trans h.c3, (hb.cell (p := ⟨2, 7, none⟩) hB).trans h.c7, Nat.lt_of_lt_of_le h.lt hb.size⟩
theorem Tz.on {w w' : World} (h : Tz w) (hb : Below w.heap.size w w') : Tz w' := h.below h.lt hb

structure G4 (w : World) (b : Nat) (T : Nat → Nat) : Prop where
  blk : w.heap[b]? = some (.cells #[.int .u64 (T 0 : Nat), .int .u64 (T 1 : Nat), .int .u64 (T 2 : Nat), .int .u64 (T 3 : Nat)] 228 (0, 0))
def put (T : Nat → Nat) (i v : Nat) : Nat → Nat := fun j => if j = i then v else T j

section
variable {w w' : World} {b : Nat} {T : Nat → Nat}
theorem G4.cell (h : G4 w b T) : ∀ i, i < 4 → w.cell? ⟨b, i, none⟩ = some (.int .u64 (T i : Nat))
  | 0, _ => by rw [cell_of_row _ _ _ _ _ _ h.blk]; rfl
  | 1, _ => by rw [cell_of_row _ _ _ _ _ _ h.blk]; rfl
  | 2, _ => by rw [cell_of_row _ _ _ _ _ _ h.blk]; rfl
  | 3, _ => by rw [cell_of_row _ _ _ _ _ _ h.blk]; rfl
theorem G4.fz (h : G4 w b T) (j : Nat) : w.frozen? ⟨b, j, none⟩ = false := frozen_of_row _ _ _ _ _ h.blk
theorem G4.lt (h : G4 w b T) : b < w.heap.size := (Array.getElem?_eq_some_iff.1 h.blk).1
theorem G4.keep (h : G4 w b T) (hb : w'.heap[b]? = w.heap[b]?) : G4 w' b T := ⟨hb.trans h.blk⟩
theorem G4.below (h : G4 w b T) (hb : Below w.heap.size w w') : G4 w' b T := h.keep (hb.block b h.lt)
theorem G4.put (h : G4 w b T) : ∀ (i v : Nat), i < 4 → G4 (w.setCell ⟨b, i, none⟩ (.int .u64 (v : Int))) b (put T i v)
  | 0, v, _ => ⟨by rw [heap_setCell_same w b 0 _ 228 _ h.blk]; rfl⟩
  | 1, v, _ => ⟨by rw [heap_setCell_same w b 1 _ 228 _ h.blk]; rfl⟩
  | 2, v, _ => ⟨by rw [heap_setCell_same w b 2 _ 228 _ h.blk]; rfl⟩
  | 3, v, _ => ⟨by rw [heap_setCell_same w b 3 _ 228 _ h.blk]; rfl⟩
end

end Go.Proofs.YtpofihiojhbfgaaGreatDoor.Wai
