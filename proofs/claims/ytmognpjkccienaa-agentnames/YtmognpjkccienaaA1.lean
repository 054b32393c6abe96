/- The short functions of package agent, walked. -/
import Derived.Test.YtmognpjkccienaaA0
namespace Go.Proofs.Ytmognpjkccienaa
open Go.RowKit
set_option linter.unusedVariables false
set_option maxRecDepth 8000

theorem ahas_nat (m o : Nat) (hm : m < 16) (ho : o < 4) (w : World) : Calls Try.prog 21 #[.int .i64 (m : Int), .int .i64 (o : Int)] w fun e w' => e = .returned (.bool (m.testBit o)) ∧ w' = w := by
  go_enter Try.func21, Try.ntmps21
  go_wp2
  go_ret
  exact ⟨ret_bool (shr16 m hm o ho), rfl⟩

/-- Is there such a kind, of those without a place? -/
def kindB (k : Int) : Bool := decide (0 ≤ k) && decide (k ≤ 4)

theorem isPlace_rw (x : Og) (hk : x.k = 1 ∨ x.k = 2) (hp : 0 ≤ x.p ∧ x.p < 6) (ho : 0 ≤ x.o ∧ x.o < 4) (w : World) : Calls Try.prog 9 #[opV x] w fun e w' => e = .returned (.bool true) ∧ Below w.heap.size w w' := by
  have hst := fun (ad : Addr) (re im : Nat) (W : World) => run_store Try.prog W ad (.complex .f64 re im) .plain rfl
  obtain ⟨k, p, o, v⟩ := x
  simp only at hk hp ho
  obtain ⟨hp1, hp2⟩ := hp
  obtain ⟨ho1, ho2⟩ := ho
  rcases hk with rfl | rfl
  all_goals
    go_enter Try.func9, Try.ntmps9
    go_wp2
    go_ret
    exact ⟨rfl, (Below.refl _ _).alloc (Nat.le_refl _) _⟩

theorem isPlace_k (x : Og) (h1 : x.k ≠ 1) (h2 : x.k ≠ 2) (w : World) : Calls Try.prog 9 #[opV x] w fun e w' => e = .returned (.bool (kindB x.k)) ∧ Below w.heap.size w w' := by
  have hst := fun (ad : Addr) (re im : Nat) (W : World) => run_store Try.prog W ad (.complex .f64 re im) .plain rfl
  obtain ⟨k, p, o, v⟩ := x
  simp only at h1 h2
  have e1 : (k == 1) = false := by simpa using h1
  have e2 : (k == 2) = false := by simpa using h2
  have HE : Hid (kindB k = (decide (0 ≤ k) && decide (k ≤ 4))) := rfl
  clear h1 h2
  cases hd : decide (0 ≤ k)
  all_goals
    have h' := hd
    simp only [decide_eq_true_eq, decide_eq_false_iff_not] at h'
    go_enter Try.func9, Try.ntmps9
    go_wp2
    go_ret
    exact ⟨ret_bool (by show _ = kindB k; rw [HE.out, hd]; simp), (Below.refl _ _).alloc (Nat.le_refl _) _⟩

section
variable {w : World} {A : Nat → Prop} {a c : Nat} {pq ko : Option Addr} {kc : Nat} {s : As}
/-- Does it wait? -/
def wtB (s : As) : Bool := s.q.isSome
theorem AskAt.isSome (h : AskAt w pq s.q) : pq.isSome = wtB s := by
  unfold wtB
  rcases h with ⟨h1, h2⟩ | ⟨g, o, h1, h2, _⟩ <;> rw [h1, h2] <;> rfl

theorem waits_any (H : Ag w A a c pq ko kc s) : Calls Try.prog 19 #[cp a] w fun e w' => e = .returned (.bool (wtB s)) ∧ w' = w := by
  have hc := H.cq
  have HS : Hid (pq.isSome = wtB s) := AskAt.isSome H.q
  clear H
  cases pq with
  | none =>
    go_enter Try.func19, Try.ntmps19
    go_wp2
    go_ret
    exact ⟨ret_bool HS.out, rfl⟩
  | some p =>
    go_enter Try.func19, Try.ntmps19
    go_wp2
    go_ret
    exact ⟨ret_bool HS.out, rfl⟩
theorem open_any (H : Ag w A a c pq ko kc s) : Calls Try.prog 18 #[cp a] w fun e w' => e = .returned (.bool s.op) ∧ w' = w := by
  have hc := H.c2
  clear H
  go_enter Try.func18, Try.ntmps18
  go_wp2
  go_ret
  exact ⟨rfl, rfl⟩
theorem txn_any (H : Ag w A a c pq ko kc s) : Calls Try.prog 7 #[cp a] w fun e w' => e = .returned (.int .i64 s.t) ∧ w' = w := by
  have hc := H.c1
  clear H
  go_enter Try.func7, Try.ntmps7
  go_wp2
  go_ret
  exact ⟨rfl, rfl⟩
theorem acopies_any (H : Ag w A a c pq ko kc s) (p : Int) : Calls Try.prog 17 #[cp a, .int .i64 p] w fun e w' => e = .returned (.int .i64 ((cpN s.L p : Nat) : Int)) ∧ Below w.heap.size w w' := by
  have hc := H.c0
  obtain ⟨ao, cap, h⟩ := H.ca
  have HC : Hid (Calls Try.prog 29 #[cp c, .int .i64 p] w fun e w' => e = .returned (.int .i64 ((cpN s.L p : Nat) : Int)) ∧ Below w.heap.size w w') := copies_any w _ c _ ao cap _ h (by have := H.ll; omega) p
  clear H h
  go_enter Try.func17, Try.ntmps17
  go_wp2_with (first
    | (go_at_call 29; refine HC.out.mono ?_; rintro e w1 ⟨rfl, hb1⟩)
    | fail)
  go_ret
  exact ⟨rfl, hb1⟩

/-- Can it be asked now? -/
def mayB (s : As) (k : Int) : Bool := if k = 0 then !s.op && decide (s.t < 16777215) else s.op && !wtB s

theorem mayDo_any (H : Ag w A a c pq ko kc s) (k : Int) : Calls Try.prog 10 #[cp a, .int .i64 k] w fun e w' => e = .returned (.bool (mayB s k)) ∧ w' = w := by
  have hc1 := H.c1
  have hc2 := H.c2
  have HW : Hid (Calls Try.prog 19 #[cp a] w fun e w' => e = .returned (.bool (wtB s)) ∧ w' = w) := waits_any H
  clear H
  by_cases h : k = 0
  · subst h
    have HE : Hid (mayB s 0 = (!s.op && decide (s.t < 16777215))) := rfl
    cases ho : s.op
    all_goals
      rw [ho] at hc2
      go_enter Try.func10, Try.ntmps10
      go_wp2
      go_ret
      exact ⟨ret_bool (by rw [HE.out, ho]; rfl), rfl⟩
  · have hk : (k == 0) = false := by simpa using h
    have HE : Hid (mayB s k = (s.op && !wtB s)) := by unfold Hid mayB; rw [if_neg h]
    clear h
    cases ho : s.op
    all_goals
      rw [ho] at hc2
      go_enter Try.func10, Try.ntmps10
      go_wp2_with (first
        | (go_at_call 19; refine HW.out.mono ?_; rintro e w1 ⟨rfl, hw⟩; subst w1)
        | fail)
      go_ret
      exact ⟨ret_bool (by rw [HE.out, ho]; rfl), rfl⟩
end

end Go.Proofs.Ytmognpjkccienaa
