/- Lists of wants: who waits, who is taken out, who is ahead, what is reserved. No walk. -/
import Derived.Test.YtllggjkhbecalaaDoorQ4
namespace Go.Proofs.YtllggjkhbecalaaDoor
open Go.RowKit Go.Maps
set_option linter.unusedVariables false
set_option maxRecDepth 8000

theorem hasB_any (L : List Wt) (c : Int) : hasB L c = L.any (fun x => x.c == c) := by
  unfold hasB plN
  rw [Bool.eq_iff_iff, decide_eq_true_eq, List.findIdx_lt_length, List.any_eq_true]

theorem plZ_iff (L : List Wt) (c : Int) : decide (0 ≤ plZ L c) = hasB L c := by
  unfold hasB plZ
  by_cases h : plN L c < L.length
  · rw [if_pos h]
    simp [h]
  · rw [if_neg h]
    simp [h]

theorem addB_eq (L : List Wt) (x : Wt) : addB L x = (cliB x.c && (objB x.p x.o && !hasB L x.c)) := by
  unfold addB
  rw [plZ_iff]

theorem hasB_false {L : List Wt} {c : Int} : hasB L c = false ↔ ∀ y ∈ L, y.c ≠ c := by
  rw [hasB_any, List.any_eq_false]
  simp

theorem hasB_true {L : List Wt} {c : Int} : hasB L c = true ↔ ∃ y ∈ L, y.c = c := by
  rw [hasB_any, List.any_eq_true]
  simp

/-- Wants that can be, at most one of each client. -/
structure Nice (L : List Wt) : Prop where
  rt : ∀ x ∈ L, Rt x
  ap : L.Pairwise (fun a b => a.c ≠ b.c)

theorem Nice.nil : Nice [] := ⟨by simp, List.Pairwise.nil⟩

theorem addB_facts {L : List Wt} {x : Wt} (h : addB L x = true) : Rt x ∧ ∀ y ∈ L, y.c ≠ x.c := by
  rw [addB_eq] at h
  simp only [Bool.and_eq_true, Bool.not_eq_true', cliB, objB, decide_eq_true_eq] at h
  exact ⟨⟨h.1, h.2.1⟩, hasB_false.1 h.2.2⟩

theorem Nice.add {L : List Wt} (h : Nice L) (x : Wt) : Nice (addL L x) := by
  unfold addL
  cases e : addB L x
  · exact h
  · obtain ⟨h1, h2⟩ := addB_facts e
    simp only [if_true]
    refine ⟨fun y hy => ?_, List.pairwise_append.2 ⟨h.ap, by simp, fun a ha b hb => ?_⟩⟩
    · rcases List.mem_append.1 hy with hy | hy
      · exact h.rt y hy
      · simp only [List.mem_singleton] at hy
        subst hy; exact h1
    · simp only [List.mem_singleton] at hb
      subst hb
      exact h2 a ha

theorem Nice.tail {y : Wt} {L : List Wt} (h : Nice (y :: L)) : Nice L ∧ ∀ z ∈ L, z.c ≠ y.c := by
  obtain ⟨h1, h2⟩ := List.pairwise_cons.1 h.ap
  exact ⟨⟨fun x hx => h.rt x (by simp [hx]), h2⟩, fun z hz => (h1 z hz).symm⟩

def hn (L : List Wt) (j : Int) : Nat := if L.any (fun x => x.c == j) then 1 else 0

theorem nice_count : ∀ (L : List Wt), Nice L → L.length = hn L 0 + hn L 1 + hn L 2 + hn L 3
  | [], _ => rfl
  | y :: L, h => by
    obtain ⟨hL, hy⟩ := h.tail
    have ih := nice_count L hL
    have hr := (h.rt y (by simp)).1
    have hc : ∀ j, hn (y :: L) j = if y.c = j then 1 else hn L j := by
      intro j
      unfold hn
      rw [List.any_cons]
      by_cases e : y.c = j
      · simp [e]
      · simp [e]
    have h0 : hn L y.c = 0 := by
      unfold hn
      rw [List.any_eq_false.2 (fun z hz => by simpa using hy z hz)]
      rfl
    rw [List.length_cons, ih, hc, hc, hc, hc]
    rcases (by omega : y.c = 0 ∨ y.c = 1 ∨ y.c = 2 ∨ y.c = 3) with e | e | e | e
    all_goals
      rw [e] at h0
      rw [e, h0]
      simp
      try omega

theorem Nice.le4 {L : List Wt} (h : Nice L) : L.length ≤ 4 := by
  rw [nice_count L h]
  have hh : ∀ j, hn L j ≤ 1 := fun j => by unfold hn; split <;> omega
  have := hh 0
  have := hh 1
  have := hh 2
  have := hh 3
  omega

def noC (L : List Wt) (c : Int) : List Wt := L.filter (fun y => !(y.c == c))

theorem noC_same {L : List Wt} {c : Int} (h : ∀ y ∈ L, y.c ≠ c) : noC L c = L := by
  unfold noC
  rw [List.filter_eq_self]
  intro y hy
  simpa using h y hy

theorem rm_noC : ∀ {L : List Wt} (c : Int), Nice L → rmL L c = noC L c
  | [], c, _ => rfl
  | y :: L, c, h => by
    obtain ⟨hL, hy⟩ := h.tail
    have ih := rm_noC c hL
    unfold rmL plN at ih ⊢
    unfold noC at ih ⊢
    by_cases e : y.c = c
    · have h1 : (y :: L).findIdx (fun x => x.c == c) = 0 := by simp [List.findIdx_cons, e]
      rw [h1, List.filter_cons]
      have h2 := noC_same (L := L) (c := c) (fun z hz => by rw [← e]; exact hy z hz)
      unfold noC at h2
      simp [e, h2]
    · have h1 : (y :: L).findIdx (fun x => x.c == c) = L.findIdx (fun x => x.c == c) + 1 := by
        rw [List.findIdx_cons]
        have : (y.c == c) = false := by simpa using e
        simp [this]
      rw [h1, List.filter_cons]
      have : (y.c == c) = false := by simpa using e
      simp only [this, Bool.not_false, if_true, List.eraseIdx_cons_succ, ih]

theorem noC_mem {L : List Wt} {c : Int} {y : Wt} : y ∈ noC L c ↔ y ∈ L ∧ y.c ≠ c := by
  unfold noC
  rw [List.mem_filter]
  simp

theorem Nice.noC {L : List Wt} (h : Nice L) (c : Int) : Nice (noC L c) :=
  ⟨fun x hx => h.rt x (noC_mem.1 hx).1, h.ap.filter _⟩
theorem Nice.rm {L : List Wt} (h : Nice L) (c : Int) : Nice (rmL L c) := by rw [rm_noC c h]; exact h.noC c

theorem has_count (L : List Wt) (c : Int) : hasB L c = decide ((noC L c).length < L.length) := by
  cases e : hasB L c
  · symm
    rw [noC_same (hasB_false.1 e)]
    simp
  · symm
    rw [decide_eq_true_eq]
    obtain ⟨y, hy, hc⟩ := hasB_true.1 e
    refine Nat.lt_of_le_of_ne (List.length_filter_le _ _) fun e' => ?_
    have h1 := List.length_filter_eq_length_iff.1 e' y hy
    simp [hc] at h1

theorem has_rm {L : List Wt} (h : Nice L) (c : Int) : hasB (rmL L c) c = false := by
  rw [rm_noC c h, hasB_false]
  intro y hy
  exact (noC_mem.1 hy).2

theorem noC_snoc (L : List Wt) (y : Wt) (c : Int) : noC (L ++ [y]) c = if y.c = c then noC L c else noC L c ++ [y] := by
  unfold noC
  rw [List.filter_append]
  by_cases e : y.c = c <;> simp [e]

/-! ### Who is ahead -/

theorem plN_at {L : List Wt} (h : Nice L) (k : Nat) (hk : k < L.length) : plN L L[k].c = k := by
  unfold plN
  rw [List.findIdx_eq hk]
  refine ⟨by simp, fun j hj => ?_⟩
  have := (List.pairwise_iff_getElem.1 h.ap) j k (by omega) hk hj
  simpa using this

theorem ahead_at {L : List Wt} (h : Nice L) (k : Nat) (hk : k < L.length) : ahead L L[k] = ahL (L.take k) L[k] := by
  unfold ahead
  rw [plN_at h k hk, if_pos hk]

/-- Is a client among those? -/
def inB (Z : List Int) (c : Int) : Bool := Z.any (fun z => z == c)
def crB (a b : Wt) : Bool := a.p == b.p && (a.o == b.o && (a.wr || b.wr))

theorem ahead_in {L : List Wt} (h : Nice L) (i k : Nat) (hi : i < L.length) (hk : k < L.length) : inB (ahead L L[k]) L[i].c = (decide (i < k) && crB L[i] L[k]) := by
  rw [ahead_at h k hk, Bool.eq_iff_iff]
  have hap := List.pairwise_iff_getElem.1 h.ap
  unfold inB ahL
  simp only [List.any_eq_true, List.mem_map, List.mem_filter, beq_iff_eq, Bool.and_eq_true, decide_eq_true_eq]
  constructor
  · rintro ⟨z, ⟨y, ⟨hy, hw⟩, rfl⟩, hz⟩
    obtain ⟨j, hj, rfl⟩ := List.mem_iff_getElem.1 hy
    rw [List.length_take] at hj
    rw [List.getElem_take] at hw hz
    have hji : j = i := by
      rcases Nat.lt_trichotomy j i with h' | h' | h'
      · exact absurd hz (hap j i (by omega) hi h')
      · exact h'
      · exact absurd hz.symm (hap i j hi (by omega) h')
    subst hji
    unfold wayB at hw
    unfold crB
    simp only [Bool.and_eq_true] at hw ⊢
    exact ⟨by omega, hw.1, hw.2.1, hw.2.2.2⟩
  · rintro ⟨hlt, hc⟩
    refine ⟨L[i].c, ⟨L[i], ⟨?_, ?_⟩, rfl⟩, rfl⟩
    · exact List.mem_iff_getElem.2 ⟨i, by rw [List.length_take]; omega, by rw [List.getElem_take]⟩
    · have hne := hap i k hi hk hlt
      unfold crB at hc
      unfold wayB
      simp only [Bool.and_eq_true, Bool.not_eq_true', beq_eq_false_iff_ne] at hc ⊢
      exact ⟨hc.1, hc.2.1, hne, hc.2.2⟩

theorem ahead_first {L : List Wt} (h : Nice L) (hk : 0 < L.length) : ahead L L[0] = [] := by
  rw [ahead_at h 0 hk]
  rfl

theorem ahead_le (L : List Wt) (x : Wt) : (ahead L x).length ≤ L.length := by
  unfold ahead ahL
  rw [List.length_map]
  refine Nat.le_trans (List.length_filter_le _ _) ?_
  split
  · rw [List.length_take]; omega
  · exact Nat.le_refl _

/-- What another one waits to write is reserved. -/
theorem res_bit : ∀ {L : List Wt} (c p : Int), (∀ x ∈ L, Rt x) → ∀ a ∈ L, a.c ≠ c → a.p = p → a.wr = true → (resN c p L).testBit a.o.toNat = true
  | y :: L, c, p, hR, a, ha, h1, h2, h3 => by
    simp only [resN]
    rcases List.mem_cons.1 ha with e | ha
    · subst e
      have : rsB a c p = true := by
        unfold rsB
        simp [h1, h2, h3]
      rw [if_pos this, Nat.testBit_or, Nat.testBit_two_pow_self]
      rfl
    · have ih := res_bit c p (fun x hx => hR x (by simp [hx])) a ha h1 h2 h3
      split
      · rw [Nat.testBit_or, ih]; simp
      · exact ih

end Go.Proofs.YtllggjkhbecalaaDoor
