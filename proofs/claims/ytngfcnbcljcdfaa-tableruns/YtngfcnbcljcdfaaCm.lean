/- Who is in nobody's way: plain facts for TableClears and TableGives. No walk. -/
import Derived.Test.YtngfcnbcljcdfaaTm
import Derived.Test.YtngfcnbcljcdfaaOa
namespace Go.Proofs.Ytngfcnbcljcdfaa
open Go.RowKit
set_option linter.unusedVariables false

theorem cpn {T : Nat → Nat} {c p : Nat} (hc : c < 4) (hp : p < 6) : ((cpI T c p : Nat) : Int) = (cp T c p : Nat) := by rw [cpI_nat hc hp]
theorem own_n {T : Nat → Nat} {c p : Nat} (hc : c < 4) (hp : p < 6) : ((owI T c p : Nat) : Int) = (ow T c p : Nat) := by rw [owI_nat hc hp]

theorem hol_nil (T : Nat → Nat) (c p o : Nat) (wr : Bool) : ∀ k, (hol T c p o wr k).length = 0 ↔ ∀ d, d < k → d ≠ c → ¬ (wm T wr d p).testBit o = true
  | 0 => by simp [hol]
  | k + 1 => by
    have ih := hol_nil T c p o wr k
    cases h : (k != c && (wm T wr k p).testBit o)
    · rw [hol_no h, ih]
      constructor
      · intro h1 d hd hc hb
        by_cases e : d = k
        · subst e
          rw [hb] at h
          simp at h
          exact hc h
        · exact h1 d (by omega) hc hb
      · intro h1 d hd hc hb
        exact h1 d (by omega) hc hb
    · rw [hol_yes h]
      constructor
      · intro h1; simp at h1
      · intro h1
        simp only [Bool.and_eq_true, bne_iff_ne] at h
        exact absurd h.2 (h1 k (by omega) h.1)

theorem bit_pow (o i : Nat) : ((2 : Nat) ^ o).testBit i = decide (o = i) := by rw [Nat.testBit_two_pow]

theorem pow16 {o : Nat} (h : o < 4) : 2 ^ o < 16 := by
  match o, h with
  | 0, _ | 1, _ | 2, _ | 3, _ => decide

theorem cast_pow (o : Nat) : ((2 : Int) ^ o) = ((2 ^ o : Nat) : Int) := by simp

/-- Nobody else has a copy of it: just then it may be owned. -/
theorem may_own {T : Nat → Nat} (h : Sole T) {c p o : Nat} (hc : c < 4) (hp : p < 6) (ho : o < 4) : gOk T c p 0 ((2 : Int) ^ o) = ((hol T c p o true 4).length == 0) := by
  have e1 : argB c p 0 ((2 : Int) ^ o) = true := by
    unfold argB
    rw [pl_nat hc hp, cast_pow, ma_nat (pow16 ho)]
    rfl
  unfold gOk
  rw [e1, cast_pow, Bool.true_and]
  simp only [Int.toNat_natCast]
  rw [Bool.eq_iff_iff, beq_iff_eq, hol_nil, grB_iff]
  constructor
  · rintro ⟨h1, h2⟩ d hd hne hb
    exact h2 d o hd hne hb (by rw [bit_pow]; simp)
  · intro h1
    refine ⟨fun d i hd hne hb hab => ?_, fun d i hd hne hb hab => ?_⟩
    · rcases hab with hab | hab
      · simp at hab
      · rw [bit_pow] at hab
        simp only [decide_eq_true_eq] at hab
        subst hab
        exact h1 d hd hne (h.own d p o hd hp hb)
    · rw [bit_pow] at hab
      simp only [decide_eq_true_eq] at hab
      subst hab
      exact h1 d hd hne hb

theorem hoI_nat {T : Nat → Nat} {c p o : Nat} (hc : c < 4) (hp : p < 6) (ho : o < 4) (wr : Bool) : hoI T c p o wr = hol T c p o wr 4 := by
  unfold hoI
  rw [if_pos ⟨pl_nat hc hp, by omega, by omega⟩]
  simp

/-- A grant leaves all other pages, and all other clients' copies. -/
theorem gT_else {T : Nat → Nat} {c p a b : Int} {d q : Nat} (hd : d < 4) (hq : q < 6) (h : (q : Int) ≠ p ∨ (d : Int) ≠ c) : cp (gT T c p a b) d q = cp T d q ∧ ow (gT T c p a b) d q = ow T d q := by
  unfold gT
  split
  · rename_i e
    unfold gOk at e
    rw [Bool.and_eq_true] at e
    obtain ⟨k, l, x, y, h1, h2, h3, h4, rfl, rfl, rfl, rfl⟩ := arg_yes e.1
    have hne : ¬ (d = k ∧ q = l) := by omega
    simp only [Int.toNat_natCast, grT]
    rw [cp_put h2 hq, ow_put h2 hq, if_neg hne, if_neg hne]
    exact ⟨rfl, rfl⟩
  · exact ⟨rfl, rfl⟩

/-- Numbers in a row of the call's own. -/
structure Wa (w : World) (q n : Nat) (V : Nat → Nat) : Prop where
  cell : ∀ i, i < n → w.cell? ⟨q, i, none⟩ = some (.int .i64 ((V i : Nat) : Int))
  fz : ∀ j, w.frozen? ⟨q, j, none⟩ = false
  lt : q < w.heap.size

section
variable {w w' : World} {q n : Nat} {V : Nat → Nat}
theorem Wa.keep (h : Wa w q n V) (hs : w.heap.size ≤ w'.heap.size) (hg : w'.heap[q]? = w.heap[q]?) : Wa w' q n V :=
  ⟨fun i hi => (World.cell?_of_block (w := w) (w' := w') (a := ⟨q, i, none⟩) hg).trans (h.cell i hi), fun j => (World.frozen?_of_block (w := w) hg).trans (h.fz j), Nat.lt_of_lt_of_le h.lt hs⟩
theorem Wa.below (h : Wa w q n V) (hb : Below w.heap.size w w') : Wa w' q n V := h.keep hb.size (hb.block q h.lt)
theorem Wa.off (h : Wa w q n V) {g : Nat} (hb : Off g w w') (hne : q ≠ g) : Wa w' q n V := h.keep hb.size (hb.block q h.lt hne)
theorem Wa.put (h : Wa w q n V) {i v : Nat} (hi : i < n) : Wa (w.setCell ⟨q, i, none⟩ (.int .i64 ((v : Nat) : Int))) q n (put V i v) := by
  refine ⟨fun j hj => ?_, fun j => by rw [World.frozen?_setCell]; exact h.fz j, by simp [World.setCell]; exact h.lt⟩
  unfold Ytngfcnbcljcdfaa.put
  by_cases e : j = i
  · subst e
    rw [if_pos rfl]
    exact World.cell?_setCell_same _ _ _ (h.cell j hj)
  · rw [if_neg e, put_other _ _ _ _ _ e]
    exact h.cell j hj
theorem Wa.new (w : World) (n : Nat) (e : TypeId) : Wa (w.alloc (.cells (Array.replicate n (.int .i64 0)) e)) w.heap.size n (fun _ => 0) := by
  have h := heap_alloc_new w (.cells (Array.replicate n (.int .i64 0)) e)
  refine ⟨fun i hi => ?_, fun j => frozen_of_row _ _ _ _ _ h, by simp⟩
  refine (cell_of_row _ _ _ _ _ _ h).trans ?_
  simp [hi]
end
theorem Tb.off {w w' : World} {g q : Nat} {T : Nat → Nat} (h : Tb w g T) (hb : Off q w w') (hne : g ≠ q) : Tb w' g T := h.keep hb.size (hb.block g h.lt hne)

/-- What each client had of each page, the first k of them. -/
def had (T : Nat → Nat) (k : Nat) : Nat → Nat := fun i => if i < k then cp T (i / 6) (i % 6) else 0

theorem had_put (T : Nat → Nat) (c p : Nat) (hp : p < 6) : put (had T (c * 6 + p)) (c * 6 + p) (cp T c p) = had T (c * 6 + p + 1) := by
  funext j
  unfold put had
  by_cases e : j = c * 6 + p
  · subst e
    rw [if_pos rfl, if_pos (by omega)]
    have h1 : (c * 6 + p) / 6 = c := by omega
    have h2 : (c * 6 + p) % 6 = p := by omega
    rw [h1, h2]
  · rw [if_neg e]
    by_cases h : j < c * 6 + p
    · rw [if_pos h, if_pos (by omega)]
    · rw [if_neg h, if_neg (by omega)]
theorem had_at (T : Nat → Nat) (c p : Nat) (hc : c < 4) (hp : p < 6) : had T 24 (c * 6 + p) = cp T c p := by
  unfold had
  rw [if_pos (by omega)]
  have h1 : (c * 6 + p) / 6 = c := by omega
  have h2 : (c * 6 + p) % 6 = p := by omega
  rw [h1, h2]

end Go.Proofs.Ytngfcnbcljcdfaa
