/- What the document's Free and Alone do, walked. -/
import Derived.Test.YtngfcnbcljcdfaaU1
import Derived.Deep.MidRow
namespace Go.Proofs.Ytngfcnbcljcdfaa
open Go.RowKit
set_option linter.unusedVariables false

theorem size37 : (Try.prog.info? 37).map (·.size) = some 192 := by kernel_rfl
theorem row37 : (Try.prog.underlying 37).map TypeDesc.isRow = some true := by kernel_rfl

/-- The whole table out of its block. -/
theorem load37 {w : World} {q : Nat} {T : Nat → Nat} (h : Rb w q T) : (Instr.loadAt 37 (.pointer (some ⟨q, 0, none⟩))).run Try.prog w = .ok (.agg (rfA T)) w := by
  have hr : w.rangeAt q 0 (rfL T) := fun j v hv => by
    rw [Nat.zero_add, cell_of_row _ _ _ _ _ _ h.blk]
    simpa [rfA] using hv
  cases hu : Try.prog.underlying 37 with
  | none => have := row37; rw [hu] at this; simp at this
  | some d =>
    have hd : d.isRow = true := by have := row37; rw [hu] at this; simpa using this
    exact run_loadAt_mid w q 0 37 (rfL T) d hr hu hd (by rw [size37]; simp [rfL])

/-- The whole table is loaded: a step of a plain region. -/
theorem wpList_load37 {ops : Array Oper} {rest : List Oper} {op : Oper} {a : Act} {w : World} {Q : Exit → Act → World → Prop} (hgd : op.guard = none) (x : Operand) (ho : op.op = .load 37 x) (q : Nat) (T : Nat → Nat) (hx : a.eval x = .pointer (some ⟨q, 0, none⟩)) (hR : Rb w q T)
    (h : wpList Try.prog ops Q rest (a.put op.dst (.agg (rfA T))) w) : wpList Try.prog ops Q (op :: rest) a w := by
  refine wpList_plain hgd fun _ hK => ?_
  unfold Oper.wp execOp
  simp only [ho, hx, Sem.run_bind, Sem.run_pure, Result.andThen_ok, load37 hR]
  exact hK _ _ h

theorem rfree_math {T : Nat → Nat} (hT : ∀ i, T i < 16) {c p : Nat} : mk4 ((hol T c p 0 false 4).length == 0) ((hol T c p 1 false 4).length == 0) ((hol T c p 2 false 4).length == 0) ((hol T c p 3 false 4).length == 0) = sub 15 (oo T c p) := by
  have hlt : sub 15 (oo T c p) < 16 := lsub (by decide) (orr_lt _ _ (fun d => hT _) _)
  rw [← mk4_bits (sub 15 (oo T c p)) hlt]
  have key : ∀ i, i < 4 → ((hol T c p i false 4).length == 0) = (sub 15 (oo T c p)).testBit i := by
    intro i hi
    have h15 : (15 : Nat).testBit i = true := by
      match i, hi with
      | 0, _ | 1, _ | 2, _ | 3, _ => rfl
    rw [bit_sub, h15, Bool.true_and, Bool.eq_iff_iff, beq_iff_eq, hol_nil]
    unfold oo
    rw [Bool.not_eq_true', ← Bool.not_eq_true, orr_bit]
    simp only [wm, Bool.false_eq_true, if_false]
    constructor
    · rintro h ⟨d, h1, h2, h3⟩; exact h d h1 h2 h3
    · intro h d h1 h2 h3; exact h ⟨d, h1, h2, h3⟩
  rw [key 0 (by decide), key 1 (by decide), key 2 (by decide), key 3 (by decide)]

/-- Nobody else has a copy of the first k objects. -/
def raB (T : Nat → Nat) (c p : Nat) : Nat → Bool
  | 0 => true
  | k + 1 => raB T c p k && ((hol T c p k true 4).length == 0)

theorem raB_all (T : Nat → Nat) (c p : Nat) : ∀ k, raB T c p k = true ↔ ∀ i, i < k → (hol T c p i true 4).length = 0
  | 0 => by simp [raB]
  | k + 1 => by
    rw [raB, Bool.and_eq_true, raB_all T c p k, beq_iff_eq]
    constructor
    · rintro ⟨h1, h2⟩ i hi
      by_cases e : i = k
      · subst e; exact h2
      · exact h1 i (by omega)
    · intro h
      exact ⟨fun i hi => h i (by omega), h k (by omega)⟩

theorem zero16 {m : Nat} (hm : m < 16) (h : ∀ i, i < 4 → ¬ m.testBit i = true) : m = 0 := by
  rw [← mk4_bits m hm]
  have e : ∀ i, i < 4 → m.testBit i = false := fun i hi => by simpa using h i hi
  rw [e 0 (by decide), e 1 (by decide), e 2 (by decide), e 3 (by decide)]
  rfl

/-- Alone is asked of all that others have, and of their copies alone: it is the same. -/
theorem alone_same {T : Nat → Nat} (hT : ∀ i, T i < 16) (hS : Sole T) {c p : Nat} (hp : p < 6) : (oc T c p == 0 && oo T c p == 0) = raB T c p 4 := by
  rw [Bool.eq_iff_iff, Bool.and_eq_true, beq_iff_eq, beq_iff_eq, raB_all]
  constructor
  · rintro ⟨h1, _⟩ i hi
    rw [hol_nil]
    intro d hd hc hb
    simp only [wm, if_true] at hb
    have := (orr_bit (fun d => cp T d p) c i 4).2 ⟨d, hd, hc, hb⟩
    unfold oc at h1
    rw [h1] at this
    simp at this
  · intro h
    have hc : oc T c p = 0 := zero16 (orr_lt _ _ (fun d => hT _) _) fun i hi hb => by
      obtain ⟨d, h1, h2, h3⟩ := (orr_bit _ c i 4).1 hb
      exact (hol_nil T c p i true 4).1 (h i hi) d h1 h2 (by simpa only [wm, if_true] using h3)
    refine ⟨hc, zero16 (orr_lt _ _ (fun d => hT _) _) fun i hi hb => ?_⟩
    obtain ⟨d, h1, h2, h3⟩ := (orr_bit _ c i 4).1 hb
    exact (hol_nil T c p i true 4).1 (h i hi) d h1 h2 (by simpa only [wm, if_true] using hS.own d p i h1 hp h3)

set_option maxHeartbeats 1600000 in
theorem ralone_in (T : Nat → Nat) (c p : Nat) (hc : c < 4) (hp : p < 6) (w : World) : Calls Try.prog 24 #[.agg (rfA T), .int .i64 (c : Int), .int .i64 (p : Int)] w fun e w' => e = .returned (.bool (raB T c p 4)) ∧ Below w.heap.size w w' := by
  have h1 := pl_nat hc hp
  have HR : Hid (Rb (w.alloc (.cells (rfA T) 37)) w.heap.size T) := Rb.new w T
  go_enter Try.func24, Try.ntmps24
  go_wp2_with (go_at_call 31; refine (In_any c p _).mono ?_; rw [h1]; rintro e w1 ⟨rfl, hw⟩; subst w1)
  go_loopw [7] (fun i wq => ∃ t : Nat, t ≤ 4 ∧ i = .int .i64 t ∧ Hid (Rb wq w.heap.size T ∧ raB T c p t = true) ∧ Below w.heap.size w wq) (fun i _ => 4 - (intOf i).toNat)
  case atStart => exact ⟨0, by omega, rfl, ⟨HR.out, rfl⟩, (Below.refl _ _).alloc (Nat.le_refl _) _⟩
  case round =>
    clear HR
    obtain ⟨t, ht, rfl, HI, hbel⟩ := hrel
    rename World => wq
    by_cases hlt : t < 4
    · obtain ⟨n, hn⟩ : ∃ n, (hol T c p t true 4).length = n := ⟨_, rfl⟩
      have HN : Hid (hoI T c p t true = hol T c p t true 4 ∧ (hol T c p t true 4).length = n) := ⟨hoI_nat hc hp hlt true, hn⟩
      clear hn
      by_cases hn0 : n = 0
      · have q1 : ¬ ((0 : Int) < (n : Int)) := by omega
        have HN0 : Hid (n = 0) := hn0
        clear hn0
        go_upto_region 6 with fail
        refine wp_region_lit ?_
        refine wpList_load37 rfl _ rfl w.heap.size T rfl HI.out.1 ?_
        go_wp2_with (go_at_call 26; refine (rholders_is T c p t true wq _ n HN.out.1 HN.out.2).mono ?_; rintro e w2 ⟨ax, cx, rfl, -, hb2⟩)
        go_roundw
        case rel => exact ⟨t + 1, by omega, by go_num, ⟨HI.out.1.below hb2, by rw [raB, HI.out.2, HN.out.2, HN0.out]; rfl⟩, below_step hbel hb2⟩
        case measure => simp [intOf]; omega
      · have q1 : (0 : Int) < (n : Int) := by omega
        have HF : Hid (raB T c p 4 = false) := by
          unfold Hid
          rw [← Bool.not_eq_true, raB_all]
          intro h
          exact hn0 (by rw [← HN.out.2]; exact h t hlt)
        clear hn0
        go_upto_region 6 with fail
        refine wp_region_lit ?_
        refine wpList_load37 rfl _ rfl w.heap.size T rfl HI.out.1 ?_
        go_wp2_with (go_at_call 26; refine (rholders_is T c p t true wq _ n HN.out.1 HN.out.2).mono ?_; rintro e w2 ⟨ax, cx, rfl, -, hb2⟩)
        go_ret
        exact ⟨ret_bool HF.out.symm, below_step hbel hb2⟩
    · obtain rfl : t = 4 := by omega
      go_wp2
      go_ret
      exact ⟨ret_bool HI.out.2.symm, hbel⟩

end Go.Proofs.Ytngfcnbcljcdfaa
