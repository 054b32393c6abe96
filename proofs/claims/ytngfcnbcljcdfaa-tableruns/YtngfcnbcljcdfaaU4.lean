/- The document's table written: one cell, and the whole; what its Drop does, walked. -/
import Derived.Test.YtngfcnbcljcdfaaU3
import Derived.Deep.WholeRow
namespace Go.Proofs.Ytngfcnbcljcdfaa
open Go.RowKit
set_option linter.unusedVariables false

/-- A bit of a mask set. -/
def setb (m i : Nat) (v : Bool) : Nat := if v then m ||| 2 ^ i else sub m (2 ^ i)
theorem setb_bit (m i j : Nat) (v : Bool) : (setb m i v).testBit j = if j = i then v else m.testBit j := by
  unfold setb
  cases v
  · simp only [Bool.false_eq_true, if_false]
    rw [bit_sub, bit_pow]
    by_cases h : j = i
    · subst h; simp
    · rw [if_neg h, decide_eq_false (fun e => h e.symm)]; simp
  · simp only [if_true]
    rw [bit_or, bit_pow]
    by_cases h : j = i
    · subst h; simp
    · rw [if_neg h, decide_eq_false (fun e => h e.symm)]; simp
theorem setb_lt {m i : Nat} (hm : m < 16) (hi : i < 4) (v : Bool) : setb m i v < 16 := by
  unfold setb
  split
  · exact lor hm (pow16 hi)
  · exact lsub hm (pow16 hi)
theorem eq16 {x y : Nat} (hx : x < 16) (hy : y < 16) (h : ∀ j, j < 4 → x.testBit j = y.testBit j) : x = y := by
  rw [← mk4_bits x hx, ← mk4_bits y hy, h 0 (by decide), h 1 (by decide), h 2 (by decide), h 3 (by decide)]

theorem rfA_set {T T' : Nat → Nat} {k : Nat} {v : Bool} (h : ∀ j, j < 192 → rb T' j = if j = k then v else rb T j) : (rfA T).setIfInBounds k (.bool v) = rfA T' := by
  apply Array.ext_getElem?
  intro j
  rw [Array.getElem?_setIfInBounds]
  by_cases hj : j < 192
  · rw [rfA_get T' j hj, h j hj, rfA_size]
    by_cases e : k = j
    · subst e; rw [if_pos rfl, if_pos hj, if_pos rfl]
    · rw [if_neg e, if_neg (fun x => e x.symm), rfA_get T j hj]
  · have h1 : (rfA T)[j]? = none := Array.getElem?_eq_none (by rw [rfA_size]; omega)
    have h2 : (rfA T')[j]? = none := Array.getElem?_eq_none (by rw [rfA_size]; omega)
    rw [h1, h2, rfA_size]
    split <;> first | rfl | (rw [if_neg (by omega)])

theorem put_even {T : Nat → Nat} {c p v d q : Nat} (hp : p < 6) (hq : q < 6) : cp (put T (c * 12 + p * 2) v) d q = (if d = c ∧ q = p then v else cp T d q) ∧ ow (put T (c * 12 + p * 2) v) d q = ow T d q := by
  unfold cp ow put
  constructor
  · by_cases h : d = c ∧ q = p
    · obtain ⟨rfl, rfl⟩ := h; rw [if_pos rfl, if_pos ⟨rfl, rfl⟩]
    · rw [if_neg (by omega), if_neg h]
  · rw [if_neg (by omega)]
theorem put_odd {T : Nat → Nat} {c p v d q : Nat} (hp : p < 6) (hq : q < 6) : ow (put T (c * 12 + p * 2 + 1) v) d q = (if d = c ∧ q = p then v else ow T d q) ∧ cp (put T (c * 12 + p * 2 + 1) v) d q = cp T d q := by
  unfold cp ow put
  constructor
  · by_cases h : d = c ∧ q = p
    · obtain ⟨rfl, rfl⟩ := h; rw [if_pos rfl, if_pos ⟨rfl, rfl⟩]
    · rw [if_neg (by omega), if_neg h]
  · rw [if_neg (by omega)]

section
variable {w : World} {q : Nat} {T : Nat → Nat} {d p i : Nat}
theorem Rb.putc (h : Rb w q T) (hd : d < 4) (hp : p < 6) (hi : i < 4) (v : Bool) : Rb (w.setCell ⟨q, d * 24 + p * 4 + i, none⟩ (.bool v)) q (put T (d * 12 + p * 2) (setb (cp T d p) i v)) := by
  refine ⟨?_⟩
  rw [heap_setCell_same w q _ _ 37 _ h.blk, rfA_set]
  intro j hj
  by_cases h96 : j < 96
  · obtain ⟨d', p', i', h1, h2, h3, rfl⟩ : ∃ d' p' i', d' < 4 ∧ p' < 6 ∧ i' < 4 ∧ j = d' * 24 + p' * 4 + i' := ⟨j / 24, j % 24 / 4, j % 4, by omega, by omega, by omega, by omega⟩
    rw [rb_cp h1 h2 h3, rb_cp h1 h2 h3, (put_even hp h2).1]
    by_cases e : d' = d ∧ p' = p
    · obtain ⟨rfl, rfl⟩ := e
      rw [if_pos ⟨rfl, rfl⟩, setb_bit]
      by_cases e2 : i' = i
      · subst e2; rw [if_pos rfl, if_pos rfl]
      · rw [if_neg e2, if_neg (by omega)]
    · rw [if_neg e, if_neg (by omega)]
  · obtain ⟨d', p', i', h1, h2, h3, rfl⟩ : ∃ d' p' i', d' < 4 ∧ p' < 6 ∧ i' < 4 ∧ j = 96 + d' * 24 + p' * 4 + i' := ⟨(j - 96) / 24, (j - 96) % 24 / 4, (j - 96) % 4, by omega, by omega, by omega, by omega⟩
    rw [rb_ow h1 h2 h3, rb_ow h1 h2 h3, (put_even hp h2).2, if_neg (by omega)]
theorem Rb.puto (h : Rb w q T) (hd : d < 4) (hp : p < 6) (hi : i < 4) (v : Bool) : Rb (w.setCell ⟨q, 96 + d * 24 + p * 4 + i, none⟩ (.bool v)) q (put T (d * 12 + p * 2 + 1) (setb (ow T d p) i v)) := by
  refine ⟨?_⟩
  rw [heap_setCell_same w q _ _ 37 _ h.blk, rfA_set]
  intro j hj
  by_cases h96 : j < 96
  · obtain ⟨d', p', i', h1, h2, h3, rfl⟩ : ∃ d' p' i', d' < 4 ∧ p' < 6 ∧ i' < 4 ∧ j = d' * 24 + p' * 4 + i' := ⟨j / 24, j % 24 / 4, j % 4, by omega, by omega, by omega, by omega⟩
    rw [rb_cp h1 h2 h3, rb_cp h1 h2 h3, (put_odd hp h2).2, if_neg (by omega)]
  · obtain ⟨d', p', i', h1, h2, h3, rfl⟩ : ∃ d' p' i', d' < 4 ∧ p' < 6 ∧ i' < 4 ∧ j = 96 + d' * 24 + p' * 4 + i' := ⟨(j - 96) / 24, (j - 96) % 24 / 4, (j - 96) % 4, by omega, by omega, by omega, by omega⟩
    rw [rb_ow h1 h2 h3, rb_ow h1 h2 h3, (put_odd hp h2).1]
    by_cases e : d' = d ∧ p' = p
    · obtain ⟨rfl, rfl⟩ := e
      rw [if_pos ⟨rfl, rfl⟩, setb_bit]
      by_cases e2 : i' = i
      · subst e2; rw [if_pos rfl, if_pos rfl]
      · rw [if_neg e2, if_neg (by omega)]
    · rw [if_neg e, if_neg (by omega)]
end

/-- The whole table is stored: a step of a plain region. -/
theorem wpList_store37 {ops : Array Oper} {rest : List Oper} {op : Oper} {a : Act} {w : World} {Q : Exit → Act → World → Prop} (hgd : op.guard = none) (x y : Operand) (ho : op.op = .store 37 x y) (q : Nat) (T T0 : Nat → Nat) (hx : a.eval x = .pointer (some ⟨q, 0, none⟩)) (hy : a.eval y = .agg (rfA T)) (hR : Rb w q T0)
    (h : ∀ w', Rb w' q T → Off q w w' → wpList Try.prog ops Q rest (a.put op.dst undef) w') : wpList Try.prog ops Q (op :: rest) a w := by
  refine wpList_plain hgd fun _ hK => ?_
  have hr := run_storeVar_row (P := Try.prog) w q 37 37 (rfA T0) (rfA T) hR.blk (by rw [size37, rfA_size]) (by rw [rfA_size, rfA_size]) (rfA_one T)
  unfold Oper.wp execOp
  simp only [ho, hx, hy, Instr.storeAt, Instr.sureAddr, Sem.run_bind, Sem.run_pure, Result.andThen_ok, hr]
  refine hK _ _ (h _ ⟨setRow_heap w q (rfA T0) _ 37 _ hR.blk⟩ ⟨rfl, rfl, rfl, by simp [World.setRow], fun k hk hne => ?_⟩)
  simp only [World.setRow]
  rw [Array.getElem?_modify, if_neg (fun e => hne e.symm)]

theorem loadV37 {w : World} {q : Nat} {T : Nat → Nat} (h : Rb w q T) : (loadVar 37 ⟨q, 0, none⟩).run Try.prog w = .ok (.agg (rfA T)) w := by
  have := load37 h
  simpa only [Instr.loadAt, Instr.sureAddr, Sem.run_bind, Sem.run_pure, Result.andThen_ok] using this

theorem zero37 : ∀ w, (zeroValue 37).run Try.prog w = .ok (.agg (rfA fun _ => 0)) w := (zero_of_info (P := Try.prog) (t := 37) (v := .agg (rfA fun _ => 0)) (n := 192) (by kernel_rfl)).1

end Go.Proofs.Ytngfcnbcljcdfaa
