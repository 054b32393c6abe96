/- Sixteen marks: as a value and in a block; one of them written, and the whole. No walk of the program. -/
import Derived.Test.YteofipheoipeoaaDoorW6
import Derived.Deep.MidRow
import Derived.Deep.WholeRow
namespace Go.Proofs.YteofipheoipeoaaDoor
open Go.RowKit
set_option linter.unusedVariables false

def mL (M : Nat → Nat → Bool) : List Value := (List.range 16).map fun j => .bool (M (j / 4) (j % 4))
def mA (M : Nat → Nat → Bool) : Array Value := (mL M).toArray
theorem mA_size (M : Nat → Nat → Bool) : (mA M).size = 16 := by simp [mA, mL]
theorem mA_get (M : Nat → Nat → Bool) (j : Nat) (h : j < 16) : (mA M)[j]? = some (.bool (M (j / 4) (j % 4))) := by simp [mA, mL, h]
theorem mA_one (M : Nat → Nat → Bool) : (mA M).all (·.oneCell') = true := by
  rw [Array.all_eq_true_iff_forall_mem]
  intro v hv
  simp only [mA, mL, List.mem_toArray, List.mem_map] at hv
  obtain ⟨k, _, rfl⟩ := hv
  rfl
theorem mA_congr {M M' : Nat → Nat → Bool} (h : ∀ i k, i < 4 → k < 4 → M i k = M' i k) : mA M = mA M' := by
  unfold mA mL
  congr 1
  apply List.map_congr_left
  intro j hj
  simp at hj
  rw [h _ _ (by omega) (by omega)]

def put2 (M : Nat → Nat → Bool) (i k : Nat) (v : Bool) : Nat → Nat → Bool := fun a b => if a = i ∧ b = k then v else M a b

structure Rm (w : World) (q : Nat) (M : Nat → Nat → Bool) : Prop where
  blk : w.heap[q]? = some (.cells (mA M) 45 (0, 0))

section
variable {w w' : World} {q : Nat} {M : Nat → Nat → Bool}
theorem Rm.new (w : World) (M : Nat → Nat → Bool) : Rm (w.alloc (.cells (mA M) 45)) w.heap.size M := ⟨heap_alloc_new w _⟩
theorem Rm.lt (h : Rm w q M) : q < w.heap.size := (Array.getElem?_eq_some_iff.1 h.blk).1
theorem Rm.keep (h : Rm w q M) (hq : w'.heap[q]? = w.heap[q]?) : Rm w' q M := ⟨hq.trans h.blk⟩
theorem Rm.below (h : Rm w q M) (hb : Below w.heap.size w w') : Rm w' q M := h.keep (hb.block q h.lt)
theorem Rm.cell (h : Rm w q M) {i k : Nat} (hi : i < 4) (hk : k < 4) : w.cell? ⟨q, i * 4 + k, none⟩ = some (.bool (M i k)) := by
  rw [cell_of_row _ _ _ _ _ _ h.blk, mA_get M _ (by omega)]
  rw [show (i * 4 + k) / 4 = i by omega, show (i * 4 + k) % 4 = k by omega]
theorem Rm.fz (h : Rm w q M) (j : Nat) : w.frozen? ⟨q, j, none⟩ = false := frozen_of_row _ _ _ _ _ h.blk
theorem Rm.put (h : Rm w q M) {i k : Nat} (hi : i < 4) (hk : k < 4) (v : Bool) : Rm (w.setCell ⟨q, i * 4 + k, none⟩ (.bool v)) q (put2 M i k v) := by
  refine ⟨?_⟩
  rw [heap_setCell_same w q _ _ 45 _ h.blk]
  congr 2
  apply Array.ext_getElem?
  intro j
  rw [Array.getElem?_setIfInBounds]
  by_cases hj : j < 16
  · rw [mA_get (put2 M i k v) j hj, mA_size]
    by_cases e : i * 4 + k = j
    · subst e
      rw [if_pos rfl, if_pos hj]
      unfold put2
      rw [if_pos ⟨by omega, by omega⟩]
    · rw [if_neg e, mA_get M j hj]
      unfold put2
      rw [if_neg (by omega)]
  · have h1 : (mA M)[j]? = none := Array.getElem?_eq_none (by rw [mA_size]; omega)
    have h2 : (mA (put2 M i k v))[j]? = none := Array.getElem?_eq_none (by rw [mA_size]; omega)
    rw [h1, h2, mA_size]
    split <;> first | rfl | (rw [if_neg (by omega)])
end

theorem size45 : (Tryd.prog.info? 45).map (·.size) = some 16 := by kernel_rfl
theorem row45 : (Tryd.prog.underlying 45).map TypeDesc.isRow = some true := by kernel_rfl

theorem load45 {w : World} {q : Nat} {M : Nat → Nat → Bool} (h : Rm w q M) : (Instr.loadAt 45 (.pointer (some ⟨q, 0, none⟩))).run Tryd.prog w = .ok (.agg (mA M)) w := by
  have hr : w.rangeAt q 0 (mL M) := fun j v hv => by
    rw [Nat.zero_add, cell_of_row _ _ _ _ _ _ h.blk]
    simpa [mA] using hv
  cases hu : Tryd.prog.underlying 45 with
  | none => have := row45; rw [hu] at this; simp at this
  | some d =>
    have hd : d.isRow = true := by have := row45; rw [hu] at this; simpa using this
    exact run_loadAt_mid w q 0 45 (mL M) d hr hu hd (by rw [size45]; simp [mL])

theorem wpList_load45 {ops : Array Oper} {rest : List Oper} {op : Oper} {a : Act} {w : World} {Q : Exit → Act → World → Prop} (hgd : op.guard = none) (x : Operand) (ho : op.op = .load 45 x) (q : Nat) (M : Nat → Nat → Bool) (hx : a.eval x = .pointer (some ⟨q, 0, none⟩)) (hR : Rm w q M)
    (h : wpList Tryd.prog ops Q rest (a.put op.dst (.agg (mA M))) w) : wpList Tryd.prog ops Q (op :: rest) a w := by
  refine wpList_plain hgd fun _ hK => ?_
  unfold Oper.wp execOp
  simp only [ho, hx, Sem.run_bind, Sem.run_pure, Result.andThen_ok, load45 hR]
  exact hK _ _ h

/-- All blocks but g are as they were. -/
structure Off (g : Nat) (w w' : World) : Prop where
  os : w'.os = w.os
  tape : w'.tape = w.tape
  output : w'.output = w.output
  size : w.heap.size ≤ w'.heap.size
  block : ∀ k, k < w.heap.size → k ≠ g → w'.heap[k]? = w.heap[k]?
theorem Off.below {g B : Nat} {a b : World} (h : Off g a b) (hB : B ≤ g) (hs : B ≤ a.heap.size) : Below B a b := ⟨h.os, h.tape, h.output, h.size, fun k hk => h.block k (by omega) (by omega)⟩

theorem wpList_store45 {ops : Array Oper} {rest : List Oper} {op : Oper} {a : Act} {w : World} {Q : Exit → Act → World → Prop} (hgd : op.guard = none) (x y : Operand) (ho : op.op = .store 45 x y) (q : Nat) (M M0 : Nat → Nat → Bool) (hx : a.eval x = .pointer (some ⟨q, 0, none⟩)) (hy : a.eval y = .agg (mA M)) (hR : Rm w q M0)
    (h : ∀ w', Rm w' q M → Off q w w' → wpList Tryd.prog ops Q rest (a.put op.dst undef) w') : wpList Tryd.prog ops Q (op :: rest) a w := by
  refine wpList_plain hgd fun _ hK => ?_
  have hr := run_storeVar_row (P := Tryd.prog) w q 45 45 (mA M0) (mA M) hR.blk (by rw [size45, mA_size]) (by rw [mA_size, mA_size]) (mA_one M)
  unfold Oper.wp execOp
  simp only [ho, hx, hy, Instr.storeAt, Instr.sureAddr, Sem.run_bind, Sem.run_pure, Result.andThen_ok, hr]
  refine hK _ _ (h _ ⟨setRow_heap w q (mA M0) _ 45 _ hR.blk⟩ ⟨rfl, rfl, rfl, by simp [World.setRow], fun k hk hne => ?_⟩)
  simp only [World.setRow]
  rw [Array.getElem?_modify, if_neg (fun e => hne e.symm)]

theorem loadV45 {w : World} {q : Nat} {M : Nat → Nat → Bool} (h : Rm w q M) : (loadVar 45 ⟨q, 0, none⟩).run Tryd.prog w = .ok (.agg (mA M)) w := by
  have := load45 h
  simpa only [Instr.loadAt, Instr.sureAddr, Sem.run_bind, Sem.run_pure, Result.andThen_ok] using this

theorem zero45 : ∀ w, (zeroValue 45).run Tryd.prog w = .ok (.agg (mA fun _ _ => false)) w := (zero_of_info (P := Tryd.prog) (t := 45) (v := .agg (mA fun _ _ => false)) (n := 16) (by kernel_rfl)).1

theorem results_cell {fn : Func} {tmps : Array Value} {w : World} {a : Nat} {t : TypeId} {ad : Addr} {v : Value} (hf : fn.results = #[.cell a t]) (hx : tmps.getD a undef = .pointer (some ad)) (hl : (loadVar t ad).run Tryd.prog w = .ok v w) : (results fn tmps).run Tryd.prog w = .ok v w := by
  have hx' : tmps[a]?.getD undef = .pointer (some ad) := by simpa using hx
  unfold results
  rw [hf]
  simp [hx', asAddr, hl]

end Go.Proofs.YteofipheoipeoaaDoor
