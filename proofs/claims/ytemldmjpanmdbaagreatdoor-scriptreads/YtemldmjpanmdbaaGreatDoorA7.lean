/- The script of some bytes: what Read answers. A slice of bytes cut off ahead, as one law; the cells of a script behind a store of its steps. No walk. -/
import Derived.Test.YtemldmjpanmdbaaGreatDoorA6
namespace Go.Proofs.YtemldmjpanmdbaaGreatDoor
open Go.RowKit
set_option linter.unusedVariables false

theorem get_six (ao : Option Addr) (cap n m : Nat) (zs : List Int) (n0 n1 n2 n3 n4 n5 : Int) (w : World) (hrd : RdI w .u8 ao cap zs) (hn : zs.length = n) (hb : ∀ z ∈ zs, 0 ≤ z ∧ z < 256) (h18 : 18 ≤ n) (hm : n - 18 = m) (hlen : n ≤ 140737488355328)
    (he : getN zs 6 = [n0, n1, n2, n3, n4, n5]) :
    Calls Tryz.prog 16 #[.slice ao n cap, .int .i64 6] w fun e w' => ∃ b1 f1 c1 a2 c2, e = .returned (.tuple #[.slice (some ⟨b1, f1, none⟩) 6 c1, .slice a2 m c2, .int .i64 0]) ∧ b1 < w'.heap.size ∧ w.heap.size ≤ b1 ∧ 6 ≤ c1 ∧
      (w'.cell? ⟨b1, f1, none⟩ = some (.int .i64 n0) ∧ w'.cell? ⟨b1, f1 + 1, none⟩ = some (.int .i64 n1) ∧ w'.cell? ⟨b1, f1 + 2, none⟩ = some (.int .i64 n2) ∧ w'.cell? ⟨b1, f1 + 3, none⟩ = some (.int .i64 n3) ∧ w'.cell? ⟨b1, f1 + 4, none⟩ = some (.int .i64 n4) ∧
        w'.cell? ⟨b1, f1 + 5, none⟩ = some (.int .i64 n5)) ∧ Below w.heap.size w w' := by
  subst hm
  refine (get_good ao cap n 6 zs w hrd hn hb (by omega) (by omega) hlen).mono ?_
  rintro e w' ⟨a1, c1, a2, c2, rfl, h1, h2, h3⟩
  rw [he] at h1
  have hle := h1.rd.le
  have hbk := h1.blk
  obtain ⟨b, f, rfl, hlt, hc⟩ := h1.rd.at (t := 0) (by simp)
  exact ⟨b, f, c1, a2, c2, rfl, hlt, (hbk _ rfl).1, by simpa using hle, ⟨hc 0 (by simp), hc 1 (by simp), hc 2 (by simp), hc 3 (by simp), hc 4 (by simp), hc 5 (by simp)⟩, h3⟩

abbrev sc0 : Scr := ⟨0, 0, 0, 0, 0, []⟩
abbrev scZv : Value := scV sc0 none 0 0
theorem ScAt.fz {w : World} {g : Nat} {S : Scr} {ao : Option Addr} {n cap : Nat} (h : ScAt w g S ao n cap) (j : Nat) : w.frozen? ⟨g, j, none⟩ = false := frozen_of_row _ _ _ _ _ h
/-- How Read may end. -/
def ReadR (zs : List Int) (w : World) (x : Ending) (w' : World) : Prop :=
  (match readP zs with
    | none => x = .returned (.tuple #[scZv, .int .i64 231])
    | some S => ∃ ao cap, x = .returned (.tuple #[scV S ao S.ss.length cap, .int .i64 0]) ∧ RdR stC w' ao cap S.ss) ∧ Below w.heap.size w w'

end Go.Proofs.YtemldmjpanmdbaaGreatDoor

namespace Go.Proofs.YtemldmjpanmdbaaGreatDoor
open Go.RowKit
set_option linter.unusedVariables false

theorem run_tail (w : World) (ao : Option Addr) (n cap l : Nat) (hl : l ≤ n) (hc : n ≤ cap) :
    (Instr.slice 29 (.slice ao n cap) (some (.int .i64 (l : Int))) none none).run Tryz.prog w = .ok (.slice (if cap = l then ao else ao.map fun x => x.add l) (n - l) (cap - l)) w := by
  have hs : ∀ W : World, (sizeOf 5).run Tryz.prog W = .ok 1 W := fun W => by kernel_rfl
  simp [Instr.slice, run_underlying Tryz.underlying29, Instr.sliceBounds, run_sliceBound, hl, hs, Result.andThen]
theorem op_tail {o : Oper} {a : Act} {w w0 : World} {K : Act → World → Prop} {Q : Exit → Act → World → Prop} (x : Operand) (l : Nat) (ho : o.op = .slice 29 x (some (.const (.int .i64 (l : Int)))) none none)
    {ao : Option Addr} {n cap : Nat} {zs : List Int} (q : Nat) (hx : a.eval x = .slice ao n cap) (hn : zs.length = n) (hl : l ≤ n) (hq : n - l = q) (hr : RdI w0 .u8 ao cap zs)
    (h : ∀ A, RdI w0 .u8 A (cap - l) (zs.drop l) → K (a.put o.dst (.slice A q (cap - l))) w) : o.wp Tryz.prog a w K Q := by
  have hle := hr.le
  subst hq
  unfold Oper.wp execOp
  have h2 := run_tail w ao n cap l hl (by omega)
  have hv : a.eval (.const (.int .i64 (l : Int))) = .int .i64 (l : Int) := rfl
  simp only [ho, Option.map_some, Option.map_none, hx, hv, Sem.run_bind]
  rw [run_sliceAt_slice w 29 _ _ _ _ (show Tryz.prog.underlying 29 = some (.slice (Tryz.prog.elem 29)) by kernel_rfl), h2]
  exact h _ (hr.tail l (by omega))
theorem info50 : (Tryz.prog.info? 50).map (fun i => (i.zero, i.size, i.bytes)) = some (some sgZ, 10, 88) := by kernel_rfl
/-- How long a slice is. -/
def lenS : Value → Nat
  | .slice _ n _ => n
  | _ => 0
/-- A script's steps exchanged. -/
theorem ScAt.put {w : World} {g : Nat} {c f m p r : Int} {ss st : List Sg} {ao a2 : Option Addr} {n cap n2 cap2 : Nat} (h : ScAt w g ⟨c, f, m, p, r, ss⟩ ao n cap) : ScAt (w.setCell ⟨g, 5, none⟩ (.slice a2 n2 cap2)) g ⟨c, f, m, p, r, st⟩ a2 n2 cap2 :=
  heap_setCell_same w g 5 _ 28 (.slice a2 n2 cap2) h
theorem takeS_step {k m : Nat} {ys r : List Int} {ss : List Sg} (h : takeS st2 k ys = some (ss, r)) (hr : 43 ≤ r.length) {s : Sg} {t : List Int} (h2 : st2 (r.take 43) = some (s, t)) : takeS st2 (k + 1) ys = some (ss ++ [s], r.drop 43) := by
  simp only [takeS, h, st2_take hr, h2, Option.map_some]
theorem takeS_stop {k m : Nat} {ys r : List Int} {ss : List Sg} (h : takeS st2 k ys = some (ss, r)) (hr : 43 ≤ r.length) (h2 : st2 (r.take 43) = none) (hm : k < m) : takeS st2 m ys = none := by
  refine takeS_more (k := k + 1) ?_ m (by omega)
  simp only [takeS, h, st2_take hr, h2, Option.map_none]
theorem grown_below' {w w' : World} {ao : Option Addr} {B : Nat} (hg : w.grownBy w' (ao.map (·.block))) (hne : ∀ a, ao = some a → B ≤ a.block) (hB : B ≤ w.heap.size) : Below B w w' := by
  refine ⟨hg.os, hg.tape, hg.output, hg.size, fun k hk => hg.block k (by omega) ?_⟩
  cases ao with
  | none => simp
  | some a => have := hne a rfl; simp; omega
end Go.Proofs.YtemldmjpanmdbaaGreatDoor
