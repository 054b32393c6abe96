/- What an append leaves, as a guarded step of a region that draws its order. -/
import Derived.Test.YtgdlejeopdipiaaSl
namespace Go.Proofs.Ytgdlejeopdipiaa
open Go.RowKit

/-- The same where the step is guarded. -/
theorem step_append_rdG {P : Program} (w : World) {ops : Array Oper} {o : Oper} {a : Act} {K : Act → World → Prop} {Q : Exit → Act → World → Prop} {E : Prop} (hw : Region.wanted o (yielded ops a.tmps) = true) (s x : Operand) (t : TypeId)
    (ho : o.op = .call { callee := .builtin .append, args := #[s, x], argTypes := #[t, t] })
    (base : Nat) (e : TypeId) (k : IntKind) (z : Value) (bytes : Nat) (ht : P.underlying t = some (.slice e))
    (hinfo : (P.info? e).map (fun i => (i.zero, i.size, i.bytes)) = some (some z, 1, bytes)) (hzs : z.cells.size = 1)
    {ao : Option Addr} {cap n : Nat} {xs : List Int} {ao' : Option Addr} {cap' m : Nat} {ys : List Int}
    (hs : a.eval s = .slice ao n cap) (hx : a.eval x = .slice ao' m cap') (hown : OwnI w base e k ao cap xs) (hrd : RdI w k ao' cap' ys) (hn : xs.length = n) (hm : ys.length = m)
    (hbytes : (n + m) * bytes ≤ 140737488355328) (h63 : n + m ≤ maxLen) (hbase : base ≤ w.heap.size)
    (h : ∀ ao2 cap2 w', OwnI w' base e k ao2 cap2 (xs ++ ys) → Below base w w' → K (a.put o.dst (.slice ao2 (n + m) cap2)) w') :
    if Region.wanted o (yielded ops a.tmps) = true then Oper.wp P o a w K Q else E := by
  rw [if_pos hw]
  subst hn hm
  obtain ⟨ao2, cap2, w', hr, h2, h3⟩ := run_append_rd (P := P) base t o.type e z bytes ht hinfo hzs hown hrd (ints_one _ _) (by simpa using hbytes) (by simpa using h63) hbase
  simp only [List.length_map] at hr
  unfold Oper.wp execOp
  simp only [ho, resolve, invoke, builtin, Sem.run_bind, Sem.run_pure, Result.andThen_ok, List.map_toArray, List.map_cons, List.map_nil, hs, hx, hr]
  exact h ao2 cap2 w' (by unfold OwnI; rw [List.map_append]; exact h2) h3

/-- An empty slice that was just built behind another thing. -/
theorem OwnI.fresh2 (w : World) (o : Obj) (base : Nat) (e : TypeId) (k : IntKind) (hb : base ≤ w.heap.size + 1) : OwnI ((w.alloc o).alloc (.cells #[] e)) base e k (some ⟨w.heap.size + 1, 0, none⟩) 0 [] := by
  have h := OwnI.fresh (w.alloc o) base e k (by simpa using hb)
  rwa [show (w.alloc o).heap.size = w.heap.size + 1 by simp] at h

end Go.Proofs.Ytgdlejeopdipiaa
