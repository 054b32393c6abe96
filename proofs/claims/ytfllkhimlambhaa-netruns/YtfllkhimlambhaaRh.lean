/- Regions that draw their order: an append to a row, and a last operation without a result. Of no program. -/
import Derived.Test.YtfllkhimlambhaaRg
namespace Go.Proofs.Ytfllkhimlambhaa
open Go.RowKit
set_option linter.unusedVariables false

section
variable {α : Type} {en : α → List Value} {s : Nat} {P : Program} {ops : Array Oper} {Q : Exit → Act → World → Prop} {md : Region.Mode}

theorem till_append_R (E : Enc en s) {F : World → Prop} {z : Nat} {i : Nat} {oi : Oper} (d : Nat) (so x : Operand) (t : TypeId) {fuel : Nat} {l : Array Bool} {a : Act} {w : World} (hi : ops[i]? = some oi) (hd : oi.dst = some d) (hrd : Region.ready md ops l = [i])
    (hw : Region.wanted oi (yielded ops a.tmps) = true) (hop : oi.op = .call { callee := .builtin .append, args := #[so, x], argTypes := #[t, t] })
    (e : TypeId) (zv : Value) (bytes : Nat) (ht : P.underlying t = some (.slice e)) (hinfo : (P.info? e).map (fun i => (i.zero, i.size, i.bytes)) = some (some zv, s, bytes)) (hzs : zv.cells.size = s)
    {ao : Option Addr} {cap n : Nat} {L : List α} {ao' : Option Addr} {cap' m : Nat} {M : List α} (hs : a.eval so = .slice ao n cap) (hx : a.eval x = .slice ao' m cap') (ho : OwR en s e w ao cap L) (hr : RdR en w ao' cap' M) (hn : L.length = n) (hm : M.length = m)
    (hbytes : (n + m) * bytes ≤ 140737488355328) (h63 : n + m ≤ maxLen)
    (h : ∀ ao2 cap2 w', OwR en s e w' ao2 cap2 (L ++ M) → w.grownBy w' (ao.map (·.block)) → (ao2 = ao ∨ ao2 = some ⟨w.heap.size, 0, none⟩) → F w' ∧ Till P md ops Q F z fuel (l.setIfInBounds i true) (a.put (some d) (.slice ao2 (n + m) cap2)) w') : Till P md ops Q F z (fuel + 1) l a w := by
  obtain ⟨ao2, cap2, w', hr2, h2, h3, h4⟩ := exec_append_R E (P := P) (w := w) (o := oi) (a := a) so x t hop e zv bytes ht hinfo hzs hs hx ho hr hn hm hbytes h63
  obtain ⟨h5, h6⟩ := h ao2 cap2 w' h2 h3 h4
  exact Till.run d _ w' hi hd hrd hw hr2 h5 h6

theorem held_last {S : World → Prop} {i : Nat} {oi : Oper} {fuel : Nat} {l : Array Bool} {a : Act} {w : World} (w1 : World) (hi : ops[i]? = some oi) (hr : Region.ready md ops l = [i])
    (hw : Region.wanted oi (yielded ops a.tmps) = true) (hrun : Oper.wp P oi a w (fun a' w' => a' = a ∧ w' = w1) Q) (hS : S w1)
    (h : wpAnyH P md ops Q S fuel (l.setIfInBounds i true) a w1) : wpAnyH P md ops Q S (fuel + 1) l a w := by
  refine wpAnyH_all hr (by simp) fun j hj => ?_
  have : j = i := by simpa using hj
  subst this
  refine wpOp_mono (K := fun a' w' => a' = a ∧ w' = w1) ?_ ?_
  · rintro a' w' ⟨rfl, rfl⟩
    exact ⟨hS, h⟩
  · unfold Go.wpOp
    simp only [hi, hw, if_true]
    exact .inl hrun
end

end Go.Proofs.Ytfllkhimlambhaa
