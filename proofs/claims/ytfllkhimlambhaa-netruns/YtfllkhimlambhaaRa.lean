/- Rows of things of a fixed number of cells: a part, a cell that is written, an append that fits. Of no program. -/
import Derived.Test.YtfllkhimlambhaaRh
import Derived.Lib.SliceRun
namespace Go.Proofs.Ytfllkhimlambhaa
open Go.RowKit
set_option linter.unusedVariables false

section
variable {α : Type} {en : α → List Value} {s : Nat} {e : TypeId}

theorem OwR.sub (E : Enc en s) {w : World} {ao : Option Addr} {cap : Nat} {L : List α} (h : OwR en s e w ao cap L) (k : Nat) : OwR en s e w ao cap (L.take k) := by
  rcases h with ⟨rfl, rfl, rfl⟩ | ⟨g, cur, rfl, hh, hle, hmx, hsz, htk⟩
  · simp only [List.take_nil]
    exact OwR.nil e w
  · refine .inr ⟨g, cur, rfl, hh, by rw [List.length_take]; omega, hmx, hsz, ?_⟩
    rw [cs_take E, ← htk, List.take_take, List.length_take]
    congr 1
    by_cases h : k ≤ L.length
    · rw [Nat.min_eq_left h, Nat.min_eq_left (Nat.mul_le_mul_right s h)]
    · rw [Nat.min_eq_right (by omega), Nat.min_eq_right (Nat.mul_le_mul_right s (by omega))]

theorem cs_set (E : Enc en s) (j : Nat) (hj : j < s) (u : Value) (y : α) : ∀ (L : List α) (t : Nat) (ht : t < L.length), en y = (en L[t]).set j u → (cs en L).set (t * s + j) u = cs en (L.set t y)
  | x :: L, 0, _, h => by
    simp only [List.getElem_cons_zero] at h
    rw [List.set_cons_zero, cs_cons, cs_cons, h, Nat.zero_mul, Nat.zero_add, List.set_append_left _ _ (by rw [E.len]; exact hj)]
  | x :: L, t + 1, ht, h => by
    simp only [List.getElem_cons_succ] at h
    have e : (t + 1) * s + j - s = t * s + j := by rw [Nat.add_mul]; omega
    rw [List.set_cons_succ, cs_cons, cs_cons, List.set_append_right _ _ (by rw [E.len, Nat.add_mul]; omega), E.len, e, cs_set E j hj u y L t (by simpa using ht) h]

/-- One cell of the t-th is written. -/
theorem OwR.put (E : Enc en s) {w : World} {g : Nat} {cap : Nat} {L : List α} (h : OwR en s e w (some ⟨g, 0, none⟩) cap L) (t : Nat) (ht : t < L.length) (j : Nat) (hj : j < s) (u : Value) (y : α) (hy : en y = (en L[t]).set j u) :
    OwR en s e (w.setCell ⟨g, t * s + j, none⟩ u) (some ⟨g, 0, none⟩) cap (L.set t y) := by
  rcases h with ⟨h, _⟩ | ⟨g', cur, h, hh, hle, hmx, hsz, htk⟩
  · cases h
  · cases h
    refine .inr ⟨g, cur.setIfInBounds (t * s + j) u, rfl, heap_setCell_same w g _ cur e u hh, by simpa using hle, hmx, by simpa using hsz, ?_⟩
    rw [Array.toList_setIfInBounds, List.length_set, List.take_set, htk, cs_set E j hj u y L t ht hy]

/-- A cell behind them all is written. -/
theorem OwR.away {w : World} {g : Nat} {cap : Nat} {L : List α} (h : OwR en s e w (some ⟨g, 0, none⟩) cap L) (o : Nat) (ho : L.length * s ≤ o) (u : Value) : OwR en s e (w.setCell ⟨g, o, none⟩ u) (some ⟨g, 0, none⟩) cap L := by
  rcases h with ⟨h, _⟩ | ⟨g', cur, h, hh, hle, hmx, hsz, htk⟩
  · cases h
  · cases h
    refine .inr ⟨g, cur.setIfInBounds o u, rfl, heap_setCell_same w g _ cur e u hh, hle, hmx, by simpa using hsz, ?_⟩
    rw [Array.toList_setIfInBounds, List.take_set, List.set_eq_of_length_le (by rw [List.length_take]; omega), htk]

theorem grown_refl (w : World) (r : Option Nat) : w.grownBy w r := ⟨rfl, rfl, rfl, Nat.le_refl _, fun _ _ _ => rfl⟩
theorem grown_trans {a b c : World} {r : Option Nat} (h : a.grownBy b r) (k : b.grownBy c r) : a.grownBy c r :=
  ⟨k.os.trans h.os, k.tape.trans h.tape, k.output.trans h.output, Nat.le_trans h.size k.size, fun j hj hne => (k.block j (Nat.lt_of_lt_of_le hj h.size) hne).trans (h.block j hj hne)⟩
theorem grown_setCell (w : World) (g o : Nat) (u : Value) : w.grownBy (w.setCell ⟨g, o, none⟩ u) (some g) :=
  ⟨rfl, rfl, rfl, by simp, fun k hk hne => Below.heap_setCell _ _ _ _ (by intro e; exact hne (by rw [e]))⟩

theorem OwR.aways {g : Nat} {cap : Nat} {L : List α} : ∀ (us : List Value) (o : Nat) (w : World), OwR en s e w (some ⟨g, 0, none⟩) cap L → L.length * s ≤ o → OwR en s e (w.setCells g o us) (some ⟨g, 0, none⟩) cap L ∧ w.grownBy (w.setCells g o us) (some g)
  | [], _, w, h, _ => ⟨h, grown_refl w _⟩
  | u :: us, o, w, h, ho => by
    obtain ⟨k1, k2⟩ := OwR.aways us (o + 1) (w.setCell ⟨g, o, none⟩ u) (h.away o ho u) (by omega)
    exact ⟨k1, grown_trans (grown_setCell w g o u) k2⟩

/-- An append that fits. -/
theorem run_append_fitR (E : Enc en s) {P : Program} {w : World} (t ty : TypeId) (z : Value) (bytes : Nat) (ht : P.underlying t = some (.slice e)) (hinfo : (P.info? e).map (fun i => (i.zero, i.size, i.bytes)) = some (some z, s, bytes))
    {g cap : Nat} {K : List α} (ho : OwR en s e w (some ⟨g, 0, none⟩) cap K) {a : Addr} {cap' : Nat} {M : List α} (hr : RdR en w (some a) cap' M) (hroom : K.length + M.length ≤ cap) :
    ∃ w', (Builtin.append_ #[t, t] ty #[.slice (some ⟨g, 0, none⟩) K.length cap, .slice (some a) M.length cap']).run P w = .ok (.slice (some ⟨g, 0, none⟩) (K.length + M.length) cap) w' ∧ OwR en s e w' (some ⟨g, 0, none⟩) cap (K ++ M) ∧ w.grownBy w' (some g) := by
  obtain ⟨i, hi, hz, hsz, hby⟩ := info_parts hinfo
  subst hsz hby
  have hlen : (cs en K ++ cs en M).length = (K.length + M.length) * i.size := by rw [List.length_append, cs_length E, cs_length E, Nat.add_mul]
  have hnews : ∀ j u, (cs en M)[j]? = some u → w.cell? (a.add j) = some u := by
    intro j u hj
    by_cases hM : M = []
    · subst hM; simp [cs] at hj
    · obtain ⟨b, off, e1, _, hc⟩ := hr.cell hM
      cases e1
      rw [Addr.add_lit]
      exact hc j u hj
  rcases ho with ⟨h, _⟩ | ⟨g', cur, h, hh, hle, hmx, hsz, htk⟩
  · cases h
  · cases h
    have hfit : K.length * i.size + (cs en M).length ≤ cur.size := by rw [cs_length E, ← Nat.add_mul]; exact Nat.le_trans (Nat.mul_le_mul_right _ hroom) hsz
    have hrun := run_append_room (P := P) w t ty e i ht hi g K.length cap cur hh a M.length cap' (cs en M) (cs_length E M) hnews (cs_one E M) hroom hfit
    refine ⟨_, hrun, .inr ⟨g, _, rfl, setRow_heap w g cur _ e _ hh, by simpa using hroom, hmx, ?_, ?_⟩, ⟨rfl, rfl, rfl, by simp, fun k _ hk => setRow_other w g k _ (fun e => hk (by simp [e]))⟩⟩
    · simp only [List.size_toArray, List.length_append, List.length_take, List.length_drop, Array.length_toList]
      omega
    · rw [htk, cs_append, List.length_append, ← hlen]
      exact List.take_left

theorem step_append_fitR (E : Enc en s) {P : Program} (w : World) {ops : Array Oper} {o : Oper} {a : Act} {K : Act → World → Prop} {Q : Exit → Act → World → Prop} {X : Prop} (hgd : o.guard = none) (so x : Operand) (t : TypeId)
    (hop : o.op = .call { callee := .builtin .append, args := #[so, x], argTypes := #[t, t] }) (z : Value) (bytes : Nat) (ht : P.underlying t = some (.slice e)) (hinfo : (P.info? e).map (fun i => (i.zero, i.size, i.bytes)) = some (some z, s, bytes))
    {g cap n : Nat} {N : List α} {a' : Addr} {cap' m : Nat} {M : List α} (hs : a.eval so = .slice (some ⟨g, 0, none⟩) n cap) (hx : a.eval x = .slice (some a') m cap') (ho : OwR en s e w (some ⟨g, 0, none⟩) cap N) (hr : RdR en w (some a') cap' M) (hn : N.length = n) (hm : M.length = m) (q : Nat) (hq : n + m = q) (hroom : q ≤ cap)
    (h : ∀ w', OwR en s e w' (some ⟨g, 0, none⟩) cap (N ++ M) → w.grownBy w' (some g) → K (a.put o.dst (.slice (some ⟨g, 0, none⟩) q cap)) w') :
    if Region.wanted o (yielded ops a.tmps) = true then Oper.wp P o a w K Q else X := by
  have hw : Region.wanted o (yielded ops a.tmps) = true := by simp [Region.wanted, hgd]
  rw [if_pos hw]
  subst hn hm hq
  obtain ⟨w', hrun, h2, h3⟩ := run_append_fitR E (P := P) t o.type z bytes ht hinfo ho hr hroom
  unfold Oper.wp execOp
  simp only [hop, resolve, invoke, builtin, Sem.run_bind, Sem.run_pure, Result.andThen_ok, List.map_toArray, List.map_cons, List.map_nil, hs, hx, hrun]
  exact h w' h2 h3
end

end Go.Proofs.Ytfllkhimlambhaa
