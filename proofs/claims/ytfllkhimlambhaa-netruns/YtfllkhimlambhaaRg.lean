/- Rows of things of a fixed number of cells: what a slice of them reads as, what of it stays, what an append leaves and where. Of no program. -/
import Derived.Test.YtfllkhimlambhaaSz
import Derived.Maps.AppendAt
import Derived.Laws.OwnMore
namespace Go.Proofs.Ytfllkhimlambhaa
open Go.RowKit
set_option linter.unusedVariables false

section
variable {α : Type} {en : α → List Value} {s : Nat}

/-- Each thing has s cells. -/
structure Enc (en : α → List Value) (s : Nat) : Prop where
  len : ∀ x, (en x).length = s
  one : ∀ x, ∀ u ∈ en x, u.oneCell' = true
  pos : 0 < s

def cs (en : α → List Value) (L : List α) : List Value := L.flatMap en

theorem cs_nil : cs en [] = [] := rfl
theorem cs_cons (x : α) (L : List α) : cs en (x :: L) = en x ++ cs en L := by simp [cs]
theorem cs_append (L M : List α) : cs en (L ++ M) = cs en L ++ cs en M := by simp [cs]
theorem cs_length (E : Enc en s) (L : List α) : (cs en L).length = L.length * s := by
  induction L with
  | nil => simp [cs]
  | cons x L ih => rw [cs_cons, List.length_append, ih, E.len, List.length_cons, Nat.add_mul]; omega
theorem cs_get (E : Enc en s) : ∀ (L : List α) (t : Nat) (h : t < L.length) (j : Nat), j < s → (cs en L)[t * s + j]? = (en L[t])[j]?
  | x :: L, 0, _, j, hj => by
    rw [cs_cons, List.getElem?_append_left (by rw [E.len]; omega)]
    simp
  | x :: L, t + 1, h, j, hj => by
    rw [cs_cons, List.getElem?_append_right (by rw [E.len, Nat.add_mul]; omega), E.len]
    have e : (t + 1) * s + j - s = t * s + j := by rw [Nat.add_mul]; omega
    rw [e, cs_get E L t (by simpa using h) j hj]
    simp
theorem cs_one (E : Enc en s) (L : List α) : ∀ u ∈ cs en L, u.oneCell' = true := by
  intro u hu
  obtain ⟨x, _, hx⟩ := List.mem_flatMap.1 hu
  exact E.one x u hx
theorem cs_take (E : Enc en s) : ∀ (L : List α) (k : Nat), cs en (L.take k) = (cs en L).take (k * s)
  | [], k => by simp [cs]
  | x :: L, 0 => by simp [cs]
  | x :: L, k + 1 => by
    have e : (k + 1) * s = (en x).length + k * s := by rw [E.len, Nat.add_mul]; omega
    rw [List.take_succ_cons, cs_cons, cs_cons, cs_take E L k, e, List.take_length_add_append]
theorem cs_drop (E : Enc en s) : ∀ (L : List α) (k : Nat), cs en (L.drop k) = (cs en L).drop (k * s)
  | [], k => by simp [cs]
  | x :: L, 0 => by simp
  | x :: L, k + 1 => by
    have e : (k + 1) * s = (en x).length + k * s := by rw [E.len, Nat.add_mul]; omega
    rw [List.drop_succ_cons, cs_cons, cs_drop E L k, e, List.drop_length_add_append]

/-- The slice reads as these. -/
structure RdR (en : α → List Value) (w : World) (ao : Option Addr) (cap : Nat) (L : List α) : Prop where
  le : L.length ≤ cap
  mx : cap ≤ maxLen
  nil : ao = none → cap = 0
  cell : L ≠ [] → ∃ b off, ao = some ⟨b, off, none⟩ ∧ b < w.heap.size ∧ ∀ j u, (cs en L)[j]? = some u → w.cell? ⟨b, off + j, none⟩ = some u

theorem RdR.empty (w : World) : RdR en w none 0 [] := ⟨by simp, by simp, fun _ => rfl, fun h => absurd rfl h⟩
theorem RdR.keep {w w' : World} {ao : Option Addr} {cap : Nat} {L : List α} (h : RdR en w ao cap L) (hs : w.heap.size ≤ w'.heap.size) (hb : ∀ a, ao = some a → a.block < w.heap.size → w'.heap[a.block]? = w.heap[a.block]?) : RdR en w' ao cap L := by
  refine ⟨h.le, h.mx, h.nil, fun hx => ?_⟩
  obtain ⟨b, off, e, hlt, hc⟩ := h.cell hx
  exact ⟨b, off, e, Nat.lt_of_lt_of_le hlt hs, fun j u hj => (World.cell?_of_block (w := w) (w' := w') (a := ⟨b, off + j, none⟩) (hb ⟨b, off, none⟩ e hlt)).trans (hc j u hj)⟩
theorem RdR.below {w w' : World} {ao : Option Addr} {cap : Nat} {L : List α} (h : RdR en w ao cap L) (hb : Below w.heap.size w w') : RdR en w' ao cap L := h.keep hb.size fun a _ hl => hb.block _ hl
theorem RdR.heap {w w' : World} {ao : Option Addr} {cap : Nat} {L : List α} (h : RdR en w ao cap L) (e : w'.heap = w.heap) : RdR en w' ao cap L := h.keep (by rw [e]; exact Nat.le_refl _) fun a _ _ => by rw [e]
theorem RdR.drew {w : World} {ao : Option Addr} {cap : Nat} {L : List α} (h : RdR en w ao cap L) : RdR en w.drew ao cap L := h.heap rfl
theorem RdR.alloc {w : World} {ao : Option Addr} {cap : Nat} {L : List α} (h : RdR en w ao cap L) (o : Obj) : RdR en (w.alloc o) ao cap L := h.below ((Below.refl _ _).alloc (Nat.le_refl _) o)
/-- The cells of its t-th. -/
theorem RdR.at (E : Enc en s) {w : World} {ao : Option Addr} {cap : Nat} {L : List α} (h : RdR en w ao cap L) {t : Nat} (ht : t < L.length) :
    ∃ b off, ao = some ⟨b, off, none⟩ ∧ b < w.heap.size ∧ ∀ j u, (en L[t])[j]? = some u → w.cell? ⟨b, off + t * s + j, none⟩ = some u := by
  obtain ⟨b, off, e, hlt, hc⟩ := h.cell (by intro e; subst e; simp at ht)
  refine ⟨b, off, e, hlt, fun j u hj => ?_⟩
  have hjs : j < s := by rw [← E.len L[t]]; exact (List.getElem?_eq_some_iff.1 hj).1
  have := hc (t * s + j) u ((cs_get E L t ht j hjs).trans hj)
  rw [← Nat.add_assoc] at this
  exact this
theorem RdR.cells (E : Enc en s) {w : World} {ao : Option Addr} {cap : Nat} {L : List α} (h : RdR en w ao cap L) (hL : L ≠ []) :
    ∃ b off, ao = some ⟨b, off, none⟩ ∧ b < w.heap.size ∧ ∀ t (ht : t < L.length), ∀ j u, (en L[t])[j]? = some u → w.cell? ⟨b, off + t * s + j, none⟩ = some u := by
  obtain ⟨b, off, e, hlt, hc⟩ := h.cell hL
  refine ⟨b, off, e, hlt, fun t ht j u hj => ?_⟩
  have hjs : j < s := by rw [← E.len L[t]]; exact (List.getElem?_eq_some_iff.1 hj).1
  have := hc (t * s + j) u ((cs_get E L t ht j hjs).trans hj)
  rw [← Nat.add_assoc] at this
  exact this
/-- Its beginning. -/
theorem RdR.head (E : Enc en s) {w : World} {ao : Option Addr} {cap : Nat} {L : List α} (h : RdR en w ao cap L) (k c : Nat) (hk : k ≤ L.length) (hc : k ≤ c) (hc2 : c ≤ maxLen) (hn : ao = none → c = 0) : RdR en w ao c (L.take k) := by
  refine ⟨by rw [List.length_take]; omega, hc2, hn, fun hx => ?_⟩
  have hL : L ≠ [] := by intro e; subst e; simp at hx
  obtain ⟨b, off, e, hlt, hcc⟩ := h.cell hL
  refine ⟨b, off, e, hlt, fun j u hj => hcc j u ?_⟩
  rw [cs_take E, List.getElem?_take] at hj
  split at hj
  · exact hj
  · cases hj
/-- What is left behind k of them. -/
theorem RdR.tail (E : Enc en s) {w : World} {b off : Nat} {cap : Nat} {L : List α} (h : RdR en w (some ⟨b, off, none⟩) cap L) (k : Nat) (hk : k ≤ L.length) (a2 : Addr) (ha : k < L.length → a2 = ⟨b, off + k * s, none⟩) : RdR en w (some a2) (cap - k) (L.drop k) := by
  have := h.le
  have := h.mx
  refine ⟨by rw [List.length_drop]; omega, by omega, fun h => (by cases h), fun hx => ?_⟩
  have hL : L ≠ [] := by intro e; subst e; simp at hx
  have hk' : k < L.length := by
    rcases Nat.lt_or_ge k L.length with h | h
    · exact h
    · exact absurd (List.drop_eq_nil_of_le h) hx
  obtain ⟨b', off', e, hlt, hcc⟩ := h.cell hL
  cases e
  refine ⟨b, off + k * s, by rw [ha hk'], hlt, fun j u hj => ?_⟩
  rw [cs_drop E, List.getElem?_drop] at hj
  have := hcc _ _ hj
  rw [← Nat.add_assoc] at this
  exact this
theorem RdR.built (E : Enc en s) (w : World) (e : TypeId) (cells : Array Value) (L : List α) (hc : cells.toList = cs en L) (n : Nat) (hn : L.length = n) (hm : n ≤ maxLen) : RdR en (w.alloc (.cells cells e)) (some ⟨w.heap.size, 0, none⟩) n L := by
  refine ⟨by omega, hm, fun h => (by cases h), fun _ => ⟨w.heap.size, 0, rfl, by simp, fun j u hj => ?_⟩⟩
  have hh : (w.alloc (.cells cells e)).heap[w.heap.size]? = some (.cells cells e) := heap_alloc_new w _
  simp only [World.cell?, hh]
  rw [← hc] at hj
  simpa using hj

/-- The slice begins at the head of a row of this type; its room may be less than the row's. -/
def OwR (en : α → List Value) (s : Nat) (e : TypeId) (w : World) (ao : Option Addr) (cap : Nat) (L : List α) : Prop :=
  (ao = none ∧ cap = 0 ∧ L = []) ∨ ∃ g cur, ao = some ⟨g, 0, none⟩ ∧ w.heap[g]? = some (.cells cur e (0, 0)) ∧ L.length ≤ cap ∧ cap ≤ maxLen ∧ cap * s ≤ cur.size ∧ cur.toList.take (L.length * s) = cs en L

theorem OwR.nil (e : TypeId) (w : World) : OwR en s e w none 0 [] := .inl ⟨rfl, rfl, rfl⟩
theorem OwR.rd {e : TypeId} {w : World} {ao : Option Addr} {cap : Nat} {L : List α} (h : OwR en s e w ao cap L) : RdR en w ao cap L := by
  rcases h with ⟨rfl, rfl, rfl⟩ | ⟨g, cur, rfl, hh, hle, hmx, hsz, htk⟩
  · exact RdR.empty w
  · refine ⟨hle, hmx, fun h => (by cases h), fun _ => ⟨g, 0, rfl, (Array.getElem?_eq_some_iff.1 hh).1, fun j u hj => ?_⟩⟩
    rw [cell_of_row _ _ _ _ _ _ hh, Nat.zero_add]
    rw [← htk, List.getElem?_take] at hj
    split at hj
    · simpa using hj
    · cases hj
theorem OwR.keep {e : TypeId} {w w' : World} {ao : Option Addr} {cap : Nat} {L : List α} (h : OwR en s e w ao cap L) (hb : ∀ a, ao = some a → a.block < w.heap.size → w'.heap[a.block]? = w.heap[a.block]?) : OwR en s e w' ao cap L := by
  rcases h with h | ⟨g, cur, rfl, hh, r⟩
  · exact .inl h
  · exact .inr ⟨g, cur, rfl, (hb _ rfl (Array.getElem?_eq_some_iff.1 hh).1).trans hh, r⟩
theorem OwR.below {e : TypeId} {w w' : World} {ao : Option Addr} {cap : Nat} {L : List α} (h : OwR en s e w ao cap L) (hb : Below w.heap.size w w') : OwR en s e w' ao cap L := h.keep fun a _ hl => hb.block _ hl
theorem OwR.fresh (e : TypeId) (w : World) : OwR en s e (w.alloc (.cells #[] e)) (some ⟨w.heap.size, 0, none⟩) 0 [] := .inr ⟨w.heap.size, #[], rfl, heap_alloc_new w _, Nat.le_refl _, by simp, by simp, by simp [cs]⟩
theorem OwR.lt {e : TypeId} {w : World} {ao : Option Addr} {cap : Nat} {L : List α} (h : OwR en s e w ao cap L) : ∀ a, ao = some a → a.block < w.heap.size ∧ ∃ cur, w.heap[a.block]? = some (.cells cur e (0, 0)) := by
  rintro a rfl
  rcases h with ⟨h, _⟩ | ⟨g, cur, h, hh, _⟩
  · cases h
  · cases h
    exact ⟨(Array.getElem?_eq_some_iff.1 hh).1, cur, hh⟩
theorem OwR.le {e : TypeId} {w : World} {ao : Option Addr} {cap : Nat} {L : List α} (h : OwR en s e w ao cap L) : L.length ≤ cap := h.rd.le
/-- Its beginning, with no more room. -/
theorem OwR.head (E : Enc en s) {e : TypeId} {w : World} {ao : Option Addr} {cap : Nat} {L : List α} (h : OwR en s e w ao cap L) (k : Nat) (hk : k ≤ L.length) : OwR en s e w ao k (L.take k) := by
  have hle := h.le
  rcases h with ⟨rfl, rfl, rfl⟩ | ⟨g, cur, rfl, hh, _, hmx, hsz, htk⟩
  · obtain rfl : k = 0 := by simpa using hk
    exact .inl ⟨rfl, rfl, rfl⟩
  · refine .inr ⟨g, cur, rfl, hh, by rw [List.length_take]; omega, by omega, Nat.le_trans (Nat.mul_le_mul_right s (Nat.le_trans hk hle)) hsz, ?_⟩
    rw [cs_take E, ← htk, List.take_take, List.length_take, Nat.min_eq_left hk, Nat.min_eq_left (Nat.mul_le_mul_right s hk)]

/-- What an append leaves. -/
theorem run_append_R (E : Enc en s) {P : Program} {w : World} (t ty e : TypeId) (z : Value) (bytes : Nat) (ht : P.underlying t = some (.slice e)) (hinfo : (P.info? e).map (fun i => (i.zero, i.size, i.bytes)) = some (some z, s, bytes)) (hzs : z.cells.size = s)
    {ao : Option Addr} {cap : Nat} {L : List α} (ho : OwR en s e w ao cap L) {ao' : Option Addr} {cap' : Nat} {M : List α} (hr : RdR en w ao' cap' M) (hbytes : (L.length + M.length) * bytes ≤ 140737488355328) (h63 : L.length + M.length ≤ maxLen) :
    ∃ ao2 cap2 w', (Builtin.append_ #[t, t] ty #[.slice ao L.length cap, .slice ao' M.length cap']).run P w = .ok (.slice ao2 (L.length + M.length) cap2) w' ∧ OwR en s e w' ao2 cap2 (L ++ M) ∧ w.grownBy w' (ao.map (·.block)) ∧ (ao2 = ao ∨ ao2 = some ⟨w.heap.size, 0, none⟩) := by
  obtain ⟨i, hi, hz, hsz, hby⟩ := info_parts hinfo
  subst hsz hby
  have hsame : w.grownBy w (ao.map (·.block)) := ⟨rfl, rfl, rfl, Nat.le_refl _, fun _ _ _ => rfl⟩
  have hsmall : L.length + M.length ≤ 9223372036854775807 := by simp only [maxLen] at h63; omega
  have hlen : (cs en L ++ cs en M).length = (L.length + M.length) * i.size := by rw [List.length_append, cs_length E, cs_length E, Nat.add_mul]
  have grown : ∀ (old : Nat) (olds : List Value), olds = cs en L → ∀ (row : Option Nat),
      OwR en i.size e (w.drew.alloc (.cells (olds.toArray ++ (cs en M).toArray ++ Builtin.zeroCells z.cells (grownCap w (L.length + M.length) old e - (L.length + M.length))) e)) (some ⟨w.heap.size, 0, none⟩) (grownCap w (L.length + M.length) old e) (L ++ M) ∧
      w.grownBy (w.drew.alloc (.cells (olds.toArray ++ (cs en M).toArray ++ Builtin.zeroCells z.cells (grownCap w (L.length + M.length) old e - (L.length + M.length))) e)) row := by
    rintro old _ rfl row
    have hge := grownCap_ge w (L.length + M.length) old e
    have hcm : grownCap w (L.length + M.length) old e ≤ maxLen := grownCap_le_maxLen w (L.length + M.length) old e h63
    refine ⟨.inr ⟨w.heap.size, _, rfl, heap_alloc_new w.drew _, by simpa using hge, hcm, ?_, ?_⟩, ⟨rfl, rfl, rfl, by simp, fun k hk _ => Below.heap_alloc w.drew _ k hk⟩⟩
    · simp only [Array.size_append, List.size_toArray, size_zeroCells, hzs, cs_length E, ← Nat.add_mul]
      exact Nat.mul_le_mul_right _ (by omega)
    · rw [cs_append]
      simp only [Array.toList_append, List.append_assoc]
      rw [← List.append_assoc, List.length_append, ← hlen]
      exact List.take_left
  cases ao' with
  | none =>
    have hM : M = [] := by
      have h1 := hr.le
      have h2 := hr.nil rfl
      exact List.eq_nil_of_length_eq_zero (by omega)
    subst hM
    have hc' := hr.nil rfl
    subst hc'
    refine ⟨ao, cap, w, ?_, by simpa using ho, hsame, .inl rfl⟩
    rcases ho with ⟨rfl, rfl, rfl⟩ | ⟨g, cur, rfl, hh, hle, _⟩
    · simp [Builtin.append_, run_underlying ht, sizeOf, typeInfo, hi, Builtin.lenOf, Builtin.firstCells]
    · simp [Builtin.append_, run_underlying ht, sizeOf, typeInfo, hi, Builtin.lenOf, Builtin.firstCells, hle, storeCells]
  | some a =>
    have hnews : ∀ j u, (cs en M)[j]? = some u → w.cell? (a.add j) = some u := by
      intro j u hj
      by_cases hM : M = []
      · subst hM; simp [cs] at hj
      · obtain ⟨b, off, e1, _, hc⟩ := hr.cell hM
        cases e1
        rw [Addr.add_lit]
        exact hc j u hj
    rcases ho with ⟨rfl, rfl, rfl⟩ | ⟨g, cur, rfl, hh, hle, hmx, hsz, htk⟩
    · by_cases hM : M = []
      · subst hM
        refine ⟨none, 0, w, ?_, OwR.nil e w, hsame, .inl rfl⟩
        simp [Builtin.append_, run_underlying ht, sizeOf, typeInfo, hi, Builtin.lenOf, Builtin.firstCells, loadCells, loadCellsFrom]
      · have h0 : 0 < M.length := List.length_pos_iff.2 hM
        have hrun := run_append_nil (P := P) w t ty e i z ht hi hz a M.length cap' (cs en M) (cs_length E M) hnews h0 (by simp at hsmall; omega) (by simp at hbytes; omega)
        have hgr := grown 0 [] rfl none
        simp only [List.length_nil, Nat.zero_add, List.nil_append, Array.empty_append] at hgr hrun ⊢
        exact ⟨_, _, _, hrun, hgr.1, hgr.2, .inr rfl⟩
    · by_cases hroom : L.length + M.length ≤ cap
      · have hfit : L.length * i.size + (cs en M).length ≤ cur.size := by rw [cs_length E, ← Nat.add_mul]; exact Nat.le_trans (Nat.mul_le_mul_right _ hroom) hsz
        have hrun := run_append_room (P := P) w t ty e i ht hi g L.length cap cur hh a M.length cap' (cs en M) (cs_length E M) hnews (cs_one E M) hroom hfit
        refine ⟨_, _, _, hrun, .inr ⟨g, _, rfl, setRow_heap w g cur _ e _ hh, by simpa using hroom, hmx, ?_, ?_⟩, ⟨rfl, rfl, rfl, by simp, fun k _ hk => setRow_other w g k _ (fun e => hk (by simp [e]))⟩, .inl rfl⟩
        · simp only [List.size_toArray, List.length_append, List.length_take, List.length_drop, Array.length_toList]
          omega
        · rw [htk, cs_append, List.length_append, ← hlen]
          exact List.take_left
      · have holds : ∀ j u, (cs en L)[j]? = some u → w.cell? ((⟨g, 0, none⟩ : Addr).add j) = some u := by
          intro j u hj
          rw [Addr.add_lit, cell_of_row _ _ _ _ _ _ hh, Nat.zero_add]
          rw [← htk, List.getElem?_take] at hj
          split at hj
          · simpa using hj
          · cases hj
        have hrun := run_append_grow (P := P) w t ty e i z ht hi hz ⟨g, 0, none⟩ L.length cap (cs en L) (cs_length E L) holds a M.length cap' (cs en M) (cs_length E M) hnews (by omega) (by omega) (growslice_fits (by omega) hbytes)
        have hgr := grown cap _ rfl ((some (⟨g, 0, none⟩ : Addr)).map (·.block))
        exact ⟨_, _, _, hrun, hgr.1, hgr.2, .inr rfl⟩

theorem exec_append_R (E : Enc en s) {P : Program} {w : World} {o : Oper} {a : Act} (so x : Operand) (t : TypeId) (hop : o.op = .call { callee := .builtin .append, args := #[so, x], argTypes := #[t, t] })
    (e : TypeId) (z : Value) (bytes : Nat) (ht : P.underlying t = some (.slice e)) (hinfo : (P.info? e).map (fun i => (i.zero, i.size, i.bytes)) = some (some z, s, bytes)) (hzs : z.cells.size = s)
    {ao : Option Addr} {cap n : Nat} {L : List α} {ao' : Option Addr} {cap' m : Nat} {M : List α} (hs : a.eval so = .slice ao n cap) (hx : a.eval x = .slice ao' m cap') (ho : OwR en s e w ao cap L) (hr : RdR en w ao' cap' M) (hn : L.length = n) (hm : M.length = m)
    (hbytes : (n + m) * bytes ≤ 140737488355328) (h63 : n + m ≤ maxLen) :
    ∃ ao2 cap2 w', (execOp a.eval o).run P w = .ok (.value (.slice ao2 (n + m) cap2)) w' ∧ OwR en s e w' ao2 cap2 (L ++ M) ∧ w.grownBy w' (ao.map (·.block)) ∧ (ao2 = ao ∨ ao2 = some ⟨w.heap.size, 0, none⟩) := by
  subst hn hm
  obtain ⟨ao2, cap2, w', hrun, h2, h3, h4⟩ := run_append_R E (P := P) t o.type e z bytes ht hinfo hzs ho hr hbytes h63
  refine ⟨ao2, cap2, w', ?_, h2, h3, h4⟩
  unfold execOp
  simp only [hop, resolve, invoke, builtin, Sem.run_bind, Sem.run_pure, Result.andThen_ok, List.map_toArray, List.map_cons, List.map_nil, hs, hx, hrun]

theorem wpList_append_R (E : Enc en s) {P : Program} (w : World) {ops : Array Oper} {rest : List Oper} {o : Oper} {a : Act} {Q : Exit → Act → World → Prop} (hgd : o.guard = none) (so x : Operand) (t : TypeId) (hop : o.op = .call { callee := .builtin .append, args := #[so, x], argTypes := #[t, t] })
    (e : TypeId) (z : Value) (bytes : Nat) (ht : P.underlying t = some (.slice e)) (hinfo : (P.info? e).map (fun i => (i.zero, i.size, i.bytes)) = some (some z, s, bytes)) (hzs : z.cells.size = s)
    {ao : Option Addr} {cap n : Nat} {L : List α} {ao' : Option Addr} {cap' m : Nat} {M : List α} (hs : a.eval so = .slice ao n cap) (hx : a.eval x = .slice ao' m cap') (ho : OwR en s e w ao cap L) (hr : RdR en w ao' cap' M) (hn : L.length = n) (hm : M.length = m)
    (hbytes : (n + m) * bytes ≤ 140737488355328) (h63 : n + m ≤ maxLen)
    (h : ∀ ao2 cap2 w', OwR en s e w' ao2 cap2 (L ++ M) → w.grownBy w' (ao.map (·.block)) → (ao2 = ao ∨ ao2 = some ⟨w.heap.size, 0, none⟩) → wpList P ops Q rest (a.put o.dst (.slice ao2 (n + m) cap2)) w') : wpList P ops Q (o :: rest) a w := by
  refine wpList_plain hgd fun _ hK => ?_
  obtain ⟨ao2, cap2, w', hrun, h2, h3, h4⟩ := exec_append_R E (P := P) (w := w) so x t hop e z bytes ht hinfo hzs hs hx ho hr hn hm hbytes h63
  unfold Oper.wp
  rw [hrun]
  exact hK _ _ (h ao2 cap2 w' h2 h3 h4)

end

/-- All blocks but those of A are as they were. -/
structure OffS (A : Nat → Prop) (w w' : World) : Prop where
  os : w'.os = w.os
  tape : w'.tape = w.tape
  output : w'.output = w.output
  size : w.heap.size ≤ w'.heap.size
  block : ∀ k, k < w.heap.size → ¬ A k → w'.heap[k]? = w.heap[k]?

theorem OffS.of_below {A : Nat → Prop} {w w' : World} (h : Below w.heap.size w w') : OffS A w w' := ⟨h.os, h.tape, h.output, h.size, fun k hk _ => h.block k hk⟩
theorem OffS.refl (A : Nat → Prop) (w : World) : OffS A w w := .of_below (Below.refl _ _)
theorem OffS.trans {A : Nat → Prop} {a b c : World} (h : OffS A a b) (k : OffS (fun j => A j ∨ a.heap.size ≤ j) b c) : OffS A a c :=
  ⟨k.os.trans h.os, k.tape.trans h.tape, k.output.trans h.output, Nat.le_trans h.size k.size, fun j hj hn => (k.block j (Nat.lt_of_lt_of_le hj h.size) (by rintro (h' | h'); exact hn h'; omega)).trans (h.block j hj hn)⟩
theorem OffS.mono {A B : Nat → Prop} {w w' : World} (h : OffS A w w') (hB : ∀ k, A k → B k) : OffS B w w' := ⟨h.os, h.tape, h.output, h.size, fun k hk hn => h.block k hk fun h' => hn (hB k h')⟩
theorem OffS.below {A : Nat → Prop} {w w' : World} {B : Nat} (h : OffS A w w') (hA : ∀ k, A k → B ≤ k) (hB : B ≤ w.heap.size) : Below B w w' := ⟨h.os, h.tape, h.output, h.size, fun k hk => h.block k (by omega) fun h' => by have := hA k h'; omega⟩
theorem OffS.setCell {A : Nat → Prop} {w w' : World} (h : OffS A w w') {a : Addr} (ha : A a.block) (u : Value) : OffS A w (w'.setCell a u) :=
  ⟨h.os, h.tape, h.output, by simpa using h.size, fun k hk hn => (Below.heap_setCell _ _ _ _ (by rintro rfl; exact hn ha)).trans (h.block k hk hn)⟩
theorem OffS.grown {A : Nat → Prop} {w w' : World} {row : Option Nat} (h : w.grownBy w' row) (hr : ∀ k, row = some k → A k) : OffS A w w' :=
  ⟨h.os, h.tape, h.output, h.size, fun k hk hn => h.block k hk (by rintro rfl; exact hn (hr k rfl))⟩

end Go.Proofs.Ytfllkhimlambhaa
