/- Package cache: entries as values and in memory, a cache in memory; an append that fits, a clear of one entry. No walk. -/
import Derived.Test.YtmmgdmfdiaoegaaGreatXa
import Derived.Lib.SliceRun
namespace Go.Proofs.YtmmgdmfdiaoegaaGreat
open Go.RowKit
set_option linter.unusedVariables false
set_option maxRecDepth 8000

/-- An entry: its page, its masks, the words of its four values. -/
structure En where
  p : Nat
  c : Nat
  o : Nat
  v : Nat → Nat × Nat

abbrev enV (x : En) : Value := .agg #[.int .i64 (x.p : Int), .int .i64 (x.c : Int), .int .i64 (x.o : Int), .complex .f64 (x.v 0).1 (x.v 0).2, .complex .f64 (x.v 1).1 (x.v 1).2, .complex .f64 (x.v 2).1 (x.v 2).2, .complex .f64 (x.v 3).1 (x.v 3).2]
abbrev enO (x : En) : Obj := .cells #[.int .i64 (x.p : Int), .int .i64 (x.c : Int), .int .i64 (x.o : Int), .complex .f64 (x.v 0).1 (x.v 0).2, .complex .f64 (x.v 1).1 (x.v 1).2, .complex .f64 (x.v 2).1 (x.v 2).2, .complex .f64 (x.v 3).1 (x.v 3).2] 135
def enC (x : En) : List Value := [.int .i64 (x.p : Int), .int .i64 (x.c : Int), .int .i64 (x.o : Int), .complex .f64 (x.v 0).1 (x.v 0).2, .complex .f64 (x.v 1).1 (x.v 1).2, .complex .f64 (x.v 2).1 (x.v 2).2, .complex .f64 (x.v 3).1 (x.v 3).2]
abbrev vaV (v : Nat → Nat × Nat) : Value := .agg #[.complex .f64 (v 0).1 (v 0).2, .complex .f64 (v 1).1 (v 1).2, .complex .f64 (v 2).1 (v 2).2, .complex .f64 (v 3).1 (v 3).2]
abbrev vaO (v : Nat → Nat × Nat) : Obj := .cells #[.complex .f64 (v 0).1 (v 0).2, .complex .f64 (v 1).1 (v 1).2, .complex .f64 (v 2).1 (v 2).2, .complex .f64 (v 3).1 (v 3).2] 49
theorem enE : Enc enC 7 := ⟨fun _ => rfl, fun x u hu => by simp only [enC, List.mem_cons, List.not_mem_nil, or_false] at hu; rcases hu with rfl | rfl | rfl | rfl | rfl | rfl | rfl <;> rfl, by decide⟩

abbrev zE : Value := .agg #[.int .i64 0, .int .i64 0, .int .i64 0, .complex .f64 0 0, .complex .f64 0 0, .complex .f64 0 0, .complex .f64 0 0]
theorem info43 : (Tryz.prog.info? 135).map (fun i => (i.zero, i.size, i.bytes)) = some (some zE, 7, 88) := by kernel_rfl
theorem info3 : (Tryz.prog.info? 3).map (fun i => (i.zero, i.size, i.bytes)) = some (some (.int .i64 0), 1, 8) := by kernel_rfl

theorem enIn (x : En) (w : World) (g o : Nat) (h : ∀ j u, (enC x)[j]? = some u → w.cell? ⟨g, o + j, none⟩ = some u) : w.cell? ⟨g, o, none⟩ = some (.int .i64 (x.p : Int)) ∧ w.cell? ⟨g, o + 1, none⟩ = some (.int .i64 (x.c : Int)) ∧ w.cell? ⟨g, o + 2, none⟩ = some (.int .i64 (x.o : Int)) ∧ w.cell? ⟨g, o + 3, none⟩ = some (.complex .f64 (x.v 0).1 (x.v 0).2) ∧ w.cell? ⟨g, o + 4, none⟩ = some (.complex .f64 (x.v 1).1 (x.v 1).2) ∧ w.cell? ⟨g, o + 5, none⟩ = some (.complex .f64 (x.v 2).1 (x.v 2).2) ∧ w.cell? ⟨g, o + 6, none⟩ = some (.complex .f64 (x.v 3).1 (x.v 3).2) :=
  ⟨h 0 _ rfl, h 1 _ rfl, h 2 _ rfl, h 3 _ rfl, h 4 _ rfl, h 5 _ rfl, h 6 _ rfl⟩

section
variable {α : Type} {en : α → List Value} {s : Nat} {e : TypeId}

theorem OwR.sub (E : Enc en s) {w : World} {ao : Option Addr} {cap : Nat} {L : List α} (h : OwR en s e w ao cap L) (k : Nat) : OwR en s e w ao cap (L.take k) := by
  rcases h with ⟨rfl, rfl, rfl⟩ | ⟨g, cur, rfl, hh, hle, hmx, hsz, htk⟩
  · simp only [List.take_nil]
    exact OwR.nil e w
  · refine .inr ⟨g, cur, rfl, hh, by rw [List.length_take]; omega, hmx, hsz, ?_⟩
    rw [cs_take E, ← htk, List.take_take, List.length_take]
    congr 1
    by_cases h : k ≤ L.length
    · rw [Nat.min_eq_left h, Nat.min_eq_left (Nat.mul_le_mul_right s h)]
    · rw [Nat.min_eq_right (by omega), Nat.min_eq_right (Nat.mul_le_mul_right s (by omega))]

theorem cs_set (E : Enc en s) (j : Nat) (hj : j < s) (u : Value) (y : α) : ∀ (L : List α) (t : Nat) (ht : t < L.length), en y = (en L[t]).set j u → (cs en L).set (t * s + j) u = cs en (L.set t y)
  | x :: L, 0, _, h => by
    simp only [List.getElem_cons_zero] at h
    rw [List.set_cons_zero, cs_cons, cs_cons, h, Nat.zero_mul, Nat.zero_add, List.set_append_left _ _ (by rw [E.len]; exact hj)]
  | x :: L, t + 1, ht, h => by
    simp only [List.getElem_cons_succ] at h
    have e : (t + 1) * s + j - s = t * s + j := by rw [Nat.add_mul]; omega
    rw [List.set_cons_succ, cs_cons, cs_cons, List.set_append_right _ _ (by rw [E.len, Nat.add_mul]; omega), E.len, e, cs_set E j hj u y L t (by simpa using ht) h]

/-- One cell of the t-th is written. -/
theorem OwR.put (E : Enc en s) {w : World} {g : Nat} {cap : Nat} {L : List α} (h : OwR en s e w (some ⟨g, 0, none⟩) cap L) (t : Nat) (ht : t < L.length) (j : Nat) (hj : j < s) (u : Value) (y : α) (hy : en y = (en L[t]).set j u) :
    OwR en s e (w.setCell ⟨g, t * s + j, none⟩ u) (some ⟨g, 0, none⟩) cap (L.set t y) := by
  rcases h with ⟨h, _⟩ | ⟨g', cur, h, hh, hle, hmx, hsz, htk⟩
  · cases h
  · cases h
    refine .inr ⟨g, cur.setIfInBounds (t * s + j) u, rfl, heap_setCell_same w g _ cur e u hh, by simpa using hle, hmx, by simpa using hsz, ?_⟩
    rw [Array.toList_setIfInBounds, List.length_set, List.take_set, htk, cs_set E j hj u y L t ht hy]

/-- A cell behind them all is written. -/
theorem OwR.away {w : World} {g : Nat} {cap : Nat} {L : List α} (h : OwR en s e w (some ⟨g, 0, none⟩) cap L) (o : Nat) (ho : L.length * s ≤ o) (u : Value) : OwR en s e (w.setCell ⟨g, o, none⟩ u) (some ⟨g, 0, none⟩) cap L := by
  rcases h with ⟨h, _⟩ | ⟨g', cur, h, hh, hle, hmx, hsz, htk⟩
  · cases h
  · cases h
    refine .inr ⟨g, cur.setIfInBounds o u, rfl, heap_setCell_same w g _ cur e u hh, hle, hmx, by simpa using hsz, ?_⟩
    rw [Array.toList_setIfInBounds, List.take_set, List.set_eq_of_length_le (by rw [List.length_take]; omega), htk]

theorem grown_refl (w : World) (r : Option Nat) : w.grownBy w r := ⟨rfl, rfl, rfl, Nat.le_refl _, fun _ _ _ => rfl⟩
theorem grown_trans {a b c : World} {r : Option Nat} (h : a.grownBy b r) (k : b.grownBy c r) : a.grownBy c r :=
  ⟨k.os.trans h.os, k.tape.trans h.tape, k.output.trans h.output, Nat.le_trans h.size k.size, fun j hj hne => (k.block j (Nat.lt_of_lt_of_le hj h.size) hne).trans (h.block j hj hne)⟩
theorem grown_setCell (w : World) (g o : Nat) (u : Value) : w.grownBy (w.setCell ⟨g, o, none⟩ u) (some g) :=
  ⟨rfl, rfl, rfl, by simp, fun k hk hne => Below.heap_setCell _ _ _ _ (by intro e; exact hne (by rw [e]))⟩

theorem OwR.aways {g : Nat} {cap : Nat} {L : List α} : ∀ (us : List Value) (o : Nat) (w : World), OwR en s e w (some ⟨g, 0, none⟩) cap L → L.length * s ≤ o → OwR en s e (w.setCells g o us) (some ⟨g, 0, none⟩) cap L ∧ w.grownBy (w.setCells g o us) (some g)
  | [], _, w, h, _ => ⟨h, grown_refl w _⟩
  | u :: us, o, w, h, ho => by
    obtain ⟨k1, k2⟩ := OwR.aways us (o + 1) (w.setCell ⟨g, o, none⟩ u) (h.away o ho u) (by omega)
    exact ⟨k1, grown_trans (grown_setCell w g o u) k2⟩

/-- An append that fits. -/
theorem run_append_fitR (E : Enc en s) {P : Program} {w : World} (t ty : TypeId) (z : Value) (bytes : Nat) (ht : P.underlying t = some (.slice e)) (hinfo : (P.info? e).map (fun i => (i.zero, i.size, i.bytes)) = some (some z, s, bytes))
    {g cap : Nat} {K : List α} (ho : OwR en s e w (some ⟨g, 0, none⟩) cap K) {a : Addr} {cap' : Nat} {M : List α} (hr : RdR en w (some a) cap' M) (hroom : K.length + M.length ≤ cap) :
    ∃ w', (Builtin.append_ #[t, t] ty #[.slice (some ⟨g, 0, none⟩) K.length cap, .slice (some a) M.length cap']).run P w = .ok (.slice (some ⟨g, 0, none⟩) (K.length + M.length) cap) w' ∧ OwR en s e w' (some ⟨g, 0, none⟩) cap (K ++ M) ∧ w.grownBy w' (some g) := by
  obtain ⟨i, hi, hz, hsz, hby⟩ := info_parts hinfo
  subst hsz hby
  have hlen : (cs en K ++ cs en M).length = (K.length + M.length) * i.size := by rw [List.length_append, cs_length E, cs_length E, Nat.add_mul]
  have hnews : ∀ j u, (cs en M)[j]? = some u → w.cell? (a.add j) = some u := by
    intro j u hj
    by_cases hM : M = []
    · subst hM; simp [cs] at hj
    · obtain ⟨b, off, e1, _, hc⟩ := hr.cell hM
      cases e1
      rw [Addr.add_lit]
      exact hc j u hj
  rcases ho with ⟨h, _⟩ | ⟨g', cur, h, hh, hle, hmx, hsz, htk⟩
  · cases h
  · cases h
    have hfit : K.length * i.size + (cs en M).length ≤ cur.size := by rw [cs_length E, ← Nat.add_mul]; exact Nat.le_trans (Nat.mul_le_mul_right _ hroom) hsz
    have hrun := run_append_room (P := P) w t ty e i ht hi g K.length cap cur hh a M.length cap' (cs en M) (cs_length E M) hnews (cs_one E M) hroom hfit
    refine ⟨_, hrun, .inr ⟨g, _, rfl, setRow_heap w g cur _ e _ hh, by simpa using hroom, hmx, ?_, ?_⟩, ⟨rfl, rfl, rfl, by simp, fun k _ hk => setRow_other w g k _ (fun e => hk (by simp [e]))⟩⟩
    · simp only [List.size_toArray, List.length_append, List.length_take, List.length_drop, Array.length_toList]
      omega
    · rw [htk, cs_append, List.length_append, ← hlen]
      exact List.take_left

theorem step_append_fitR (E : Enc en s) {P : Program} (w : World) {ops : Array Oper} {o : Oper} {a : Act} {K : Act → World → Prop} {Q : Exit → Act → World → Prop} {X : Prop} (hgd : o.guard = none) (so x : Operand) (t : TypeId)
    (hop : o.op = .call { callee := .builtin .append, args := #[so, x], argTypes := #[t, t] }) (z : Value) (bytes : Nat) (ht : P.underlying t = some (.slice e)) (hinfo : (P.info? e).map (fun i => (i.zero, i.size, i.bytes)) = some (some z, s, bytes))
    {g cap n : Nat} {N : List α} {a' : Addr} {cap' m : Nat} {M : List α} (hs : a.eval so = .slice (some ⟨g, 0, none⟩) n cap) (hx : a.eval x = .slice (some a') m cap') (ho : OwR en s e w (some ⟨g, 0, none⟩) cap N) (hr : RdR en w (some a') cap' M) (hn : N.length = n) (hm : M.length = m) (q : Nat) (hq : n + m = q) (hroom : q ≤ cap)
    (h : ∀ w', OwR en s e w' (some ⟨g, 0, none⟩) cap (N ++ M) → w.grownBy w' (some g) → K (a.put o.dst (.slice (some ⟨g, 0, none⟩) q cap)) w') :
    if Region.wanted o (yielded ops a.tmps) = true then Oper.wp P o a w K Q else X := by
  have hw : Region.wanted o (yielded ops a.tmps) = true := by simp [Region.wanted, hgd]
  rw [if_pos hw]
  subst hn hm hq
  obtain ⟨w', hrun, h2, h3⟩ := run_append_fitR E (P := P) t o.type z bytes ht hinfo ho hr hroom
  unfold Oper.wp execOp
  simp only [hop, resolve, invoke, builtin, Sem.run_bind, Sem.run_pure, Result.andThen_ok, List.map_toArray, List.map_cons, List.map_nil, hs, hx, hrun]
  exact h w' h2 h3
end

theorem zero43 (w : World) : (zeroValue 135).run Tryz.prog w = .ok zE w := by
  obtain ⟨i0, hi, hz0, _⟩ := info_parts info43
  simp [zeroValue, typeInfo, hi, hz0]

/-- clear of the one behind them all. -/
theorem wpList_clear1 (w : World) {ops : Array Oper} {rest : List Oper} {o : Oper} {a : Act} {Q : Exit → Act → World → Prop} (hgd : o.guard = none) (x : Operand)
    (ho : o.op = .call { callee := .builtin .clear, args := #[x], argTypes := #[64] }) {g k c cap : Nat} {L : List En} (hx : a.eval x = .slice (some ⟨g, k, none⟩) 1 c) (hown : OwR enC 7 135 w (some ⟨g, 0, none⟩) cap L) (hk : L.length * 7 = k) (hkm : L.length + 1 ≤ cap)
    (h : ∀ w', OwR enC 7 135 w' (some ⟨g, 0, none⟩) cap L → w.grownBy w' (some g) → wpList Tryz.prog ops Q rest (a.put o.dst (.tuple #[])) w') : wpList Tryz.prog ops Q (o :: rest) a w := by
  refine wpList_plain hgd fun _ hK => ?_
  have hzc : (Builtin.zeroCells zE.cells 1).toList = [.int .i64 0, .int .i64 0, .int .i64 0, .complex .f64 0 0, .complex .f64 0 0, .complex .f64 0 0, .complex .f64 0 0] := by kernel_rfl
  have hst := run_storeCells_cells (P := Tryz.prog) g k [.int .i64 0, .int .i64 0, .int .i64 0, .complex .f64 0 0, .complex .f64 0 0, .complex .f64 0 0, .complex .f64 0 0] 0 w (by
    intro j hj
    rcases hown with ⟨h', _⟩ | ⟨g', cur, h', hh, hle, hmx, hsz, htk⟩
    · cases h'
    · cases h'
      rw [cell_of_row _ _ _ _ _ _ hh]
      have hj' : j < 7 := hj
      have : (L.length + 1) * 7 ≤ cap * 7 := Nat.mul_le_mul_right _ hkm
      simp
      omega) (by
    intro j hj
    rcases hown with ⟨h', _⟩ | ⟨g', cur, h', hh, _⟩
    · cases h'
    · cases h'
      exact frozen_of_row _ _ _ _ _ hh) (by intro v hv; simp only [List.mem_cons, List.not_mem_nil, or_false] at hv; rcases hv with rfl | rfl | rfl | rfl | rfl | rfl | rfl <;> rfl)
  simp only [Nat.add_zero] at hst
  have hr : (Builtin.clear_ #[64] o.type #[.slice (some ⟨g, k, none⟩) 1 c]).run Tryz.prog w = .ok (.tuple #[]) (w.setCells g k [.int .i64 0, .int .i64 0, .int .i64 0, .complex .f64 0 0, .complex .f64 0 0, .complex .f64 0 0, .complex .f64 0 0]) := by
    simp only [Builtin.clear_]
    simp [run_underlying Tryz.underlying64, hzc, hst]
  unfold Oper.wp execOp
  simp only [ho, resolve, invoke, builtin, Sem.run_bind, Sem.run_pure, Result.andThen_ok, List.map_toArray, List.map_cons, List.map_nil, hx, hr]
  obtain ⟨k1, k2⟩ := OwR.aways (g := g) (cap := cap) (L := L) [.int .i64 0, .int .i64 0, .int .i64 0, .complex .f64 0 0, .complex .f64 0 0, .complex .f64 0 0, .complex .f64 0 0] k w hown (Nat.le_of_eq hk)
  exact hK _ _ (h _ k1 k2)

abbrev cp (c : Nat) : Value := .pointer (some ⟨c, 0, none⟩)

/-- A cache: block c has the room and leads to the entries L; A holds both blocks. -/
structure Ca (w : World) (A : Nat → Prop) (c : Nat) (room : Int) (ao : Option Addr) (cap : Nat) (L : List En) : Prop where
  blk : w.heap[c]? = some (.cells #[.int .i64 room, .slice ao L.length cap] 66 (0, 0))
  own : OwR enC 7 135 w ao cap L
  ac : A c
  ar : ∀ a, ao = some a → A a.block

section
variable {w w' : World} {A : Nat → Prop} {c : Nat} {room : Int} {ao : Option Addr} {cap : Nat} {L : List En}
theorem Ca.lt (h : Ca w A c room ao cap L) : c < w.heap.size := (Array.getElem?_eq_some_iff.1 h.blk).1
theorem Ca.c0 (h : Ca w A c room ao cap L) : w.cell? ⟨c, 0, none⟩ = some (.int .i64 room) := by rw [cell_of_row _ _ _ _ _ _ h.blk]; rfl
theorem Ca.c1 (h : Ca w A c room ao cap L) : w.cell? ⟨c, 1, none⟩ = some (.slice ao L.length cap) := by rw [cell_of_row _ _ _ _ _ _ h.blk]; rfl
theorem Ca.fz (h : Ca w A c room ao cap L) (j : Nat) : w.frozen? ⟨c, j, none⟩ = false := frozen_of_row _ _ _ _ _ h.blk
theorem Ca.ne (h : Ca w A c room ao cap L) : ∀ a, ao = some a → a.block ≠ c := by
  intro a ha e
  obtain ⟨_, cur, h1⟩ := h.own.lt a ha
  rw [e, h.blk] at h1
  cases h1
theorem Ca.len (h : Ca w A c room ao cap L) : L.length ≤ cap := h.own.le
theorem Ca.keep (h : Ca w A c room ao cap L) (hk : ∀ k, A k → k < w.heap.size → w'.heap[k]? = w.heap[k]?) : Ca w' A c room ao cap L :=
  ⟨(hk c h.ac h.lt).trans h.blk, h.own.keep fun a ha hl => hk _ (h.ar a ha) hl, h.ac, h.ar⟩
theorem Ca.below (h : Ca w A c room ao cap L) (hb : Below w.heap.size w w') : Ca w' A c room ao cap L := h.keep fun k _ hk => hb.block k hk
theorem Ca.mono {B : Nat → Prop} (h : Ca w A c room ao cap L) (hB : ∀ k, k < w.heap.size → A k → B k) : Ca w B c room ao cap L :=
  ⟨h.blk, h.own, hB c h.lt h.ac, fun a ha => hB _ (h.own.lt a ha).1 (h.ar a ha)⟩
end

def Cw (w : World) (A : Nat → Prop) (c : Nat) (room : Int) (L : List En) : Prop := ∃ ao cap, Ca w A c room ao cap L
/-- Behind a step: the cache, and all else as it was. -/
def Nx (w w' : World) (A : Nat → Prop) (c : Nat) (room : Int) (L : List En) : Prop := Cw w' (fun k => A k ∨ w.heap.size ≤ k) c room L ∧ OffS A w w'

section
variable {w w' : World} {A : Nat → Prop} {c : Nat} {room : Int} {L : List En}
theorem Cw.below (h : Cw w A c room L) (hb : Below w.heap.size w w') : Cw w' A c room L := by
  obtain ⟨ao, cap, h⟩ := h
  exact ⟨ao, cap, h.below hb⟩
theorem Cw.mono {B : Nat → Prop} (h : Cw w A c room L) (hB : ∀ k, k < w.heap.size → A k → B k) : Cw w B c room L := by
  obtain ⟨ao, cap, h⟩ := h
  exact ⟨ao, cap, h.mono hB⟩
theorem Nx.of_below (h : Cw w A c room L) (hb : Below w.heap.size w w') : Nx w w' A c room L := ⟨(h.below hb).mono fun k _ hk => .inl hk, .of_below hb⟩
theorem Nx.older {w1 : World} (hb : Below w.heap.size w w1) (h : Nx w1 w' A c room L) : Nx w w' A c room L :=
  ⟨h.1.mono fun k _ hk => hk.imp id fun h' => Nat.le_trans hb.size h', (OffS.of_below hb).trans (h.2.mono fun k hk => .inl hk)⟩
theorem Nx.trans {w1 : World} {L1 : List En} (h1 : Nx w w1 A c room L1) (h2 : Nx w1 w' (fun k => A k ∨ w.heap.size ≤ k) c room L) : Nx w w' A c room L :=
  ⟨h2.1.mono fun k _ hk => by
    rcases hk with hk | hk
    · exact hk
    · exact .inr (Nat.le_trans h1.2.size hk), h1.2.trans h2.2⟩
end

end Go.Proofs.YtmmgdmfdiaoegaaGreat
