/- Edges in memory: what a slice of them reads as, what of it stays, what an append leaves; the four places of a table that are read. No walk. -/
import Derived.Test.YtllggjkhbecalaaDoorProg
import Derived.Test.YtllggjkhbecalaaDoorSl
import Derived.Test.YtllggjkhbecalaaDoorEm
import Derived.Laws.Rows
import Derived.Laws.OwnMore
namespace Go.Proofs.YtllggjkhbecalaaDoor.Wai
open Go.RowKit
set_option linter.unusedVariables false
set_option maxRecDepth 8000

theorem info29 : (Tryd.prog.info? 64).map (fun i => (i.zero, i.size, i.bytes)) = some (some (.agg #[.int .i64 0, .int .i64 0]), 2, 16) := by kernel_rfl
theorem info3 : (Tryd.prog.info? 3).map (fun i => (i.zero, i.size, i.bytes)) = some (some (.int .i64 0), 1, 8) := by kernel_rfl

/-- The slice reads as these edges. -/
structure RdE (w : World) (ao : Option Addr) (cap : Nat) (E : List (Int × Int)) : Prop where
  le : E.length ≤ cap
  mx : cap ≤ maxLen
  nil : ao = none → cap = 0
  cell : E ≠ [] → ∃ b off, ao = some ⟨b, off, none⟩ ∧ b < w.heap.size ∧ ∀ t (h : t < E.length), w.cell? ⟨b, off + t * 2, none⟩ = some (.int .i64 E[t].1) ∧ w.cell? ⟨b, off + t * 2 + 1, none⟩ = some (.int .i64 E[t].2)

def ec : List (Int × Int) → List Value
  | [] => []
  | e :: E => .int .i64 e.1 :: .int .i64 e.2 :: ec E

theorem ec_length (E : List (Int × Int)) : (ec E).length = E.length * 2 := by
  induction E with
  | nil => rfl
  | cons e E ih => simp [ec, ih]; omega
theorem ec_append (E F : List (Int × Int)) : ec (E ++ F) = ec E ++ ec F := by
  induction E with
  | nil => rfl
  | cons e E ih => simp [ec, ih]
theorem ec_get : ∀ (E : List (Int × Int)) (t : Nat) (h : t < E.length), (ec E)[t * 2]? = some (.int .i64 E[t].1) ∧ (ec E)[t * 2 + 1]? = some (.int .i64 E[t].2)
  | e :: E, 0, _ => by simp [ec]
  | e :: E, t + 1, h => by
    have ih := ec_get E t (by simpa using h)
    rw [show (t + 1) * 2 = t * 2 + 1 + 1 by omega]
    simpa [ec] using ih
theorem ec_one (E : List (Int × Int)) : ∀ u ∈ ec E, u.oneCell' = true := by
  induction E with
  | nil => simp [ec]
  | cons e E ih =>
    intro u hu
    simp only [ec, List.mem_cons] at hu
    rcases hu with rfl | rfl | h
    · rfl
    · rfl
    · exact ih u h

theorem RdE.empty (w : World) : RdE w none 0 [] := ⟨by simp, by simp, fun _ => rfl, fun h => absurd rfl h⟩
theorem RdE.below {w w' : World} {ao : Option Addr} {cap : Nat} {E : List (Int × Int)} (h : RdE w ao cap E) (hb : Below w.heap.size w w') : RdE w' ao cap E := by
  refine ⟨h.le, h.mx, h.nil, fun hx => ?_⟩
  obtain ⟨b, off, e, hlt, hc⟩ := h.cell hx
  exact ⟨b, off, e, Nat.lt_of_lt_of_le hlt hb.size, fun t ht => ⟨(hb.cell (p := ⟨b, off + t * 2, none⟩) hlt).trans (hc t ht).1, (hb.cell (p := ⟨b, off + t * 2 + 1, none⟩) hlt).trans (hc t ht).2⟩⟩
theorem RdE.heap {w w' : World} {ao : Option Addr} {cap : Nat} {E : List (Int × Int)} (h : RdE w ao cap E) (e : w'.heap = w.heap) : RdE w' ao cap E := by
  refine ⟨h.le, h.mx, h.nil, fun hx => ?_⟩
  obtain ⟨b, off, e1, hlt, hc⟩ := h.cell hx
  have hk : ∀ p, w'.cell? p = w.cell? p := fun p => by simp only [World.cell?, e]
  exact ⟨b, off, e1, by rw [e]; exact hlt, fun t ht => ⟨(hk _).trans (hc t ht).1, (hk _).trans (hc t ht).2⟩⟩
theorem RdE.at {w : World} {ao : Option Addr} {cap : Nat} {E : List (Int × Int)} (h : RdE w ao cap E) {t : Nat} (ht : t < E.length) :
    ∃ b off, ao = some ⟨b, off, none⟩ ∧ b < w.heap.size ∧ w.cell? ⟨b, off + t * 2, none⟩ = some (.int .i64 E[t].1) ∧ w.cell? ⟨b, off + t * 2 + 1, none⟩ = some (.int .i64 E[t].2) := by
  obtain ⟨b, off, e, hlt, hc⟩ := h.cell (by intro e; subst e; simp at ht)
  exact ⟨b, off, e, hlt, hc t ht⟩
theorem RdE.built (w : World) (cs : Array Value) (E : List (Int × Int)) (hc : cs.toList = ec E) (hm : E.length ≤ maxLen) (n : Nat) (hn : E.length = n) : RdE (w.alloc (.cells cs 64)) (some ⟨w.heap.size, 0, none⟩) n E := by
  subst hn
  refine ⟨Nat.le_refl _, hm, fun h => (by cases h), fun _ => ⟨w.heap.size, 0, rfl, by simp, fun t ht => ?_⟩⟩
  have hh : (w.alloc (.cells cs 64)).heap[w.heap.size]? = some (.cells cs 64) := heap_alloc_new w _
  have h1 := ec_get E t ht
  simp only [World.cell?, hh]
  rw [← hc] at h1
  simpa using h1

/-- The slice of edges is the call's own. -/
def OwnE (w : World) (base : Nat) (ao : Option Addr) (cap : Nat) (E : List (Int × Int)) : Prop := w.ownsRow base 64 2 (.slice ao E.length cap) E.length (ec E)

section
variable {w w' : World} {base : Nat} {ao : Option Addr} {cap : Nat} {E : List (Int × Int)}
theorem OwnE.rd (h : OwnE w base ao cap E) : RdE w ao cap E := by
  have hh := h
  obtain ⟨h1, h2⟩ := h
  rcases h2 with ⟨hv, hn⟩ | ⟨g, cp, cur, hv, hg, hb, hle, hmx, hsz, htk⟩
  · simp only [Value.slice.injEq] at hv
    obtain ⟨rfl, hl, rfl⟩ := hv
    have : E = [] := List.eq_nil_of_length_eq_zero hl
    subst this
    exact RdE.empty w
  · simp only [Value.slice.injEq] at hv
    obtain ⟨rfl, _, rfl⟩ := hv
    refine ⟨hle, hmx, fun h => (by cases h), fun _ => ⟨g, 0, rfl, (Array.getElem?_eq_some_iff.1 hb).1, fun t ht => ?_⟩⟩
    have e1 := World.ownsRow.cellAt hh (t * 2) (by omega)
    have e2 := World.ownsRow.cellAt hh (t * 2 + 1) (by omega)
    obtain ⟨g1, g2⟩ := ec_get E t ht
    simp only [Nat.zero_add]
    exact ⟨e1.trans g1, e2.trans g2⟩
theorem OwnE.below (h : OwnE w base ao cap E) (hb : Below w.heap.size w w') : OwnE w' base ao cap E := by
  obtain ⟨h1, h2⟩ := h
  refine ⟨h1, ?_⟩
  rcases h2 with h2 | ⟨g, cp, cur, hv, hg, hh, r⟩
  · exact .inl h2
  · exact .inr ⟨g, cp, cur, hv, hg, by rw [hb.block g (Array.getElem?_eq_some_iff.1 hh).1]; exact hh, r⟩
theorem OwnE.mono {base' : Nat} (h : OwnE w base ao cap E) (hb : base' ≤ base) : OwnE w base' ao cap E := by
  obtain ⟨h1, h2⟩ := h
  refine ⟨h1, ?_⟩
  rcases h2 with h2 | ⟨g, cp, cur, hv, hg, r⟩
  · exact .inl h2
  · exact .inr ⟨g, cp, cur, hv, by omega, r⟩
theorem OwnE.nil (w : World) (base : Nat) : OwnE w base none 0 [] := World.ownsRow_nil w base 64 2
theorem OwnE.fresh (w : World) (base : Nat) (hb : base ≤ w.heap.size) : OwnE (w.alloc (.cells #[] 64)) base (some ⟨w.heap.size, 0, none⟩) 0 [] :=
  ⟨by simp [ec], .inr ⟨w.heap.size, 0, #[], rfl, hb, heap_alloc_new w _, Nat.le_refl _, by simp, by simp, by simp [ec]⟩⟩
theorem OwnE.grown {B : Nat} (h : OwnE w base ao cap E) (hB : B ≤ base) (hs : B ≤ w.heap.size) (hg : w.grownBy w' (Value.ownBlock (.slice ao E.length cap))) : Below B w w' :=
  (Below.refl B w).grown hg hs fun k hk => by
    obtain ⟨_, h2⟩ := h
    rcases h2 with ⟨hv, _⟩ | ⟨g, cp, cur, hv, hg, _⟩
    · rw [hv] at hk; simp [Value.ownBlock] at hk
    · rw [hv] at hk; simp [Value.ownBlock] at hk; omega
end

/-- What an append of edges leaves. -/
theorem run_append_rdE {w : World} (base : Nat) (ty : TypeId) {ao : Option Addr} {cap : Nat} {E : List (Int × Int)} (hown : OwnE w base ao cap E) {ao' : Option Addr} {cap' : Nat} {F : List (Int × Int)} (hrd : RdE w ao' cap' F)
    (hbytes : (E.length + F.length) * 16 ≤ 140737488355328) (hbase : base ≤ w.heap.size) :
    ∃ ao2 cap2 w', (Builtin.append_ #[40, 40] ty #[.slice ao E.length cap, .slice ao' F.length cap']).run Tryd.prog w = .ok (.slice ao2 (E.length + F.length) cap2) w' ∧
      OwnE w' base ao2 cap2 (E ++ F) ∧ Below base w w' := by
  have h63 : E.length + F.length ≤ maxLen := by unfold maxLen; omega
  obtain ⟨i0, hi, hz0, hz1, hz2⟩ := info_parts info29
  have fin : ∀ v' w', w'.ownsRow base 64 2 v' (E.length + F.length) (ec E ++ ec F) → ∃ ao2 cap2, v' = .slice ao2 (E.length + F.length) cap2 ∧ OwnE w' base ao2 cap2 (E ++ F) := by
    intro v' w' h
    obtain ⟨h1, h2⟩ := h
    have hlen : (E ++ F).length = E.length + F.length := by simp
    rcases h2 with ⟨hv, hn⟩ | ⟨g, cp, cur, hv, r⟩
    · exact ⟨none, 0, by rw [hv, hn], by unfold OwnE World.ownsRow; rw [hlen, ec_append]; exact ⟨h1, .inl ⟨by rw [hn], hn⟩⟩⟩
    · exact ⟨some ⟨g, 0, none⟩, cp, hv, by unfold OwnE World.ownsRow; rw [hlen, ec_append]; exact ⟨h1, .inr ⟨g, cp, cur, rfl, r⟩⟩⟩
  by_cases hy : F = []
  · subst hy
    cases ao' with
    | none =>
      have hc := hrd.nil rfl
      subst hc
      have hrun := run_append_owned_none (P := Tryd.prog) (w := w) base 40 ty 64 i0 2 Tryd.underlying40 hi _ E.length (ec E) hown
      refine ⟨ao, cap, w, by simpa using hrun, by simpa using hown, Below.refl _ _⟩
    | some ad =>
      obtain ⟨v', w', hr, h2, h3, _⟩ := run_append_own (P := Tryd.prog) w base 40 ty 64 i0 _ 2 16 Tryd.underlying40 hi hz0 hz1 hz2 rfl (by decide) _ _ _ hown ad 0 cap' [] (by simp) (by intro j u h; simp at h) (by simp) h63 hbytes hbase
      obtain ⟨ao2, cap2, rfl, ho⟩ := fin v' w' h2
      exact ⟨ao2, cap2, w', hr, ho, hown.grown (Nat.le_refl _) hbase h3⟩
  · obtain ⟨b, off, rfl, _, hc⟩ := hrd.cell hy
    obtain ⟨v', w', hr, h2, h3, _⟩ := run_append_own (P := Tryd.prog) w base 40 ty 64 i0 _ 2 16 Tryd.underlying40 hi hz0 hz1 hz2 rfl (by decide) _ _ _ hown ⟨b, off, none⟩ F.length cap' (ec F) (by rw [ec_length]) (by
      intro j u h
      obtain ⟨hj, _⟩ := List.getElem?_eq_some_iff.1 h
      rw [ec_length] at hj
      rw [Addr.add_lit]
      have hg := ec_get F (j / 2) (by omega)
      have hcc := hc (j / 2) (by omega)
      rcases Nat.mod_two_eq_zero_or_one j with e | e
      · have e2 : j / 2 * 2 = j := by omega
        rw [e2] at hg hcc
        rw [hcc.1, ← h, hg.1]
      · have e2 : j / 2 * 2 + 1 = j := by omega
        rw [Nat.add_assoc, e2] at hcc
        rw [e2] at hg
        rw [hcc.2, ← h, hg.2]) (ec_one F) h63 hbytes hbase
    obtain ⟨ao2, cap2, rfl, ho⟩ := fin v' w' h2
    exact ⟨ao2, cap2, w', hr, ho, hown.grown (Nat.le_refl _) hbase h3⟩

theorem wpList_append_rdE (w : World) {ops : Array Oper} {rest : List Oper} {o : Oper} {a : Act} {Q : Exit → Act → World → Prop} (hgd : o.guard = none) (s x : Operand)
    (ho : o.op = .call { callee := .builtin .append, args := #[s, x], argTypes := #[40, 40] })
    (base : Nat) {ao : Option Addr} {cap n : Nat} {E : List (Int × Int)} {ao' : Option Addr} {cap' m : Nat} {F : List (Int × Int)}
    (hs : a.eval s = .slice ao n cap) (hx : a.eval x = .slice ao' m cap') (hown : OwnE w base ao cap E) (hrd : RdE w ao' cap' F) (hn : E.length = n) (hm : F.length = m)
    (hbytes : (n + m) * 16 ≤ 140737488355328) (hbase : base ≤ w.heap.size)
    (h : ∀ ao2 cap2 w', OwnE w' base ao2 cap2 (E ++ F) → Below base w w' → wpList Tryd.prog ops Q rest (a.put o.dst (.slice ao2 (n + m) cap2)) w') : wpList Tryd.prog ops Q (o :: rest) a w := by
  subst hn hm
  refine wpList_plain hgd fun _ hK => ?_
  obtain ⟨ao2, cap2, w', hr, h2, h3⟩ := run_append_rdE base o.type hown hrd hbytes hbase
  unfold Oper.wp execOp
  simp only [ho, resolve, invoke, builtin, Sem.run_bind, Sem.run_pure, Result.andThen_ok, List.map_toArray, List.map_cons, List.map_nil, hs, hx, hr]
  exact hK _ _ (h ao2 cap2 w' h2 h3)

/-- The places of the table that four bits lead to. -/
structure Tz (w : World) : Prop where
  c0 : w.cell? ⟨2, 0, none⟩ = some (.int .u8 0)
  c1 : w.cell? ⟨2, 1, none⟩ = some (.int .u8 1)
  c3 : w.cell? ⟨2, 3, none⟩ = some (.int .u8 2)
  c7 : w.cell? ⟨2, 7, none⟩ = some (.int .u8 3)
  lt : 2 < w.heap.size

theorem Tz.below {w w' : World} {B : Nat} (h : Tz w) (hB : 2 < B) (hb : Below B w w') : Tz w' :=
  ⟨(hb.cell (p := ⟨2, 0, none⟩) hB).trans h.c0, (hb.cell (p := ⟨2, 1, none⟩) hB).trans h.c1, (hb.cell (p := ⟨2, 3, none⟩) hB).trans h.c3, (hb.cell (p := ⟨2, 7, none⟩) hB).trans h.c7, Nat.lt_of_lt_of_le h.lt hb.size⟩
theorem Tz.on {w w' : World} (h : Tz w) (hb : Below w.heap.size w w') : Tz w' := h.below h.lt hb

/-- Four masks in a block. -/
structure G4 (w : World) (b : Nat) (T : Nat → Nat) : Prop where
  blk : w.heap[b]? = some (.cells #[.int .u64 (T 0 : Nat), .int .u64 (T 1 : Nat), .int .u64 (T 2 : Nat), .int .u64 (T 3 : Nat)] 99 (0, 0))
def put (T : Nat → Nat) (i v : Nat) : Nat → Nat := fun j => if j = i then v else T j

section
variable {w w' : World} {b : Nat} {T : Nat → Nat}
theorem G4.cell (h : G4 w b T) : ∀ i, i < 4 → w.cell? ⟨b, i, none⟩ = some (.int .u64 (T i : Nat))
  | 0, _ => by rw [cell_of_row _ _ _ _ _ _ h.blk]; rfl
  | 1, _ => by rw [cell_of_row _ _ _ _ _ _ h.blk]; rfl
  | 2, _ => by rw [cell_of_row _ _ _ _ _ _ h.blk]; rfl
  | 3, _ => by rw [cell_of_row _ _ _ _ _ _ h.blk]; rfl
theorem G4.fz (h : G4 w b T) (j : Nat) : w.frozen? ⟨b, j, none⟩ = false := frozen_of_row _ _ _ _ _ h.blk
theorem G4.lt (h : G4 w b T) : b < w.heap.size := (Array.getElem?_eq_some_iff.1 h.blk).1
theorem G4.keep (h : G4 w b T) (hb : w'.heap[b]? = w.heap[b]?) : G4 w' b T := ⟨hb.trans h.blk⟩
theorem G4.below (h : G4 w b T) (hb : Below w.heap.size w w') : G4 w' b T := h.keep (hb.block b h.lt)
theorem G4.put (h : G4 w b T) : ∀ (i v : Nat), i < 4 → G4 (w.setCell ⟨b, i, none⟩ (.int .u64 (v : Int))) b (put T i v)
  | 0, v, _ => ⟨by rw [heap_setCell_same w b 0 _ 99 _ h.blk]; rfl⟩
  | 1, v, _ => ⟨by rw [heap_setCell_same w b 1 _ 99 _ h.blk]; rfl⟩
  | 2, v, _ => ⟨by rw [heap_setCell_same w b 2 _ 99 _ h.blk]; rfl⟩
  | 3, v, _ => ⟨by rw [heap_setCell_same w b 3 _ 99 _ h.blk]; rfl⟩
end

end Go.Proofs.YtllggjkhbecalaaDoor.Wai
