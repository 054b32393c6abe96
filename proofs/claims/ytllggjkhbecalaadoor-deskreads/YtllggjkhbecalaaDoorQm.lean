/- Wants and calls as values; the calls' map: what is looked up, stored, taken out. No walk. -/
import Derived.Test.YtllggjkhbecalaaDoorRg
import Derived.Maps.RangeWalk
import Derived.DeepKeys4
namespace Go.Proofs.YtllggjkhbecalaaDoor
open Go.RowKit Go.Maps
set_option linter.unusedVariables false
set_option maxRecDepth 8000

/-- A want; or a call: whose, of which object, to write it or not. -/
structure Wt where
  c : Int
  p : Int
  o : Int
  wr : Bool

abbrev wtV (x : Wt) : Value := .agg #[.int .i64 x.c, .int .i64 x.p, .int .i64 x.o, .bool x.wr]
abbrev wtO (x : Wt) : Obj := .cells #[.int .i64 x.c, .int .i64 x.p, .int .i64 x.o, .bool x.wr] 43
abbrev caO (x : Wt) : Obj := .cells #[.int .i64 x.c, .int .i64 x.p, .int .i64 x.o, .bool x.wr] 83
def wtC (x : Wt) : List Value := [.int .i64 x.c, .int .i64 x.p, .int .i64 x.o, .bool x.wr]
theorem wtE : Enc wtC 4 := ⟨fun _ => rfl, fun x u hu => by simp only [wtC, List.mem_cons, List.not_mem_nil, or_false] at hu; rcases hu with rfl | rfl | rfl | rfl <;> rfl, by decide⟩

theorem info29 : (Tryd.prog.info? 43).map (fun i => (i.zero, i.size, i.bytes)) = some (some (.agg #[.int .i64 0, .int .i64 0, .int .i64 0, .bool false]), 4, 32) := by kernel_rfl
theorem info3 : (Tryd.prog.info? 3).map (fun i => (i.zero, i.size, i.bytes)) = some (some (.int .i64 0), 1, 8) := by kernel_rfl

def inR (x : Int) : Prop := -9223372036854775808 ≤ x ∧ x ≤ 9223372036854775807
def Wt.ok (k : Wt) : Prop := inR k.c ∧ inR k.p ∧ inR k.o

theorem laidOut : laidOutB Tryd.prog = true := by kernel_rfl
theorem row68 : (83 : TypeId) < Tryd.prog.types.size := of_decide_eq_true (by kernel_rfl)
theorem cells68 : Tryd.prog.cellsOf 83 = 4 := by kernel_rfl
theorem cells3 : Tryd.prog.cellsOf 3 = 1 := by kernel_rfl
theorem cells4 : Tryd.prog.cellsOf 4 = 1 := by kernel_rfl
theorem deep68 : Tryd.prog.keyType 83 = true := by kernel_rfl
theorem wide68 : (match Tryd.prog.underlying 83 with | some (.array _ _) | some (.struct _) => true | _ => false) = true := by rw [Tryd.underlying83]
theorem law68 : Keyed Tryd.prog 83 := Keyed.of_law (deep_law_laid laidOut (m := 3) (by omega) row68 (by kernel_rfl) wide68)
theorem zero70 (w : World) : (zeroValue 85).run Tryd.prog w = .ok (.int .i64 0) w := by kernel_rfl

theorem formed68 {v : Value} (h : v.formed Tryd.prog 83 = true) : ∃ a b c d, v = .agg #[a, b, c, d] := by
  unfold Value.formed at h
  rw [Tryd.underlying83] at h
  cases v <;> simp [cells68] at h
  rename_i xs
  obtain ⟨l⟩ := xs
  match l, h with
  | [a, b, c, d], _ => exact ⟨a, b, c, d, rfl⟩

theorem wf64 {n : Int} : (Lit.int .i64 n).wf = true ↔ inR n := by
  simp [Lit.wf, inR, IntKind.min, IntKind.max, IntKind.signed, IntKind.bits]

/-- What a call reads as, as a key. -/
def klOf (k : Wt) : Lit := .string (keyBytes [.int .i64 k.c, .int .i64 k.p, .int .i64 k.o, .bool k.wr])

theorem keyLits68 (a b c d : Value) (D : Nat) : Tryd.prog.keyLits (D + 2) 83 [a, b, c, d] = (do
    let x ← Tryd.prog.keyLits (D + 1) 3 [a]
    let y ← Tryd.prog.keyLits (D + 1) 3 [b]
    let z ← Tryd.prog.keyLits (D + 1) 3 [c]
    let u ← Tryd.prog.keyLits (D + 1) 4 [d]
    pure (x ++ (y ++ (z ++ u)))) := by
  conv => lhs; unfold Program.keyLits
  rw [Tryd.underlying83]
  simp only [cells68, List.length_cons, List.length_nil, List.mapM_cons, List.mapM_nil, cells3, cells4]
  cases h1 : Tryd.prog.keyLits (D + 1) 3 [a] <;> cases h2 : Tryd.prog.keyLits (D + 1) 3 [b] <;> cases h3 : Tryd.prog.keyLits (D + 1) 3 [c] <;> cases h4 : Tryd.prog.keyLits (D + 1) 4 [d] <;> simp [h1, h2, h3, h4]

theorem key_mk {k : Wt} (h : k.ok) : keyOf Tryd.prog 83 (wtV k) = some (klOf k) := by
  unfold keyOf
  rw [Tryd.underlying83]
  have hf : (wtV k).formed Tryd.prog 83 = true := by simp [Value.formed, Tryd.underlying83, cells68]
  have e : Tryd.prog.types.size + 1 = (Tryd.prog.types.size - 1) + 2 := by
    have h : (83 : Nat) < Tryd.prog.types.size := row68
    omega
  simp only [deep68, hf, Bool.and_self, if_true]
  have hc : (wtV k).cells.toList = [.int .i64 k.c, .int .i64 k.p, .int .i64 k.o, .bool k.wr] := rfl
  rw [hc, e, keyLits68]
  obtain ⟨h1, h2, h3⟩ := h
  simp [Program.keyLits, Tryd.underlying3, Tryd.underlying4, wf64.2 h1, wf64.2 h2, wf64.2 h3, klOf]

theorem key_inv {v : Value} {l : Lit} (h : keyOf Tryd.prog 83 v = some l) : ∃ k : Wt, k.ok ∧ v = wtV k ∧ l = klOf k := by
  have h0 := h
  unfold keyOf at h
  rw [Tryd.underlying83] at h
  simp only [deep68, Bool.true_and] at h
  split at h
  · rename_i hf
    obtain ⟨a, b, c, d, rfl⟩ := formed68 hf
    have e : Tryd.prog.types.size + 1 = (Tryd.prog.types.size - 1) + 2 := by
      have h : (83 : Nat) < Tryd.prog.types.size := row68
      omega
    have hc : (Value.agg #[a, b, c, d]).cells.toList = [a, b, c, d] := rfl
    rw [hc, e, keyLits68] at h
    have g3 : ∀ (u : Value) (D : Nat), Tryd.prog.keyLits (D + 1) 3 [u] = none ∨ ∃ n : Int, u = .int .i64 n ∧ inR n := by
      intro u D
      cases hk : Tryd.prog.keyLits (D + 1) 3 [u] with
      | none => exact .inl rfl
      | some x =>
        refine .inr ?_
        unfold Program.keyLits at hk
        rw [Tryd.underlying3] at hk
        cases u <;> simp at hk
        rename_i q n
        obtain ⟨⟨rfl, hw⟩, _⟩ := hk
        exact ⟨n, rfl, wf64.1 hw⟩
    have g4 : ∀ (u : Value) (D : Nat), Tryd.prog.keyLits (D + 1) 4 [u] = none ∨ ∃ n : Bool, u = .bool n := by
      intro u D
      cases hk : Tryd.prog.keyLits (D + 1) 4 [u] with
      | none => exact .inl rfl
      | some x =>
        refine .inr ?_
        unfold Program.keyLits at hk
        rw [Tryd.underlying4] at hk
        cases u <;> simp at hk
        exact ⟨_, rfl⟩
    rcases g3 a _ with e1 | ⟨x, rfl, hx⟩
    · rw [e1] at h; cases h
    rcases g3 b _ with e1 | ⟨y, rfl, hy⟩
    · rw [e1] at h; generalize Tryd.prog.keyLits (Tryd.prog.types.size - 1 + 1) 3 [.int .i64 x] = o1 at h; cases o1 <;> simp at h
    rcases g3 c _ with e1 | ⟨z, rfl, hz⟩
    · rw [e1] at h; generalize Tryd.prog.keyLits (Tryd.prog.types.size - 1 + 1) 3 [.int .i64 x] = o1 at h; generalize Tryd.prog.keyLits (Tryd.prog.types.size - 1 + 1) 3 [.int .i64 y] = o2 at h; cases o1 <;> cases o2 <;> simp at h
    rcases g4 d _ with e1 | ⟨u, rfl⟩
    · rw [e1] at h; generalize Tryd.prog.keyLits (Tryd.prog.types.size - 1 + 1) 3 [.int .i64 x] = o1 at h; generalize Tryd.prog.keyLits (Tryd.prog.types.size - 1 + 1) 3 [.int .i64 y] = o2 at h; generalize Tryd.prog.keyLits (Tryd.prog.types.size - 1 + 1) 3 [.int .i64 z] = o3 at h; cases o1 <;> cases o2 <;> cases o3 <;> simp at h
    refine ⟨⟨x, y, z, u⟩, ⟨hx, hy, hz⟩, rfl, ?_⟩
    have := key_mk (k := ⟨x, y, z, u⟩) ⟨hx, hy, hz⟩
    rw [h0] at this
    exact Option.some.inj this
  · cases h

theorem klOf_inj {k j : Wt} (hk : k.ok) (hj : j.ok) (h : klOf k = klOf j) : k = j := by
  have h1 := key_mk hk
  rw [h] at h1
  have h2 := law68.inj h1 (key_mk hj)
  obtain ⟨a, b, c, d⟩ := k
  obtain ⟨a', b', c', d'⟩ := j
  simp only [wtV, Value.agg.injEq, Array.mk.injEq, List.cons.injEq, Value.int.injEq, true_and, Value.bool.injEq, and_true] at h2
  obtain ⟨rfl, rfl, rfl, rfl⟩ := h2
  rfl

/-- Which calls are there, and which of them are busy. -/
abbrev Cl := Wt → Option Bool
def cnum (u : Option Bool) : Int := if u = some true then 1 else 0
def Cl.set (C : Cl) (k : Wt) (u : Option Bool) : Cl := fun j => if j.c = k.c ∧ j.p = k.p ∧ j.o = k.o ∧ j.wr = k.wr then u else C j
theorem wt_eq {j k : Wt} : (j.c = k.c ∧ j.p = k.p ∧ j.o = k.o ∧ j.wr = k.wr) ↔ j = k := by
  obtain ⟨a, b, c, d⟩ := k
  obtain ⟨a', b', c', d'⟩ := j
  simp
theorem Cl.set_self (C : Cl) (k : Wt) (u : Option Bool) : C.set k u k = u := by simp [Cl.set]
theorem Cl.set_other (C : Cl) {k j : Wt} (u : Option Bool) (h : j ≠ k) : C.set k u j = C j := by
  unfold Cl.set
  rw [if_neg (fun e => h (wt_eq.1 e))]

structure Rep (D : DataW Unit) (C : Cl) : Prop where
  has : ∀ k, k.ok → Maps.has D (klOf k) = (C k).isSome
  at_ : ∀ k, k.ok → ∀ u, C k = some u → ∀ z, D.atKey (klOf k) z = .lit (.int .i64 (cnum (some u)))
  out : ∀ k, ¬ k.ok → C k = none

noncomputable abbrev R70 : Value → Option (DataW Unit × List MemPlace) := plainElem Tryd.prog 85

/-- The map in block b holds just these calls. -/
def MapC (w : World) (b n : Nat) (C : Cl) : Prop := ∃ D : DataW Unit, w.ownsMap Tryd.prog 83 R70 b n D ∧ Rep D C

theorem cnum_wf (u : Option Bool) : (Lit.int .i64 (cnum u)).wf = true := wf64.2 (by unfold cnum inR; split <;> omega)

theorem MapC.new (w : World) : MapC (w.alloc (.map #[] 0)) w.heap.size 0 (fun _ => none) :=
  ⟨.map [], World.ownsMap_made _ _ _ _, ⟨fun _ _ => rfl, fun _ _ _ h => (by cases h), fun _ _ => rfl⟩⟩
theorem MapC.keep {w w' : World} {b n : Nat} {C : Cl} (h : MapC w b n C) (hb : w'.heap[b]? = w.heap[b]?) : MapC w' b n C := by
  obtain ⟨D, ⟨es, cl, h1, h2⟩, hr⟩ := h
  exact ⟨D, ⟨es, cl, hb.trans h1, h2⟩, hr⟩
theorem MapC.blk {w : World} {b n : Nat} {C : Cl} (h : MapC w b n C) : ∃ es cl, w.heap[b]? = some (.map es cl) := by
  obtain ⟨D, ⟨es, cl, h1, h2⟩, hr⟩ := h
  exact ⟨es, cl, h1⟩
theorem MapC.lt {w : World} {b n : Nat} {C : Cl} (h : MapC w b n C) : b < w.heap.size := by
  obtain ⟨es, cl, h1⟩ := h.blk
  exact (Array.getElem?_eq_some_iff.1 h1).1

theorem MapC.look {w : World} {b n : Nat} {C : Cl} (h : MapC w b n C) {k : Wt} (hk : k.ok) : (Instr.lookup 75 (.map (some b)) (wtV k) true).run Tryd.prog w = .ok (.tuple #[.int .i64 (cnum (C k)), .bool (C k).isSome]) w := by
  obtain ⟨D, ho, hr⟩ := h
  obtain ⟨v, ps, hrun, hv⟩ := ho.look_ok law68 Tryd.underlying75 (zero70 w) (plainElem_int Tryd.underlying85 (by rfl : (Lit.int .i64 0).wf = true)) (key_mk hk)
  rw [hr.has k hk] at hrun
  obtain ⟨a, rfl, e, _⟩ := plainElem_int_inv Tryd.underlying85 hv
  have : a = cnum (C k) := by
    cases hc : C k with
    | none =>
      have h0 := hr.has k hk
      rw [hc] at h0
      rw [Maps.atKey_of_not_has h0] at e
      simp only [Prod.mk.injEq, DataW.lit.injEq, Lit.int.injEq, true_and] at e
      rw [← e.1]
      rfl
    | some u =>
      rw [hr.at_ k hk u hc] at e
      simp only [Prod.mk.injEq, DataW.lit.injEq, Lit.int.injEq, true_and] at e
      exact e.1.symm
  rw [← this]
  exact hrun

theorem klOf_key (k : Wt) : WideAt.IsKeyLit (klOf k) := by trivial

theorem MapC.put {w : World} {b n : Nat} {C : Cl} (h : MapC w b n C) (hn : n < maxLen) {k : Wt} (hk : k.ok) (u : Bool) : ∃ w', (Instr.mapUpdate 75 (.map (some b)) (wtV k) (.int .i64 (cnum (some u)))).run Tryd.prog w = .ok () w' ∧ MapC w' b (n + 1) (C.set k (some u)) ∧ w.mapTurned w' b := by
  obtain ⟨D, ho, hr⟩ := h
  obtain ⟨w', hrun, h1, h2⟩ := ho.store law68 Tryd.underlying75 hn (key_mk hk) (plainElem_int Tryd.underlying85 (cnum_wf (some u)))
  refine ⟨w', hrun, ⟨_, h1, ⟨fun j hj => ?_, fun j hj v hv z => ?_, fun j hj => ?_⟩⟩, h2⟩
  · by_cases e : j = k
    · subst e
      rw [Cl.set_self, Maps.has_put_same ho.isMap (klOf_key _)]
      rfl
    · rw [Cl.set_other _ _ e, Maps.has_put_other (fun e' => e (klOf_inj hj hk e')), hr.has j hj]
  · by_cases e : j = k
    · subst e
      rw [Cl.set_self] at hv
      cases hv
      exact Maps.atKey_put_same ho.isMap (klOf_key _) _ _
    · rw [Cl.set_other _ _ e] at hv
      rw [Maps.atKey_put_other (fun e' => e (klOf_inj hj hk e'))]
      exact hr.at_ j hj v hv z
  · rw [Cl.set_other _ _ (by rintro rfl; exact hj hk)]
    exact hr.out j hj

theorem rep_del {D : DataW Unit} {C : Cl} (hr : Rep D C) {k : Wt} (hk : k.ok) : Rep (D.del (klOf k)) (C.set k none) := by
  refine ⟨fun j hj => ?_, fun j hj v hv z => ?_, fun j hj => ?_⟩
  · by_cases e : j = k
    · subst e
      rw [Cl.set_self, Maps.has_del_same]
      rfl
    · rw [Cl.set_other _ _ e, Maps.has_del_other (fun e' => e (klOf_inj hj hk e')), hr.has j hj]
  · by_cases e : j = k
    · subst e
      rw [Cl.set_self] at hv
      cases hv
    · rw [Cl.set_other _ _ e] at hv
      rw [Maps.atKey_del_other (fun e' => e (klOf_inj hj hk e'))]
      exact hr.at_ j hj v hv z
  · rw [Cl.set_other _ _ (by rintro rfl; exact hj hk)]
    exact hr.out j hj

theorem MapC.del {w : World} {b n : Nat} {C : Cl} (h : MapC w b n C) {k : Wt} (hk : k.ok) (ty : TypeId) : ∃ w', (Builtin.delete_ #[75, 83] ty #[.map (some b), wtV k]).run Tryd.prog w = .ok (.tuple #[]) w' ∧ MapC w' b n (C.set k none) ∧ w.mapTurned w' b := by
  obtain ⟨D, ho, hr⟩ := h
  obtain ⟨w', hrun, h1, h2⟩ := ho.drop law68 Tryd.underlying75 (key_mk hk) ty
  exact ⟨w', hrun, ⟨_, h1, rep_del hr hk⟩, h2⟩

/-- The map is being gone through: those of lf are still to come. -/
def RanC (w : World) (b r n : Nat) (C : Cl) (lf : Wt → Bool) (cnt : Nat) : Prop := ∃ (D : DataW Unit) (left : Lit → Bool), w.ranges Tryd.prog 83 R70 b r n D left cnt ∧ Rep D C ∧ (∀ k, k.ok → left (klOf k) = lf k) ∧ (∀ k, ¬ k.ok → lf k = false)

theorem RanC.owns {w : World} {b r n : Nat} {C : Cl} {lf : Wt → Bool} {cnt : Nat} (h : RanC w b r n C lf cnt) : MapC w b n C := by
  obtain ⟨D, left, h1, h2, h3⟩ := h
  exact ⟨D, h1.owns, h2⟩
theorem RanC.left_eq {w : World} {b r n : Nat} {C : Cl} {lf : Wt → Bool} {cnt : Nat} (h : RanC w b r n C lf cnt) : w.rangeLeft b r = cnt := by
  obtain ⟨D, left, h1, h2, h3⟩ := h
  exact h1.left_eq
theorem RanC.kept {w w' : World} {b r n : Nat} {C : Cl} {lf : Wt → Bool} {cnt : Nat} (h : RanC w b r n C lf cnt) (hs : w.heap.size ≤ w'.heap.size) (hb : w'.heap[b]? = w.heap[b]?) (hr : w'.heap[r]? = w.heap[r]?) : RanC w' b r n C lf cnt := by
  obtain ⟨D, left, ⟨es, clock, since, seen, c0, hb', F, hsz, hD, hr', rest⟩, h2, h3⟩ := h
  exact ⟨D, left, ⟨es, clock, since, seen, c0, hb.trans hb', F, hsz, hD, hr.trans hr', rest⟩, h2, h3⟩
theorem RanC.ne {w : World} {b r n : Nat} {C : Cl} {lf : Wt → Bool} {cnt : Nat} (h : RanC w b r n C lf cnt) : r ≠ b := by
  obtain ⟨D, left, h1, h2, h3⟩ := h
  exact h1.ne
theorem RanC.lt {w : World} {b r n : Nat} {C : Cl} {lf : Wt → Bool} {cnt : Nat} (h : RanC w b r n C lf cnt) : r < w.heap.size := by
  obtain ⟨D, left, h1, h2, h3⟩ := h
  exact h1.lt

/-- Those that are still to come, but k. -/
def strike (lf : Wt → Bool) (k : Wt) : Wt → Bool := fun j => lf j && !decide (j.c = k.c ∧ j.p = k.p ∧ j.o = k.o ∧ j.wr = k.wr)

section
variable (w : World) {ops : Array Oper} {rest : List Oper} {o : Oper} {a : Act} {Q : Exit → Act → World → Prop}

theorem wpList_range_C (hg : o.guard = none) (m : Operand) (hop : o.op = Op.range 75 m) {b n : Nat} {C : Cl} (hm : a.eval m = .map (some b)) (h : MapC w b n C)
    (hK : ∀ w' cnt, RanC w' b w.heap.size n C (fun k => (C k).isSome) cnt → Below w.heap.size w w' → w'.heap.size = w.heap.size + 1 → wpList Tryd.prog ops Q rest (a.put o.dst (.pointer (some ⟨w.heap.size, 0, none⟩))) w') : wpList Tryd.prog ops Q (o :: rest) a w := by
  obtain ⟨D, ho, hr⟩ := h
  refine wpList_range_own w hg m 75 hop 83 85 law68 Tryd.underlying75 R70 b n D hm ho fun w' h1 h2 h3 => hK w' _ ⟨D, _, h1, hr, fun k hk => hr.has k hk, fun k hk => by simp only [hr.out k hk]; rfl⟩ ⟨h2.os, h2.tape, h2.output, h2.size, fun k hk => h2.block k hk (by simp)⟩ h3

theorem wpList_next_C (hg : o.guard = none) (it : Operand) (hop : o.op = Op.next it false) {b r n : Nat} {C : Cl} {lf : Wt → Bool} {cnt : Nat} (hit : a.eval it = .pointer (some ⟨r, 0, none⟩)) (h : RanC w b r n C lf cnt)
    (hDone : (∀ k, lf k = false) → wpList Tryd.prog ops Q rest (a.put o.dst (.tuple #[.bool false])) w)
    (hMore : ∀ (k : Wt) (c : Int) (w' : World) (cnt' : Nat), k.ok → lf k = true → (c = 0 ∨ c = 1) → C k = some (decide (c = 1)) → RanC w' b r n C (strike lf k) cnt' → cnt' < cnt → w.grownBy w' (some r) → w'.heap.size = w.heap.size →
      (Instr.entry (.pointer (some ⟨r, 0, none⟩))).run Tryd.prog w' = .ok (.tuple #[wtV k, .int .i64 c]) w' → wpList Tryd.prog ops Q rest (a.put o.dst (.tuple #[.bool true, wtV k, .int .i64 c])) w') : wpList Tryd.prog ops Q (o :: rest) a w := by
  obtain ⟨D, left, h1, hr, hl, hlo⟩ := h
  refine wpList_next_ranges w hg it hop 83 law68 R70 wtV (Value.int .i64) (fun key kl hkey => by obtain ⟨k, _, rfl, _⟩ := key_inv hkey; exact ⟨k, rfl⟩) (fun v y hv => by obtain ⟨c, rfl, _⟩ := plainElem_int_inv Tryd.underlying85 hv; exact ⟨c, rfl⟩) b r n D left cnt hit h1 (fun _ h0 => hDone fun k => ?_) (fun k c kl y w' cnt' hkey hlk hv hat hrg hlt hgr hsz hen => ?_)
  · by_cases hk : k.ok
    · rw [← hl k hk]; exact h0 _
    · exact hlo k hk
  · obtain ⟨k', hk', ek, rfl⟩ := key_inv hkey
    have e1 : k' = k := by
      obtain ⟨a, b, c, d⟩ := k
      obtain ⟨a', b', c', d'⟩ := k'
      simp only [wtV, Value.agg.injEq, Array.mk.injEq, List.cons.injEq, Value.int.injEq, true_and, Value.bool.injEq, and_true] at ek
      obtain ⟨rfl, rfl, rfl, rfl⟩ := ek
      rfl
    subst e1
    obtain ⟨c', ec, rfl, hwc⟩ := plainElem_int_inv Tryd.underlying85 hv
    cases ec
    have hlf : lf k' = true := by rw [← hl k' hk']; exact hlk
    have hsome : (C k').isSome = true := by
      rw [← hr.has k' hk']
      exact Maps.has_true_of_atKey hat
    obtain ⟨u, hu⟩ := Option.isSome_iff_exists.1 hsome
    have hc : c = cnum (some u) := by
      have h2 := hr.at_ k' hk' u hu (.lit (.bool true))
      rw [hat] at h2
      simpa using h2
    refine hMore k' c w' cnt' hk' hlf (by rw [hc]; cases u <;> simp [cnum]) (by rw [hu, hc]; cases u <;> rfl) ⟨D, _, hrg, hr, fun j hj => ?_, fun j hj => ?_⟩ hlt hgr hsz hen
    · show (left (klOf j) && !(klOf j).sameKey (klOf k')) = _
      unfold strike
      rw [hl j hj]
      congr 2
      by_cases e : j = k'
      · subst e
        rw [WideAt.sameKey_self (klOf_key _)]
        simp
      · rw [Maps.sameKey_ne (fun e' => e (klOf_inj hj hk' e'))]
        symm
        exact decide_eq_false (fun e' => e (wt_eq.1 e'))
    · simp [strike, hlo j hj]

end

theorem RanC.drop {w : World} {b r n : Nat} {C : Cl} {lf : Wt → Bool} {cnt : Nat} (h : RanC w b r n C lf cnt) {k : Wt} (hk : k.ok) (hlf : lf k = false) (ty : TypeId) : ∃ w' cnt', (Builtin.delete_ #[75, 83] ty #[.map (some b), wtV k]).run Tryd.prog w = .ok (.tuple #[]) w' ∧ RanC w' b r n (C.set k none) lf cnt' ∧ cnt' ≤ cnt ∧ w.mapTurned w' b := by
  obtain ⟨D, left, h1, hr, hl, hlo⟩ := h
  obtain ⟨w', cnt', hrun, h2, h3, h4⟩ := h1.drop law68 Tryd.underlying75 (key_mk hk) ty
  refine ⟨w', cnt', hrun, ⟨_, _, h2, rep_del hr hk, fun j hj => ?_, hlo⟩, h3, h4⟩
  show (left (klOf j) && !(klOf j).sameKey (klOf k)) = _
  rw [hl j hj]
  by_cases e : j = k
  · subst e
    rw [hlf]
    rfl
  · rw [Maps.sameKey_ne (fun e' => e (klOf_inj hj hk e'))]
    simp

end Go.Proofs.YtllggjkhbecalaaDoor
