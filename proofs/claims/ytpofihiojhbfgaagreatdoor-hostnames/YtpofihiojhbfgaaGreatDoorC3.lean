/- Wants and calls as values; the calls' map: what is looked up, stored, taken out. No walk. A queue in memory; New, isClient, isObject, inTheWay, callFor, place, All, Ahead, Reserved, walked. New, All, Ahead, Reserved of package queue, walked. Reserved, Add, Remove of package queue, walked. -/
import Derived.Test.YtpofihiojhbfgaaGreatDoorB4
import Derived.Maps.RangeWalk
import Derived.DeepKeys4
import Derived.Deep.RegionHeld
import Derived.Handy
namespace Go.Proofs.YtpofihiojhbfgaaGreatDoor.Dsk
open Go.RowKit Go.Maps
set_option linter.unusedVariables false
set_option maxRecDepth 8000

structure Wt where
  c : Int
  p : Int
  o : Int
  wr : Bool

abbrev wtV (x : Wt) : Value := .agg #[.int .i64 x.c, .int .i64 x.p, .int .i64 x.o, .bool x.wr]
abbrev wtO (x : Wt) : Obj := .cells #[.int .i64 x.c, .int .i64 x.p, .int .i64 x.o, .bool x.wr] 208
abbrev caO (x : Wt) : Obj := .cells #[.int .i64 x.c, .int .i64 x.p, .int .i64 x.o, .bool x.wr] 189
def wtC (x : Wt) : List Value := [.int .i64 x.c, .int .i64 x.p, .int .i64 x.o, .bool x.wr]
theorem wtE : Enc wtC 4 := ⟨fun _ => rfl, fun x u hu => by simp only [wtC, List.mem_cons, List.not_mem_nil, or_false] at hu; rcases hu with rfl | rfl | rfl | rfl <;> rfl, by decide⟩

theorem info29 : (Tryz.prog.info? 208).map (fun i => (i.zero, i.size, i.bytes)) = some (some (.agg #[.int .i64 0, .int .i64 0, .int .i64 0, .bool false]), 4, 32) := by kernel_rfl
theorem info3 : (Tryz.prog.info? 3).map (fun i => (i.zero, i.size, i.bytes)) = some (some (.int .i64 0), 1, 8) := by kernel_rfl

def inR (x : Int) : Prop := -9223372036854775808 ≤ x ∧ x ≤ 9223372036854775807
def Wt.ok (k : Wt) : Prop := inR k.c ∧ inR k.p ∧ inR k.o

theorem laidOut : laidOutB Tryz.prog = true := by kernel_rfl
theorem row68 : (189 : TypeId) < Tryz.prog.types.size := of_decide_eq_true (by kernel_rfl)
theorem cells68 : Tryz.prog.cellsOf 189 = 4 := by kernel_rfl
theorem cells3 : Tryz.prog.cellsOf 3 = 1 := by kernel_rfl
theorem cells4 : Tryz.prog.cellsOf 4 = 1 := by kernel_rfl
theorem deep68 : Tryz.prog.keyType 189 = true := by kernel_rfl
theorem wide68 : (match Tryz.prog.underlying 189 with | some (.array _ _) | some (.struct _) => true | _ => false) = true := by rw [Tryz.underlying189]
theorem law68 : Keyed Tryz.prog 189 := Keyed.of_law (deep_law_laid laidOut (m := 3) (by omega) row68 (by kernel_rfl) wide68)
theorem zero70 (w : World) : (zeroValue 243).run Tryz.prog w = .ok (.int .i64 0) w := by kernel_rfl

theorem formed68 {v : Value} (h : v.formed Tryz.prog 189 = true) : ∃ a b c d, v = .agg #[a, b, c, d] := by
  unfold Value.formed at h
  rw [Tryz.underlying189] at h
  cases v <;> simp [cells68] at h
  rename_i xs
  obtain ⟨l⟩ := xs
  match l, h with
  | [a, b, c, d], _ => exact ⟨a, b, c, d, rfl⟩

theorem wf64 {n : Int} : (Lit.int .i64 n).wf = true ↔ inR n := by
  simp [Lit.wf, inR, IntKind.min, IntKind.max, IntKind.signed, IntKind.bits]

def klOf (k : Wt) : Lit := .string (keyBytes [.int .i64 k.c, .int .i64 k.p, .int .i64 k.o, .bool k.wr])

theorem keyLits68 (a b c d : Value) (D : Nat) : Tryz.prog.keyLits (D + 2) 189 [a, b, c, d] = (do
    let x ← Tryz.prog.keyLits (D + 1) 3 [a]
    let y ← Tryz.prog.keyLits (D + 1) 3 [b]
    let z ← Tryz.prog.keyLits (D + 1) 3 [c]
    let u ← Tryz.prog.keyLits (D + 1) 4 [d]
    pure (x ++ (y ++ (z ++ u)))) := by
  conv => lhs; unfold Program.keyLits
  rw [Tryz.underlying189]
  simp only [cells68, List.length_cons, List.length_nil, List.mapM_cons, List.mapM_nil, cells3, cells4]
  cases h1 : Tryz.prog.keyLits (D + 1) 3 [a] <;> cases h2 : Tryz.prog.keyLits (D + 1) 3 [b] <;> cases h3 : Tryz.prog.keyLits (D + 1) 3 [c] <;> cases h4 : Tryz.prog.keyLits (D + 1) 4 [d] <;> simp [h1, h2, h3, h4]

theorem key_mk {k : Wt} (h : k.ok) : keyOf Tryz.prog 189 (wtV k) = some (klOf k) := by
  unfold keyOf
  rw [Tryz.underlying189]
  have hf : (wtV k).formed Tryz.prog 189 = true := by simp [Value.formed, Tryz.underlying189, cells68]
  have e : Tryz.prog.types.size + 1 = (Tryz.prog.types.size - 1) + 2 := by
    have h : (189 : Nat) < Tryz.prog.types.size := row68
    omega
  simp only [deep68, hf, Bool.and_self, if_true]
  have hc : (wtV k).cells.toList = [.int .i64 k.c, .int .i64 k.p, .int .i64 k.o, .bool k.wr] := rfl
  rw [hc, e, keyLits68]
  obtain ⟨h1, h2, h3⟩ := h
  simp [Program.keyLits, Tryz.underlying3, Tryz.underlying4, wf64.2 h1, wf64.2 h2, wf64.2 h3, klOf]

theorem key_inv {v : Value} {l : Lit} (h : keyOf Tryz.prog 189 v = some l) : ∃ k : Wt, k.ok ∧ v = wtV k ∧ l = klOf k := by
  have h0 := h
  unfold keyOf at h
  rw [Tryz.underlying189] at h
  simp only [deep68, Bool.true_and] at h
  split at h
  · rename_i hf
    obtain ⟨a, b, c, d, rfl⟩ := formed68 hf
    have e : Tryz.prog.types.size + 1 = (Tryz.prog.types.size - 1) + 2 := by
      have h : (189 : Nat) < Tryz.prog.types.size := row68
      omega
    have hc : (Value.agg #[a, b, c, d]).cells.toList = [a, b, c, d] := rfl
    rw [hc, e, keyLits68] at h
    have g3 : ∀ (u : Value) (D : Nat), Tryz.prog.keyLits (D + 1) 3 [u] = none ∨ ∃ n : Int, u = .int .i64 n ∧ inR n := by
      intro u D
      cases hk : Tryz.prog.keyLits (D + 1) 3 [u] with
      | none => exact .inl rfl
      | some x =>
        refine .inr ?_
        unfold Program.keyLits at hk
        rw [Tryz.underlying3] at hk
        cases u <;> simp at hk
        rename_i q n
        obtain ⟨⟨rfl, hw⟩, _⟩ := hk
        exact ⟨n, rfl, wf64.1 hw⟩
    have g4 : ∀ (u : Value) (D : Nat), Tryz.prog.keyLits (D + 1) 4 [u] = none ∨ ∃ n : Bool, u = .bool n := by
      intro u D
      cases hk : Tryz.prog.keyLits (D + 1) 4 [u] with
      | none => exact .inl rfl
      | some x =>
        refine .inr ?_
        unfold Program.keyLits at hk
        rw [Tryz.underlying4] at hk
        cases u <;> simp at hk
        exact ⟨_, rfl⟩
    rcases g3 a _ with e1 | ⟨x, rfl, hx⟩
    · rw [e1] at h; cases h
    rcases g3 b _ with e1 | ⟨y, rfl, hy⟩
    · rw [e1] at h; generalize Tryz.prog.keyLits (Tryz.prog.types.size - 1 + 1) 3 [.int .i64 x] = o1 at h; cases o1 <;> simp at h
    rcases g3 c _ with e1 | ⟨z, rfl, hz⟩
    · rw [e1] at h; generalize Tryz.prog.keyLits (Tryz.prog.types.size - 1 + 1) 3 [.int .i64 x] = o1 at h; generalize Tryz.prog.keyLits (Tryz.prog.types.size - 1 + 1) 3 [.int .i64 y] = o2 at h; cases o1 <;> cases o2 <;> simp at h
    rcases g4 d _ with e1 | ⟨u, rfl⟩
    · rw [e1] at h; generalize Tryz.prog.keyLits (Tryz.prog.types.size - 1 + 1) 3 [.int .i64 x] = o1 at h; generalize Tryz.prog.keyLits (Tryz.prog.types.size - 1 + 1) 3 [.int .i64 y] = o2 at h; generalize Tryz.prog.keyLits (Tryz.prog.types.size - 1 + 1) 3 [.int .i64 z] = o3 at h; cases o1 <;> cases o2 <;> cases o3 <;> simp at h
    refine ⟨⟨x, y, z, u⟩, ⟨hx, hy, hz⟩, rfl, ?_⟩
    have := key_mk (k := ⟨x, y, z, u⟩) ⟨hx, hy, hz⟩
    rw [h0] at this
    exact Option.some.inj this
  · cases h

theorem klOf_inj {k j : Wt} (hk : k.ok) (hj : j.ok) (h : klOf k = klOf j) : k = j := by
  have h1 := key_mk hk
  rw [h] at h1
  have h2 := law68.inj h1 (key_mk hj)
  obtain ⟨a, b, c, d⟩ := k
  obtain ⟨a', b', c', d'⟩ := j
  simp only [wtV, Value.agg.injEq, Array.mk.injEq, List.cons.injEq, Value.int.injEq, true_and, Value.bool.injEq, and_true] at h2
  obtain ⟨rfl, rfl, rfl, rfl⟩ := h2
  rfl

abbrev Cl := Wt → Option Bool
def cnum (u : Option Bool) : Int := if u = some true then 1 else 0
def Cl.set (C : Cl) (k : Wt) (u : Option Bool) : Cl := fun j => if j.c = k.c ∧ j.p = k.p ∧ j.o = k.o ∧ j.wr = k.wr then u else C j
theorem wt_eq {j k : Wt} : (j.c = k.c ∧ j.p = k.p ∧ j.o = k.o ∧ j.wr = k.wr) ↔ j = k := by
  obtain ⟨a, b, c, d⟩ := k
  obtain ⟨a', b', c', d'⟩ := j
  simp
theorem Cl.set_self (C : Cl) (k : Wt) (u : Option Bool) : C.set k u k = u := by simp [Cl.set]
theorem Cl.set_other (C : Cl) {k j : Wt} (u : Option Bool) (h : j ≠ k) : C.set k u j = C j := by
  unfold Cl.set
  rw [if_neg (fun e => h (wt_eq.1 e))]

structure Rep (D : DataW Unit) (C : Cl) : Prop where
  has : ∀ k, k.ok → Maps.has D (klOf k) = (C k).isSome
  at_ : ∀ k, k.ok → ∀ u, C k = some u → ∀ z, D.atKey (klOf k) z = .lit (.int .i64 (cnum (some u)))
  out : ∀ k, ¬ k.ok → C k = none

noncomputable abbrev R70 : Value → Option (DataW Unit × List MemPlace) := plainElem Tryz.prog 243

def MapC (w : World) (b n : Nat) (C : Cl) : Prop := ∃ D : DataW Unit, w.ownsMap Tryz.prog 189 R70 b n D ∧ Rep D C

theorem cnum_wf (u : Option Bool) : (Lit.int .i64 (cnum u)).wf = true := wf64.2 (by unfold cnum inR; split <;> omega)

theorem MapC.new (w : World) : MapC (w.alloc (.map #[] 0)) w.heap.size 0 (fun _ => none) :=
  ⟨.map [], World.ownsMap_made _ _ _ _, ⟨fun _ _ => rfl, fun _ _ _ h => (by cases h), fun _ _ => rfl⟩⟩
theorem MapC.keep {w w' : World} {b n : Nat} {C : Cl} (h : MapC w b n C) (hb : w'.heap[b]? = w.heap[b]?) : MapC w' b n C := by
  obtain ⟨D, ⟨es, cl, h1, h2⟩, hr⟩ := h
  exact ⟨D, ⟨es, cl, hb.trans h1, h2⟩, hr⟩
theorem MapC.blk {w : World} {b n : Nat} {C : Cl} (h : MapC w b n C) : ∃ es cl, w.heap[b]? = some (.map es cl) := by
  obtain ⟨D, ⟨es, cl, h1, h2⟩, hr⟩ := h
  exact ⟨es, cl, h1⟩
theorem MapC.lt {w : World} {b n : Nat} {C : Cl} (h : MapC w b n C) : b < w.heap.size := by
  obtain ⟨es, cl, h1⟩ := h.blk
  exact (Array.getElem?_eq_some_iff.1 h1).1

theorem MapC.look {w : World} {b n : Nat} {C : Cl} (h : MapC w b n C) {k : Wt} (hk : k.ok) : (Instr.lookup 173 (.map (some b)) (wtV k) true).run Tryz.prog w = .ok (.tuple #[.int .i64 (cnum (C k)), .bool (C k).isSome]) w := by
  obtain ⟨D, ho, hr⟩ := h
  obtain ⟨v, ps, hrun, hv⟩ := ho.look_ok law68 Tryz.underlying173 (zero70 w) (plainElem_int Tryz.underlying243 (by rfl : (Lit.int .i64 0).wf = true)) (key_mk hk)
  rw [hr.has k hk] at hrun
  obtain ⟨a, rfl, e, _⟩ := plainElem_int_inv Tryz.underlying243 hv
  have : a = cnum (C k) := by
    cases hc : C k with
    | none =>
      have h0 := hr.has k hk
      rw [hc] at h0
      rw [Maps.atKey_of_not_has h0] at e
      simp only [Prod.mk.injEq, DataW.lit.injEq, Lit.int.injEq, true_and] at e
      rw [← e.1]
      rfl
    | some u =>
      rw [hr.at_ k hk u hc] at e
      simp only [Prod.mk.injEq, DataW.lit.injEq, Lit.int.injEq, true_and] at e
      exact e.1.symm
  rw [← this]
  exact hrun

theorem klOf_key (k : Wt) : WideAt.IsKeyLit (klOf k) := by trivial

theorem MapC.put {w : World} {b n : Nat} {C : Cl} (h : MapC w b n C) (hn : n < maxLen) {k : Wt} (hk : k.ok) (u : Bool) : ∃ w', (Instr.mapUpdate 173 (.map (some b)) (wtV k) (.int .i64 (cnum (some u)))).run Tryz.prog w = .ok () w' ∧ MapC w' b (n + 1) (C.set k (some u)) ∧ w.mapTurned w' b := by
  obtain ⟨D, ho, hr⟩ := h
  obtain ⟨w', hrun, h1, h2⟩ := ho.store law68 Tryz.underlying173 hn (key_mk hk) (plainElem_int Tryz.underlying243 (cnum_wf (some u)))
  refine ⟨w', hrun, ⟨_, h1, ⟨fun j hj => ?_, fun j hj v hv z => ?_, fun j hj => ?_⟩⟩, h2⟩
  · by_cases e : j = k
    · subst e
      rw [Cl.set_self, Maps.has_put_same ho.isMap (klOf_key _)]
      rfl
    · rw [Cl.set_other _ _ e, Maps.has_put_other (fun e' => e (klOf_inj hj hk e')), hr.has j hj]
  · by_cases e : j = k
    · subst e
      rw [Cl.set_self] at hv
      cases hv
      exact Maps.atKey_put_same ho.isMap (klOf_key _) _ _
    · rw [Cl.set_other _ _ e] at hv
      rw [Maps.atKey_put_other (fun e' => e (klOf_inj hj hk e'))]
      exact hr.at_ j hj v hv z
  · rw [Cl.set_other _ _ (by rintro rfl; exact hj hk)]
    exact hr.out j hj

theorem rep_del {D : DataW Unit} {C : Cl} (hr : Rep D C) {k : Wt} (hk : k.ok) : Rep (D.del (klOf k)) (C.set k none) := by
  refine ⟨fun j hj => ?_, fun j hj v hv z => ?_, fun j hj => ?_⟩
  · by_cases e : j = k
    · subst e
      rw [Cl.set_self, Maps.has_del_same]
      rfl
    · rw [Cl.set_other _ _ e, Maps.has_del_other (fun e' => e (klOf_inj hj hk e')), hr.has j hj]
  · by_cases e : j = k
    · subst e
      rw [Cl.set_self] at hv
      cases hv
    · rw [Cl.set_other _ _ e] at hv
      rw [Maps.atKey_del_other (fun e' => e (klOf_inj hj hk e'))]
      exact hr.at_ j hj v hv z
  · rw [Cl.set_other _ _ (by rintro rfl; exact hj hk)]
    exact hr.out j hj

theorem MapC.del {w : World} {b n : Nat} {C : Cl} (h : MapC w b n C) {k : Wt} (hk : k.ok) (ty : TypeId) : ∃ w', (Builtin.delete_ #[173, 189] ty #[.map (some b), wtV k]).run Tryz.prog w = .ok (.tuple #[]) w' ∧ MapC w' b n (C.set k none) ∧ w.mapTurned w' b := by
  obtain ⟨D, ho, hr⟩ := h
  obtain ⟨w', hrun, h1, h2⟩ := ho.drop law68 Tryz.underlying173 (key_mk hk) ty
  exact ⟨w', hrun, ⟨_, h1, rep_del hr hk⟩, h2⟩

def RanC (w : World) (b r n : Nat) (C : Cl) (lf : Wt → Bool) (cnt : Nat) : Prop := ∃ (D : DataW Unit) (left : Lit → Bool), w.ranges Tryz.prog 189 R70 b r n D left cnt ∧ Rep D C ∧ (∀ k, k.ok → left (klOf k) = lf k) ∧ (∀ k, ¬ k.ok → lf k = false)

theorem RanC.left_eq {w : World} {b r n : Nat} {C : Cl} {lf : Wt → Bool} {cnt : Nat} (h : RanC w b r n C lf cnt) : w.rangeLeft b r = cnt := by
  obtain ⟨D, left, h1, h2, h3⟩ := h
  exact h1.left_eq
theorem RanC.kept {w w' : World} {b r n : Nat} {C : Cl} {lf : Wt → Bool} {cnt : Nat} (h : RanC w b r n C lf cnt) (hs : w.heap.size ≤ w'.heap.size) (hb : w'.heap[b]? = w.heap[b]?) (hr : w'.heap[r]? = w.heap[r]?) : RanC w' b r n C lf cnt := by
  obtain ⟨D, left, ⟨es, clock, since, seen, c0, hb', F, hsz, hD, hr', rest⟩, h2, h3⟩ := h
  exact ⟨D, left, ⟨es, clock, since, seen, c0, hb.trans hb', F, hsz, hD, hr.trans hr', rest⟩, h2, h3⟩
theorem RanC.lt {w : World} {b r n : Nat} {C : Cl} {lf : Wt → Bool} {cnt : Nat} (h : RanC w b r n C lf cnt) : r < w.heap.size := by
  obtain ⟨D, left, h1, h2, h3⟩ := h
  exact h1.lt

def strike (lf : Wt → Bool) (k : Wt) : Wt → Bool := fun j => lf j && !decide (j.c = k.c ∧ j.p = k.p ∧ j.o = k.o ∧ j.wr = k.wr)

section
variable (w : World) {ops : Array Oper} {rest : List Oper} {o : Oper} {a : Act} {Q : Exit → Act → World → Prop}

theorem wpList_range_C (hg : o.guard = none) (m : Operand) (hop : o.op = Op.range 173 m) {b n : Nat} {C : Cl} (hm : a.eval m = .map (some b)) (h : MapC w b n C)
    (hK : ∀ w' cnt, RanC w' b w.heap.size n C (fun k => (C k).isSome) cnt → Below w.heap.size w w' → w'.heap.size = w.heap.size + 1 → wpList Tryz.prog ops Q rest (a.put o.dst (.pointer (some ⟨w.heap.size, 0, none⟩))) w') : wpList Tryz.prog ops Q (o :: rest) a w := by
  obtain ⟨D, ho, hr⟩ := h
  refine wpList_range_own w hg m 173 hop 189 243 law68 Tryz.underlying173 R70 b n D hm ho fun w' h1 h2 h3 => hK w' _ ⟨D, _, h1, hr, fun k hk => hr.has k hk, fun k hk => by simp only [hr.out k hk]; rfl⟩ ⟨h2.os, h2.tape, h2.output, h2.size, fun k hk => h2.block k hk (by simp)⟩ h3

theorem wpList_next_C (hg : o.guard = none) (it : Operand) (hop : o.op = Op.next it false) {b r n : Nat} {C : Cl} {lf : Wt → Bool} {cnt : Nat} (hit : a.eval it = .pointer (some ⟨r, 0, none⟩)) (h : RanC w b r n C lf cnt)
    (hDone : (∀ k, lf k = false) → wpList Tryz.prog ops Q rest (a.put o.dst (.tuple #[.bool false])) w)
    (hMore : ∀ (k : Wt) (c : Int) (w' : World) (cnt' : Nat), k.ok → lf k = true → (c = 0 ∨ c = 1) → C k = some (decide (c = 1)) → RanC w' b r n C (strike lf k) cnt' → cnt' < cnt → w.grownBy w' (some r) → w'.heap.size = w.heap.size →
      (Instr.entry (.pointer (some ⟨r, 0, none⟩))).run Tryz.prog w' = .ok (.tuple #[wtV k, .int .i64 c]) w' → wpList Tryz.prog ops Q rest (a.put o.dst (.tuple #[.bool true, wtV k, .int .i64 c])) w') : wpList Tryz.prog ops Q (o :: rest) a w := by
  obtain ⟨D, left, h1, hr, hl, hlo⟩ := h
  refine wpList_next_ranges w hg it hop 189 law68 R70 wtV (Value.int .i64) (fun key kl hkey => by obtain ⟨k, _, rfl, _⟩ := key_inv hkey; exact ⟨k, rfl⟩) (fun v y hv => by obtain ⟨c, rfl, _⟩ := plainElem_int_inv Tryz.underlying243 hv; exact ⟨c, rfl⟩) b r n D left cnt hit h1 (fun _ h0 => hDone fun k => ?_) (fun k c kl y w' cnt' hkey hlk hv hat hrg hlt hgr hsz hen => ?_)
  · by_cases hk : k.ok
    · rw [← hl k hk]; exact h0 _
    · exact hlo k hk
  · obtain ⟨k', hk', ek, rfl⟩ := key_inv hkey
    have e1 : k' = k := by
      obtain ⟨a, b, c, d⟩ := k
      obtain ⟨a', b', c', d'⟩ := k'
      simp only [wtV, Value.agg.injEq, Array.mk.injEq, List.cons.injEq, Value.int.injEq, true_and, Value.bool.injEq, and_true] at ek
      obtain ⟨rfl, rfl, rfl, rfl⟩ := ek
      rfl
    subst e1
    obtain ⟨c', ec, rfl, hwc⟩ := plainElem_int_inv Tryz.underlying243 hv
    cases ec
    have hlf : lf k' = true := by rw [← hl k' hk']; exact hlk
    have hsome : (C k').isSome = true := by
      rw [← hr.has k' hk']
      exact Maps.has_true_of_atKey hat
    obtain ⟨u, hu⟩ := Option.isSome_iff_exists.1 hsome
    have hc : c = cnum (some u) := by
      have h2 := hr.at_ k' hk' u hu (.lit (.bool true))
      rw [hat] at h2
      simpa using h2
    refine hMore k' c w' cnt' hk' hlf (by rw [hc]; cases u <;> simp [cnum]) (by rw [hu, hc]; cases u <;> rfl) ⟨D, _, hrg, hr, fun j hj => ?_, fun j hj => ?_⟩ hlt hgr hsz hen
    · show (left (klOf j) && !(klOf j).sameKey (klOf k')) = _
      unfold strike
      rw [hl j hj]
      congr 2
      by_cases e : j = k'
      · subst e
        rw [WideAt.sameKey_self (klOf_key _)]
        simp
      · rw [Maps.sameKey_ne (fun e' => e (klOf_inj hj hk' e'))]
        symm
        exact decide_eq_false (fun e' => e (wt_eq.1 e'))
    · simp [strike, hlo j hj]

end

end Go.Proofs.YtpofihiojhbfgaaGreatDoor.Dsk

namespace Go.Proofs.YtpofihiojhbfgaaGreatDoor.Dsk
open Go.RowKit Go.Maps
set_option linter.unusedVariables false
set_option maxRecDepth 8000

abbrev qp (q : Nat) : Value := .pointer (some ⟨q, 0, none⟩)

structure Qu (w : World) (A : Nat → Prop) (q : Nat) (ao : Option Addr) (cap b : Nat) (L : List Wt) (C : Cl) (n : Nat) : Prop where
  blk : w.heap[q]? = some (.cells #[.slice ao L.length cap, .map (some b)] 176 (0, 0))
  own : OwR wtC 4 208 w ao cap L
  map : MapC w b n C
  aq : A q
  ab : A b
  ar : ∀ a, ao = some a → A a.block

section
variable {w w' : World} {A : Nat → Prop} {q : Nat} {ao : Option Addr} {cap b : Nat} {L : List Wt} {C : Cl} {n : Nat}
theorem Qu.lt (h : Qu w A q ao cap b L C n) : q < w.heap.size := (Array.getElem?_eq_some_iff.1 h.blk).1
theorem Qu.c0 (h : Qu w A q ao cap b L C n) : w.cell? ⟨q, 0, none⟩ = some (.slice ao L.length cap) := by rw [cell_of_row _ _ _ _ _ _ h.blk]; rfl
theorem Qu.c1 (h : Qu w A q ao cap b L C n) : w.cell? ⟨q, 1, none⟩ = some (.map (some b)) := by rw [cell_of_row _ _ _ _ _ _ h.blk]; rfl
theorem Qu.ne (h : Qu w A q ao cap b L C n) : b ≠ q := by
  rintro rfl
  obtain ⟨es, cl, h1⟩ := h.map.blk
  rw [h.blk] at h1
  cases h1
theorem Qu.ner (h : Qu w A q ao cap b L C n) : ∀ a, ao = some a → a.block ≠ q ∧ a.block ≠ b := by
  intro a ha
  obtain ⟨_, cur, h1⟩ := h.own.lt a ha
  refine ⟨fun e => ?_, fun e => ?_⟩
  · rw [e, h.blk] at h1
    cases h1
  · obtain ⟨es, cl, h2⟩ := h.map.blk
    rw [e, h2] at h1
    cases h1
theorem Qu.keep (h : Qu w A q ao cap b L C n) (hk : ∀ k, A k → k < w.heap.size → w'.heap[k]? = w.heap[k]?) : Qu w' A q ao cap b L C n :=
  ⟨(hk q h.aq h.lt).trans h.blk, h.own.keep fun a ha hl => hk _ (h.ar a ha) hl, h.map.keep (hk b h.ab h.map.lt), h.aq, h.ab, h.ar⟩
theorem Qu.below (h : Qu w A q ao cap b L C n) (hb : Below w.heap.size w w') : Qu w' A q ao cap b L C n := h.keep fun k _ hk => hb.block k hk
theorem Qu.mono {B : Nat → Prop} (h : Qu w A q ao cap b L C n) (hB : ∀ k, k < w.heap.size → A k → B k) : Qu w B q ao cap b L C n :=
  ⟨h.blk, h.own, h.map, hB q h.lt h.aq, hB b h.map.lt h.ab, fun a ha => hB _ (h.own.lt a ha).1 (h.ar a ha)⟩
theorem Qu.len (h : Qu w A q ao cap b L C n) : L.length ≤ cap := h.own.le
end

def Qw (w : World) (A : Nat → Prop) (q : Nat) (L : List Wt) (C : Cl) (n : Nat) : Prop := ∃ ao cap b, Qu w A q ao cap b L C n
def Nx (w w' : World) (A : Nat → Prop) (q : Nat) (L : List Wt) (C : Cl) (n : Nat) : Prop := Qw w' (fun k => A k ∨ w.heap.size ≤ k) q L C n ∧ OffS A w w'

theorem Qw.below {w w' : World} {A : Nat → Prop} {q : Nat} {L : List Wt} {C : Cl} {n : Nat} (h : Qw w A q L C n) (hb : Below w.heap.size w w') : Qw w' A q L C n := by
  obtain ⟨ao, cap, b, h⟩ := h
  exact ⟨ao, cap, b, h.below hb⟩
theorem Qw.mono {w : World} {A B : Nat → Prop} {q : Nat} {L : List Wt} {C : Cl} {n : Nat} (h : Qw w A q L C n) (hB : ∀ k, k < w.heap.size → A k → B k) : Qw w B q L C n := by
  obtain ⟨ao, cap, b, h⟩ := h
  exact ⟨ao, cap, b, h.mono hB⟩
theorem Qw.keep {w w' : World} {A : Nat → Prop} {q : Nat} {L : List Wt} {C : Cl} {n : Nat} (h : Qw w A q L C n) (hk : ∀ k, A k → k < w.heap.size → w'.heap[k]? = w.heap[k]?) : Qw w' A q L C n := by
  obtain ⟨ao, cap, b, h⟩ := h
  exact ⟨ao, cap, b, h.keep hk⟩
theorem Qw.le {w : World} {A : Nat → Prop} {q : Nat} {L : List Wt} {C : Cl} {n m : Nat} (h : Qw w A q L C n) (hm : n ≤ m) : Qw w A q L C m := by
  obtain ⟨ao, cap, b, h⟩ := h
  obtain ⟨D, h1, h2⟩ := h.map
  exact ⟨ao, cap, b, ⟨h.blk, h.own, ⟨D, h1.mono hm, h2⟩, h.aq, h.ab, h.ar⟩⟩

theorem wtIn (x : Wt) (w : World) (g o : Nat) (h : ∀ j u, (wtC x)[j]? = some u → w.cell? ⟨g, o + j, none⟩ = some u) : w.cell? ⟨g, o, none⟩ = some (.int .i64 x.c) ∧ w.cell? ⟨g, o + 1, none⟩ = some (.int .i64 x.p) ∧ w.cell? ⟨g, o + 2, none⟩ = some (.int .i64 x.o) ∧ w.cell? ⟨g, o + 3, none⟩ = some (.bool x.wr) :=
  ⟨h 0 _ rfl, h 1 _ rfl, h 2 _ rfl, h 3 _ rfl⟩

/-! ### Short ones -/

def cliB (c : Int) : Bool := decide (0 ≤ c ∧ c < 4)
def objB (p o : Int) : Bool := decide (0 ≤ p ∧ p < 6 ∧ 0 ≤ o ∧ o < 4)

theorem ret_int {k : IntKind} {a b : Int} (h : a = b) : Ending.returned (.int k a) = .returned (.int k b) := by rw [h]
theorem ret_bool {a b : Bool} (h : a = b) : Ending.returned (.bool a) = .returned (.bool b) := by rw [h]

theorem isClient_any (c : Int) (w : World) : Calls Tryz.prog 155 #[.int .i64 c] w fun e w' => e = .returned (.bool (cliB c)) ∧ w' = w := by
  have e : cliB c = (decide (0 ≤ c) && decide (c < 4)) := by simp [cliB]
  have HE : Hid (cliB c = (decide (0 ≤ c) && decide (c < 4))) := e
  clear e
  cases hd : decide (0 ≤ c)
  all_goals
    have h' := hd
    simp only [decide_eq_true_eq, decide_eq_false_iff_not] at h'
    go_enter Tryz.func155, Tryz.ntmps155
    go_wp2
    go_ret
    exact ⟨ret_bool (by rw [HE.out, hd]; rfl), rfl⟩

theorem isObject_any (p o : Int) (w : World) : Calls Tryz.prog 156 #[.int .i64 p, .int .i64 o] w fun e w' => e = .returned (.bool (objB p o)) ∧ w' = w := by
  have e : objB p o = (decide (0 ≤ p) && (decide (p < 6) && (decide (0 ≤ o) && decide (o < 4)))) := by simp [objB]
  have HE : Hid (objB p o = (decide (0 ≤ p) && (decide (p < 6) && (decide (0 ≤ o) && decide (o < 4))))) := e
  clear e
  cases hd : decide (0 ≤ p)
  all_goals cases hd2 : decide (p < 6)
  all_goals cases hd3 : decide (0 ≤ o)
  all_goals
    have h' := hd
    have h2' := hd2
    have h3' := hd3
    simp only [decide_eq_true_eq, decide_eq_false_iff_not] at h' h2' h3'
    go_enter Tryz.func156, Tryz.ntmps156
    go_wp2
    go_ret
    exact ⟨ret_bool (by rw [HE.out]; simp only [hd, hd2, hd3, Bool.true_and, Bool.false_and]), rfl⟩

def wayB (a b : Wt) : Bool := a.p == b.p && (a.o == b.o && (!(a.c == b.c) && (a.wr || b.wr)))

theorem way_any (a b : Wt) (w : World) : Calls Tryz.prog 179 #[wtV a, wtV b] w fun e w' => e = .returned (.bool (wayB a b)) ∧ Below w.heap.size w w' := by
  obtain ⟨a0, a1, a2, a3⟩ := a
  obtain ⟨b0, b1, b2, b3⟩ := b
  have HE : Hid (wayB ⟨a0, a1, a2, a3⟩ ⟨b0, b1, b2, b3⟩ = (a1 == b1 && (a2 == b2 && (!(a0 == b0) && (a3 || b3))))) := rfl
  simp only [wtV]
  cases h1 : (a1 == b1)
  · go_enter Tryz.func179, Tryz.ntmps179
    go_wp2
    go_ret
    exact ⟨ret_bool (by rw [HE.out, h1]; rfl), by go_grown⟩
  cases h2 : (a2 == b2)
  · go_enter Tryz.func179, Tryz.ntmps179
    go_wp2
    go_ret
    exact ⟨ret_bool (by rw [HE.out, h1, h2]; rfl), by go_grown⟩
  cases h3 : (a0 == b0)
  · have h3' : (a0 != b0) = true := by simp [bne, h3]
    cases a3
    all_goals
      go_enter Tryz.func179, Tryz.ntmps179
      go_wp2
      go_ret
      exact ⟨ret_bool (by rw [HE.out, h1, h2, h3]; rfl), by go_grown⟩
  · have h3' : (a0 != b0) = false := by simp [bne, h3]
    go_enter Tryz.func179, Tryz.ntmps179
    go_wp2
    go_ret
    exact ⟨ret_bool (by rw [HE.out, h1, h2, h3]; rfl), by go_grown⟩

theorem callFor_any (h : Int) (x : Wt) (w : World) : Calls Tryz.prog 161 #[.int .i64 h, wtV x] w fun e w' => e = .returned (wtV ⟨h, x.p, x.o, x.wr⟩) ∧ Below w.heap.size w w' := by
  go_enter Tryz.func161, Tryz.ntmps161
  go_wp2
  go_returns
  exact ⟨rfl, by go_grown⟩

theorem eq_any (x : Wt) (c : Int) (g : Nat) (w : World) (hc : w.cell? ⟨g, 0, none⟩ = some (.int .i64 c)) : Calls Tryz.prog 172 #[wtV x, .pointer (some ⟨g, 0, none⟩)] w fun e w' => e = .returned (.bool (x.c == c)) ∧ Below w.heap.size w w' := by
  have hg := World.block_lt_of_cell? w _ hc
  have hc' : (w.alloc (wtO x)).cell? ⟨g, 0, none⟩ = some (.int .i64 c) := (((Below.refl _ _).alloc (Nat.le_refl _) _ : Below w.heap.size w (w.alloc (wtO x))).cell hg).trans hc
  go_enter Tryz.func172, Tryz.ntmps172
  go_wp2
  go_ret
  exact ⟨rfl, by go_grown⟩

def plN (L : List Wt) (c : Int) : Nat := L.findIdx (fun x => x.c == c)
def plZ (L : List Wt) (c : Int) : Int := if plN L c < L.length then (plN L c : Int) else -1

theorem index_any (ao : Option Addr) (n cap : Nat) (L : List Wt) (c : Int) (g : Nat) (w : World) (hL : RdR wtC w ao cap L) (hn : L.length = n) (hl : n ≤ 1000000) (hc : w.cell? ⟨g, 0, none⟩ = some (.int .i64 c)) :
    Calls Tryz.prog 171 #[.slice ao n cap, .func (.func 172) #[] #[.pointer (some ⟨g, 0, none⟩)]] w fun e w' => e = .returned (.int .i64 (plZ L c)) ∧ Below w.heap.size w w' := by
  have HL : Hid (RdR wtC w ao cap L ∧ L.length = n) := ⟨hL, hn⟩
  have HC : Hid (w.cell? ⟨g, 0, none⟩ = some (.int .i64 c)) := hc
  clear hL hn hc
  go_enter Tryz.func171, Tryz.ntmps171
  go_wp2
  go_loopw [8] (fun i wr => ∃ k : Nat, k ≤ n ∧ i = .int .i64 k ∧ Below w.heap.size w wr ∧ Hid (∀ t (h : t < L.length), t < k → (L[t].c == c) = false)) (fun i _ => n - (intOf i).toNat)
  case atStart => exact ⟨0, Nat.zero_le _, rfl, Below.refl _ _, fun _ _ h => absurd h (by omega)⟩
  case round =>
    obtain ⟨k, hk, rfl, hbel, HI⟩ := hrel
    rename World => wr
    by_cases hlt : k < n
    · have hkl : k < L.length := by have := HL.out.2; omega
      have hbl := HL.out.1.below hbel
      obtain ⟨bk, off, rfl, -, hcc⟩ := hbl.at wtE hkl
      obtain ⟨z0, z1, z2, z3⟩ := wtIn _ _ _ _ hcc
      have hcg : wr.cell? ⟨g, 0, none⟩ = some (.int .i64 c) := (hbel.cell (World.block_lt_of_cell? w _ HC.out)).trans HC.out
      have HQ : Hid ((∀ t (h : t < L.length), t < k → (L[t].c == c) = false) ∧ ((L[k].c == c) = true → plZ L c = k) ∧ ((L[k].c == c) = false → ∀ t (h : t < L.length), t < k + 1 → (L[t].c == c) = false)) := by
        refine ⟨HI.out, fun h => ?_, fun h t ht hk => ?_⟩
        · have e : plN L c = k := by
            unfold plN
            rw [List.findIdx_eq hkl]
            exact ⟨h, fun j hj => HI.out j (by omega) hj⟩
          unfold plZ
          rw [e, if_pos hkl]
        · by_cases e : t = k
          · subst e; exact h
          · exact HI.out t ht (by omega)
      clear hcc hbl HI
      generalize L[k] = x at *
      have e0' : decide ((k : Int) < n) = true := by simp; omega
      cases hx : (x.c == c)
      · go_wp2_with (first
          | (go_at_call 172; refine (eq_any x c g _ hcg).mono ?_; rintro e w1 ⟨rfl, hb1⟩)
          | fail)
        go_roundw
        case rel => exact ⟨k + 1, by omega, by go_num, below_step hbel hb1, HQ.out.2.2 hx⟩
        case measure => simp [intOf]; omega
      · go_wp2_with (first
          | (go_at_call 172; refine (eq_any x c g _ hcg).mono ?_; rintro e w1 ⟨rfl, hb1⟩)
          | fail)
        go_ret
        exact ⟨ret_int (HQ.out.2.1 hx).symm, below_step hbel hb1⟩
    · obtain rfl : k = n := by omega
      go_wp2
      go_ret
      refine ⟨ret_int (Eq.symm ?_), hbel⟩
      have e : ¬ plN L c < L.length := by
        intro h
        have h1 := List.findIdx_getElem (w := h)
        have h2 := HI.out (plN L c) h (by have := HL.out.2; omega)
        unfold plN at h1 h2
        rw [h2] at h1
        cases h1
      unfold plZ
      rw [if_neg e]

theorem place_any (w : World) (A : Nat → Prop) (q : Nat) (ao : Option Addr) (cap b : Nat) (L : List Wt) (C : Cl) (n : Nat) (H : Qu w A q ao cap b L C n) (hl : L.length ≤ 1000000) (c : Int) :
    Calls Tryz.prog 139 #[qp q, .int .i64 c] w fun e w' => e = .returned (.int .i64 (plZ L c)) ∧ Below w.heap.size w w' := by
  have hmf : ∀ (fn : Fn) (first cap : Array Value) (w : World), (Instr.makeFunc fn first cap).run Tryz.prog w = .ok (.func fn first cap) w := fun _ _ _ _ => rfl
  have hb0 : Below w.heap.size w (w.alloc (.cells #[.int .i64 c] 3)) := (Below.refl _ _).alloc (Nat.le_refl _) _
  have h0 := (H.below hb0).c0
  have HI : Hid (Calls Tryz.prog 171 #[.slice ao L.length cap, .func (.func 172) #[] #[.pointer (some ⟨w.heap.size, 0, none⟩)]] (w.alloc (.cells #[.int .i64 c] 3)) fun e w' => e = .returned (.int .i64 (plZ L c)) ∧ Below w.heap.size w w') := by
    refine (index_any ao L.length cap L c w.heap.size _ (H.below hb0).own.rd rfl hl (by rw [cell_of_row _ _ _ _ _ _ (heap_alloc_new w _)]; rfl)).mono ?_
    rintro e w' ⟨rfl, hb⟩
    exact ⟨rfl, below_step hb0 hb⟩
  clear hb0
  go_enter Tryz.func139, Tryz.ntmps139
  go_wp2_with (first
    | (go_at_call 171; refine HI.out.mono ?_; rintro e w1 ⟨rfl, hb1⟩)
    | fail)
  go_ret
  exact ⟨rfl, hb1⟩

end Go.Proofs.YtpofihiojhbfgaaGreatDoor.Dsk

namespace Go.Proofs.YtpofihiojhbfgaaGreatDoor.Dsk
open Go.RowKit Go.Maps
set_option linter.unusedVariables false
set_option maxRecDepth 8000

theorem new_any (w : World) : Calls Tryz.prog 59 #[] w fun e w' => e = .returned (qp (w.heap.size + 1)) ∧ Qw w' (fun k => w.heap.size ≤ k) (w.heap.size + 1) [] (fun _ => none) 0 ∧ Below w.heap.size w w' := by
  have hmm := @run_makeMap Tryz.prog
  go_enter Tryz.func59, Tryz.ntmps59
  go_wp2
  go_ret
  refine ⟨by simp, ⟨none, 0, w.heap.size, ⟨?_, OwR.nil _ _, (MapC.new w).keep ?_, by simp, Nat.le_refl _, fun a h => (by cases h)⟩⟩, by go_grown⟩
  · have := heap_alloc_new (w.alloc (.map #[] 0)) (.cells #[.slice none 0 0, .map (some w.heap.size)] 176)
    simpa using this
  · exact Below.heap_alloc _ _ _ (by simp)

theorem all_any (w : World) (A : Nat → Prop) (q : Nat) (L : List Wt) (C : Cl) (n : Nat) (H : Qw w A q L C n) (hl : L.length ≤ 1000000) :
    Calls Tryz.prog 144 #[qp q] w fun e w' => ∃ a c, e = .returned (.slice a L.length c) ∧ OwR wtC 4 208 w' a c L ∧ (∀ x, a = some x → x.block = w.heap.size) ∧ Below w.heap.size w w' := by
  obtain ⟨ao, cap, b, H⟩ := H
  have h0 := H.c0
  have HO : Hid (OwR wtC 4 208 w ao cap L) := H.own
  clear H
  obtain ⟨m, hm⟩ : ∃ m, L.length = m := ⟨_, rfl⟩
  have HM : Hid (L.length = m) := hm
  rw [hm] at h0 hl ⊢
  clear hm
  go_enter Tryz.func144, Tryz.ntmps144
  go_wp2_with (first
    | (at_builtin; refine wpList_append_R wtE _ rfl _ _ 174 rfl 208 _ 32 Tryz.underlying174 info29 rfl (L := []) (n := 0) rfl rfl (OwR.nil 208 _) HO.out.rd rfl HM.out (by omega) (by unfold maxLen; omega) ?_; intro a1 c1 w1 ho1 hg1 hw1)
    | fail)
  go_ret
  refine ⟨a1, c1, by simp, by simpa using ho1, ?_, ⟨hg1.os, hg1.tape, hg1.output, hg1.size, fun k hk => hg1.block k hk (by simp)⟩⟩
  rintro x rfl
  rcases hw1 with h | h
  · cases h
  · cases h; rfl

def ahL (M : List Wt) (x : Wt) : List Int := (M.filter fun y => wayB y x).map (·.c)
def ahead (L : List Wt) (x : Wt) : List Int := ahL (if plN L x.c < L.length then L.take (plN L x.c) else L) x

theorem ahL_snoc (M : List Wt) (y x : Wt) : ahL (M ++ [y]) x = if wayB y x then ahL M x ++ [y.c] else ahL M x := by
  unfold ahL
  rw [List.filter_append, List.map_append]
  cases h : wayB y x <;> simp [h]

set_option maxHeartbeats 1600000 in
theorem ahead_any (w : World) (A : Nat → Prop) (q : Nat) (L : List Wt) (C : Cl) (n : Nat) (H : Qw w A q L C n) (hl : L.length ≤ 1000000) (x : Wt) :
    Calls Tryz.prog 147 #[qp q, wtV x] w fun e w' => ∃ a c, e = .returned (.slice a (ahead L x).length c) ∧ OwnI w' w.heap.size 3 .i64 a c (ahead L x) ∧ Below w.heap.size w w' := by
  obtain ⟨ao, cap, b, H⟩ := H
  have hb0 : Below w.heap.size w (w.alloc (wtO x)) := (Below.refl _ _).alloc (Nat.le_refl _) _
  have h0 := (H.below hb0).c0
  have HP : Hid (Calls Tryz.prog 139 #[qp q, .int .i64 x.c] (w.alloc (wtO x)) fun e w' => e = .returned (.int .i64 (plZ L x.c)) ∧ Below w.heap.size w w' ∧ w'.heap[w.heap.size]? = some (wtO x)) := by
    refine (place_any _ A q ao cap b L C n (H.below hb0) hl x.c).mono ?_
    rintro e w' ⟨rfl, hb⟩
    exact ⟨rfl, below_step hb0 hb, (hb.block _ (by simp)).trans (heap_alloc_new w _)⟩
  obtain ⟨M, hM⟩ : ∃ M, (if plN L x.c < L.length then L.take (plN L x.c) else L) = M := ⟨_, rfl⟩
  obtain ⟨m, hm⟩ : ∃ m, M.length = m := ⟨_, rfl⟩
  obtain ⟨z, hz⟩ : ∃ z, plZ L x.c = z := ⟨_, rfl⟩
  obtain ⟨nn, hnn⟩ : ∃ nn, L.length = nn := ⟨_, rfl⟩
  have hle := H.len
  have hmx := H.own.rd.mx
  have HR : Hid (ahead L x = ahL M x) := by show ahead L x = _; unfold ahead; rw [hM]
  rw [HR.out]
  rw [hz] at HP
  rw [hnn] at h0
  have HM : Hid (RdR wtC w ao cap M ∧ M.length = m) := by
    refine ⟨?_, hm⟩
    rw [← hM]
    split
    · exact H.own.rd.head wtE _ cap (by omega) (by omega) hmx H.own.rd.nil
    · exact H.own.rd
  have HZ : (0 ≤ z → z = (m : Int) ∧ m ≤ nn ∧ m ≤ cap ∧ 0 < cap ∧ ∃ g, ao = some ⟨g, 0, none⟩) ∧ (¬ 0 ≤ z → nn = m ∧ z = -1) ∧ m ≤ 1000000 := by
    refine ⟨fun h => ?_, fun h => ?_, ?_⟩
    · unfold plZ at hz
      split at hz
      · rename_i hp
        rw [if_pos hp] at hM
        subst hM
        have hml : m = plN L x.c := by rw [← hm, List.length_take]; omega
        refine ⟨by omega, by omega, by omega, by omega, ?_⟩
        rcases H.own with ⟨_, e, _⟩ | ⟨g, _, e, _⟩
        · omega
        · exact ⟨g, e⟩
      · omega
    · unfold plZ at hz
      split at hz
      · omega
      · rename_i hp
        rw [if_neg hp] at hM
        subst hM
        exact ⟨by omega, by omega⟩
    · rw [← hm, ← hM]
      split
      · rw [List.length_take]; omega
      · omega
  obtain ⟨hz1, hz2, hm6⟩ := HZ
  clear H hM hm hz hnn hle hmx hl hb0
  by_cases hz0 : 0 ≤ z
  · obtain ⟨rfl, hq1, hq2, hq3, g, rfl⟩ := hz1 hz0
    have hq4 : (m : Int) ≤ (cap : Int) := by omega
    have hq5 : ¬ (cap = 0) := by omega
    clear hz1 hz2
    go_enter Tryz.func147, Tryz.ntmps147
    go_wp2_with (first
      | (go_at_call 139; refine HP.out.mono ?_; rintro e w1 ⟨rfl, hb1, hx1⟩)
      | fail)
    go_loopw [7, 25] (fun v i wr => ∃ (k : Nat) (a : Option Addr) (c : Nat), k ≤ m ∧ i = .int .i64 k ∧ v = .slice a (ahL (M.take k) x).length c ∧ Hid (OwnI wr (w.heap.size + 1) 3 .i64 a c (ahL (M.take k) x)) ∧ Below w.heap.size w wr ∧ Hid (wr.heap[w.heap.size]? = some (wtO x))) (fun _ i _ => m - (intOf i).toNat)
    case atStart => exact ⟨0, none, 0, Nat.zero_le _, rfl, rfl, OwnI.nil _ _ _ _, hb1, hx1⟩
    case round =>
      clear hb1 hx1
      obtain ⟨k, a, c, hk, rfl, rfl, HO, hbel, HX⟩ := hrel
      rename World => wr
      by_cases hlt : k < m
      · have hkl : k < M.length := by have := HM.out.2; omega
        obtain ⟨bk, off, hao, -, hcc⟩ := (HM.out.1.below hbel).at wtE hkl
        obtain ⟨z0, z1, z2, z3⟩ := wtIn _ _ _ _ hcc
        obtain ⟨rfl, rfl⟩ : g = bk ∧ 0 = off := by simpa using hao
        simp only [Nat.zero_add] at z0 z1 z2 z3
        have HS : Hid (ahL (M.take (k + 1)) x = if wayB M[k] x then ahL (M.take k) x ++ [M[k].c] else ahL (M.take k) x) := by
          show _ = _
          rw [List.take_succ_eq_append_getElem hkl, ahL_snoc]
        have HLn : Hid ((ahL (M.take k) x).length ≤ k) := by
          show _ ≤ _
          unfold ahL
          rw [List.length_map]
          exact Nat.le_trans (List.length_filter_le _ _) (by rw [List.length_take]; omega)
        clear hcc; try clear hao
        generalize M[k] = y at *
        generalize hA0 : ahL (M.take k) x = A0 at *
        generalize hA1 : ahL (M.take (k + 1)) x = A1 at *
        have HA1 : Hid (ahL (M.take (k + 1)) x = A1) := hA1
        clear hA0 hA1
        obtain ⟨ln, hln⟩ : ∃ ln, A0.length = ln := ⟨_, rfl⟩
        have HLN : Hid (A0.length = ln) := hln
        rw [hln] at HLn ⊢
        clear hln
        have e0' : decide ((k : Int) < m) = true := by simp; omega
        have hbW : Below wr.heap.size wr (wr.alloc (wtO y)) := (Below.refl _ _).alloc (Nat.le_refl _) _
        have HB1 : Hid (Below w.heap.size w (wr.alloc (wtO y)) ∧ w.heap.size < wr.heap.size) := ⟨below_step hbel hbW, (Array.getElem?_eq_some_iff.1 HX.out).1⟩
        have HY : Hid ((wr.alloc (wtO y)).heap[wr.heap.size]? = some (wtO y)) := heap_alloc_new wr _
        have HXW : Hid ((wr.alloc (wtO y)).heap[w.heap.size]? = some (wtO x)) := (hbW.block _ HB1.out.2).trans HX.out
        have x0 : (wr.alloc (wtO y)).cell? ⟨w.heap.size, 0, none⟩ = some (.int .i64 x.c) := by rw [cell_of_row _ _ _ _ _ _ HXW.out]; rfl
        have x1 : (wr.alloc (wtO y)).cell? ⟨w.heap.size, 1, none⟩ = some (.int .i64 x.p) := by rw [cell_of_row _ _ _ _ _ _ HXW.out]; rfl
        have x2 : (wr.alloc (wtO y)).cell? ⟨w.heap.size, 2, none⟩ = some (.int .i64 x.o) := by rw [cell_of_row _ _ _ _ _ _ HXW.out]; rfl
        have x3 : (wr.alloc (wtO y)).cell? ⟨w.heap.size, 3, none⟩ = some (.bool x.wr) := by rw [cell_of_row _ _ _ _ _ _ HXW.out]; rfl
        have HW : Hid (Calls Tryz.prog 179 #[wtV y, wtV x] (wr.alloc (wtO y)) fun e w' => e = .returned (.bool (wayB y x)) ∧ Below wr.heap.size wr w' ∧ Hid (w'.heap[w.heap.size]? = some (wtO x)) ∧ w'.cell? ⟨wr.heap.size, 0, none⟩ = some (.int .i64 y.c)) := by
          refine (way_any y x _).mono ?_
          rintro e w' ⟨rfl, hb⟩
          refine ⟨rfl, hbW.trans (hb.mono hbW.size), (hb.block _ (by have := HB1.out.2; simp; omega)).trans HXW.out, ?_⟩
          rw [cell_of_row _ _ _ _ _ _ ((hb.block _ (by simp)).trans HY.out)]
          rfl
        cases hwy : wayB y x
        · rw [hwy] at HW HS
          go_wp2_with (first
            | (go_at_call 179; refine HW.out.mono ?_; rintro e w2 ⟨rfl, hb2, HX2, y0⟩)
            | fail)
          go_roundw
          case rel =>
            have e1 : A1 = A0 := by have := HS.out; simpa using this
            have e2 := HLN.out
            exact ⟨k + 1, a, c, by omega, by go_num, by rw [HA1.out, e1, e2], by rw [HA1.out, e1]; exact HO.out.below hb2, below_step hbel hb2, HX2⟩
          case measure => simp [intOf]; omega
        · rw [hwy] at HW HS
          have hln' : ln ≤ 1000000 := by have := HLn.out; omega
          go_wp2_with (first
            | (at_builtin; refine wpList_append_rdI _ rfl _ _ 135 rfl (w.heap.size + 1) 3 .i64 _ 8 Tryz.underlying135 info3 rfl rfl rfl ((HO.out.below hb2).alloc _) (RdI.one w2 3 .i64 y.c) HLN.out rfl (by omega) (by unfold maxLen; omega) (by have := HB1.out.2; have := hb2.size; simp; omega) ?_; intro a3 c3 w3 ho3 hb3)
            | (go_at_call 179; refine HW.out.mono ?_; rintro e w2 ⟨rfl, hb2, HX2, y0⟩)
            | fail)
          go_roundw
          case rel =>
            have e1 : A1 = A0 ++ [y.c] := by have := HS.out; simpa using this
            have e2 := HLN.out
            have hb23 : Below (w.heap.size + 1) w2 w3 := ((Below.refl _ _).alloc (by have := HB1.out.2; have := hb2.size; omega) _).trans hb3
            exact ⟨k + 1, a3, c3, by omega, by go_num, by rw [HA1.out, e1, List.length_append, e2]; rfl, by rw [HA1.out, e1]; exact ho3, (below_step hbel hb2).trans (hb23.mono (by omega)), (hb23.block _ (by omega)).trans HX2.out⟩
          case measure => simp [intOf]; omega
      · obtain rfl : k = m := by omega
        have e0' : decide ((k : Int) < k) = false := by simp
        have e9 : M.take k = M := List.take_of_length_le (by have := HM.out.2; omega)
        rw [e9] at HO ⊢
        go_wp2
        go_ret
        exact ⟨a, c, rfl, HO.out.mono (by omega), hbel⟩
  · obtain ⟨hnm, rfl⟩ := hz2 hz0
    rw [hnm] at h0
    clear hnm
    clear hz1 hz2
    go_enter Tryz.func147, Tryz.ntmps147
    go_wp2_with (first
      | (go_at_call 139; refine HP.out.mono ?_; rintro e w1 ⟨rfl, hb1, hx1⟩)
      | fail)
    go_loopw [7, 25] (fun v i wr => ∃ (k : Nat) (a : Option Addr) (c : Nat), k ≤ m ∧ i = .int .i64 k ∧ v = .slice a (ahL (M.take k) x).length c ∧ Hid (OwnI wr (w.heap.size + 1) 3 .i64 a c (ahL (M.take k) x)) ∧ Below w.heap.size w wr ∧ Hid (wr.heap[w.heap.size]? = some (wtO x))) (fun _ i _ => m - (intOf i).toNat)
    case atStart => exact ⟨0, none, 0, Nat.zero_le _, rfl, rfl, OwnI.nil _ _ _ _, hb1, hx1⟩
    case round =>
      clear hb1 hx1
      obtain ⟨k, a, c, hk, rfl, rfl, HO, hbel, HX⟩ := hrel
      rename World => wr
      by_cases hlt : k < m
      · have hkl : k < M.length := by have := HM.out.2; omega
        obtain ⟨bk, off, hao, -, hcc⟩ := (HM.out.1.below hbel).at wtE hkl
        obtain ⟨z0, z1, z2, z3⟩ := wtIn _ _ _ _ hcc
        subst hao
        have HS : Hid (ahL (M.take (k + 1)) x = if wayB M[k] x then ahL (M.take k) x ++ [M[k].c] else ahL (M.take k) x) := by
          show _ = _
          rw [List.take_succ_eq_append_getElem hkl, ahL_snoc]
        have HLn : Hid ((ahL (M.take k) x).length ≤ k) := by
          show _ ≤ _
          unfold ahL
          rw [List.length_map]
          exact Nat.le_trans (List.length_filter_le _ _) (by rw [List.length_take]; omega)
        clear hcc; try clear hao
        generalize M[k] = y at *
        generalize hA0 : ahL (M.take k) x = A0 at *
        generalize hA1 : ahL (M.take (k + 1)) x = A1 at *
        have HA1 : Hid (ahL (M.take (k + 1)) x = A1) := hA1
        clear hA0 hA1
        obtain ⟨ln, hln⟩ : ∃ ln, A0.length = ln := ⟨_, rfl⟩
        have HLN : Hid (A0.length = ln) := hln
        rw [hln] at HLn ⊢
        clear hln
        have e0' : decide ((k : Int) < m) = true := by simp; omega
        have hbW : Below wr.heap.size wr (wr.alloc (wtO y)) := (Below.refl _ _).alloc (Nat.le_refl _) _
        have HB1 : Hid (Below w.heap.size w (wr.alloc (wtO y)) ∧ w.heap.size < wr.heap.size) := ⟨below_step hbel hbW, (Array.getElem?_eq_some_iff.1 HX.out).1⟩
        have HY : Hid ((wr.alloc (wtO y)).heap[wr.heap.size]? = some (wtO y)) := heap_alloc_new wr _
        have HXW : Hid ((wr.alloc (wtO y)).heap[w.heap.size]? = some (wtO x)) := (hbW.block _ HB1.out.2).trans HX.out
        have x0 : (wr.alloc (wtO y)).cell? ⟨w.heap.size, 0, none⟩ = some (.int .i64 x.c) := by rw [cell_of_row _ _ _ _ _ _ HXW.out]; rfl
        have x1 : (wr.alloc (wtO y)).cell? ⟨w.heap.size, 1, none⟩ = some (.int .i64 x.p) := by rw [cell_of_row _ _ _ _ _ _ HXW.out]; rfl
        have x2 : (wr.alloc (wtO y)).cell? ⟨w.heap.size, 2, none⟩ = some (.int .i64 x.o) := by rw [cell_of_row _ _ _ _ _ _ HXW.out]; rfl
        have x3 : (wr.alloc (wtO y)).cell? ⟨w.heap.size, 3, none⟩ = some (.bool x.wr) := by rw [cell_of_row _ _ _ _ _ _ HXW.out]; rfl
        have HW : Hid (Calls Tryz.prog 179 #[wtV y, wtV x] (wr.alloc (wtO y)) fun e w' => e = .returned (.bool (wayB y x)) ∧ Below wr.heap.size wr w' ∧ Hid (w'.heap[w.heap.size]? = some (wtO x)) ∧ w'.cell? ⟨wr.heap.size, 0, none⟩ = some (.int .i64 y.c)) := by
          refine (way_any y x _).mono ?_
          rintro e w' ⟨rfl, hb⟩
          refine ⟨rfl, hbW.trans (hb.mono hbW.size), (hb.block _ (by have := HB1.out.2; simp; omega)).trans HXW.out, ?_⟩
          rw [cell_of_row _ _ _ _ _ _ ((hb.block _ (by simp)).trans HY.out)]
          rfl
        cases hwy : wayB y x
        · rw [hwy] at HW HS
          go_wp2_with (first
            | (go_at_call 179; refine HW.out.mono ?_; rintro e w2 ⟨rfl, hb2, HX2, y0⟩)
            | fail)
          go_roundw
          case rel =>
            have e1 : A1 = A0 := by have := HS.out; simpa using this
            have e2 := HLN.out
            exact ⟨k + 1, a, c, by omega, by go_num, by rw [HA1.out, e1, e2], by rw [HA1.out, e1]; exact HO.out.below hb2, below_step hbel hb2, HX2⟩
          case measure => simp [intOf]; omega
        · rw [hwy] at HW HS
          have hln' : ln ≤ 1000000 := by have := HLn.out; omega
          go_wp2_with (first
            | (at_builtin; refine wpList_append_rdI _ rfl _ _ 135 rfl (w.heap.size + 1) 3 .i64 _ 8 Tryz.underlying135 info3 rfl rfl rfl ((HO.out.below hb2).alloc _) (RdI.one w2 3 .i64 y.c) HLN.out rfl (by omega) (by unfold maxLen; omega) (by have := HB1.out.2; have := hb2.size; simp; omega) ?_; intro a3 c3 w3 ho3 hb3)
            | (go_at_call 179; refine HW.out.mono ?_; rintro e w2 ⟨rfl, hb2, HX2, y0⟩)
            | fail)
          go_roundw
          case rel =>
            have e1 : A1 = A0 ++ [y.c] := by have := HS.out; simpa using this
            have e2 := HLN.out
            have hb23 : Below (w.heap.size + 1) w2 w3 := ((Below.refl _ _).alloc (by have := HB1.out.2; have := hb2.size; omega) _).trans hb3
            exact ⟨k + 1, a3, c3, by omega, by go_num, by rw [HA1.out, e1, List.length_append, e2]; rfl, by rw [HA1.out, e1]; exact ho3, (below_step hbel hb2).trans (hb23.mono (by omega)), (hb23.block _ (by omega)).trans HX2.out⟩
          case measure => simp [intOf]; omega
      · obtain rfl : k = m := by omega
        have e0' : decide ((k : Int) < k) = false := by simp
        have e9 : M.take k = M := List.take_of_length_le (by have := HM.out.2; omega)
        rw [e9] at HO ⊢
        go_wp2
        go_ret
        exact ⟨a, c, rfl, HO.out.mono (by omega), hbel⟩

end Go.Proofs.YtpofihiojhbfgaaGreatDoor.Dsk

namespace Go.Proofs.YtpofihiojhbfgaaGreatDoor.Dsk
open Go.RowKit Go.Maps
set_option linter.unusedVariables false
set_option maxRecDepth 8000

theorem or16 : ∀ a < 16, ∀ b < 16, bits .or .i64 ((a : Nat) : Int) ((b : Nat) : Int) = ((a ||| b : Nat) : Int) ∧ a ||| b < 16 := by decide +kernel

def Rt (x : Wt) : Prop := (0 ≤ x.c ∧ x.c < 4) ∧ 0 ≤ x.p ∧ x.p < 6 ∧ 0 ≤ x.o ∧ x.o < 4

def rsB (y : Wt) (c p : Int) : Bool := !(y.c == c) && (y.p == p && y.wr)
def resN (c p : Int) : List Wt → Nat
  | [] => 0
  | y :: L => if rsB y c p then 2 ^ y.o.toNat ||| resN c p L else resN c p L

theorem resN_snoc (c p : Int) (L : List Wt) (y : Wt) : resN c p (L ++ [y]) = if rsB y c p then resN c p L ||| 2 ^ y.o.toNat else resN c p L := by
  induction L with
  | nil => simp [resN]
  | cons z L ih =>
    simp only [List.cons_append, resN, ih]
    split
    · split
      · rw [Nat.or_assoc]
      · rfl
    · rfl

theorem pow16 {o : Int} (h0 : 0 ≤ o) (h4 : o < 4) : 2 ^ o.toNat < 16 := by
  obtain ⟨k, rfl⟩ : ∃ k : Nat, o = k := ⟨o.toNat, by omega⟩
  rcases (by omega : k = 0 ∨ k = 1 ∨ k = 2 ∨ k = 3) with rfl | rfl | rfl | rfl <;> decide

theorem resN_lt (c p : Int) : ∀ (L : List Wt), (∀ x ∈ L, Rt x) → resN c p L < 16
  | [], _ => by simp [resN]
  | y :: L, h => by
    have ih := resN_lt c p L fun x hx => h x (by simp [hx])
    have hy := h y (by simp)
    simp only [resN]
    split
    · exact (or16 _ (pow16 hy.2.2.2.1 hy.2.2.2.2) _ ih).2
    · exact ih

set_option maxHeartbeats 1600000 in
theorem reserved_any (w : World) (A : Nat → Prop) (q : Nat) (L : List Wt) (C : Cl) (n : Nat) (H : Qw w A q L C n) (hl : L.length ≤ 1000000) (hR : ∀ x ∈ L, Rt x) (c p : Int) :
    Calls Tryz.prog 204 #[qp q, .int .i64 c, .int .i64 p] w fun e w' => e = .returned (.int .i64 ((resN c p L : Nat) : Int)) ∧ Below w.heap.size w w' := by
  obtain ⟨ao, cap, b, H⟩ := H
  have h0 := H.c0
  obtain ⟨m, hm⟩ : ∃ m, L.length = m := ⟨_, rfl⟩
  have HM : Hid (RdR wtC w ao cap L ∧ L.length = m ∧ ∀ x ∈ L, Rt x) := ⟨H.own.rd, hm, hR⟩
  rw [hm] at h0 hl
  clear hm H hR
  go_enter Tryz.func204, Tryz.ntmps204
  go_wp2
  go_loopw [7, 15] (fun v i wr => ∃ (k : Nat), k ≤ m ∧ i = .int .i64 k ∧ v = .int .i64 ((resN c p (L.take k) : Nat) : Int) ∧ Below w.heap.size w wr) (fun _ i _ => m - (intOf i).toNat)
  case atStart => exact ⟨0, Nat.zero_le _, rfl, rfl, Below.refl _ _⟩
  case round =>
    obtain ⟨k, hk, rfl, rfl, hbel⟩ := hrel
    rename World => wr
    by_cases hlt : k < m
    · have hkl : k < L.length := by have := HM.out.2.1; omega
      obtain ⟨bk, off, rfl, -, hcc⟩ := (HM.out.1.below hbel).at wtE hkl
      obtain ⟨z0, z1, z2, z3⟩ := wtIn _ _ _ _ hcc
      have HS : Hid (resN c p (L.take (k + 1)) = if rsB L[k] c p then resN c p (L.take k) ||| 2 ^ L[k].o.toNat else resN c p (L.take k)) := by
        show _ = _
        rw [List.take_succ_eq_append_getElem hkl, resN_snoc]
      have hlt16 : resN c p (L.take k) < 16 := resN_lt c p _ fun x hx => HM.out.2.2 x (List.mem_of_mem_take hx)
      have hrt : Rt L[k] := HM.out.2.2 _ (List.getElem_mem _)
      clear hcc
      generalize L[k] = y at *
      generalize resN c p (L.take k) = N0 at *
      generalize hN1 : resN c p (L.take (k + 1)) = N1 at *
      have HN1 : Hid (resN c p (L.take (k + 1)) = N1) := hN1
      clear hN1
      obtain ⟨yc, yp, yo, yw⟩ := y
      obtain ⟨-, -, -, ho0, ho4⟩ := hrt
      simp only at z0 z1 z2 z3 ho0 ho4
      have e0' : decide ((k : Int) < m) = true := by simp; omega
      have HT : Hid (rsB ⟨yc, yp, yo, yw⟩ c p = (!(yc == c) && (yp == p && yw))) := rfl
      cases h1 : (yc == c)
      · have h1' : (yc != c) = true := by simp [bne, h1]
        cases h2 : (yp == p)
        · go_wp2
          go_roundw
          case rel => exact ⟨k + 1, by omega, by go_num, by rw [HN1.out, HS.out, HT.out, h1, h2]; rfl, hbel.alloc hbel.size _⟩
          case measure => simp [intOf]; omega
        · cases yw
          · go_wp2
            go_roundw
            case rel => exact ⟨k + 1, by omega, by go_num, by rw [HN1.out, HS.out, HT.out, h1, h2]; rfl, hbel.alloc hbel.size _⟩
            case measure => simp [intOf]; omega
          · obtain ⟨j, rfl⟩ : ∃ j : Nat, yo = j := ⟨yo.toNat, by omega⟩
            have HF : Hid (N1 = N0 ||| 2 ^ j) := by
              have := HS.out
              rw [HT.out, h1, h2] at this
              exact this.trans (if_pos rfl)
            clear HS HT
            rcases (by omega : j = 0 ∨ j = 1 ∨ j = 2 ∨ j = 3) with rfl | rfl | rfl | rfl
            · have hor : bits .or .i64 (N0 : Int) 1 = ((N0 ||| 1 : Nat) : Int) := (or16 N0 hlt16 1 (by decide)).1
              go_wp2
              go_roundw
              case rel => exact ⟨k + 1, by omega, by go_num, by rw [HN1.out, HF.out], hbel.alloc hbel.size _⟩
              case measure => simp [intOf]; omega
            · have hor : bits .or .i64 (N0 : Int) 2 = ((N0 ||| 2 : Nat) : Int) := (or16 N0 hlt16 2 (by decide)).1
              go_wp2
              go_roundw
              case rel => exact ⟨k + 1, by omega, by go_num, by rw [HN1.out, HF.out], hbel.alloc hbel.size _⟩
              case measure => simp [intOf]; omega
            · have hor : bits .or .i64 (N0 : Int) 4 = ((N0 ||| 4 : Nat) : Int) := (or16 N0 hlt16 4 (by decide)).1
              go_wp2
              go_roundw
              case rel => exact ⟨k + 1, by omega, by go_num, by rw [HN1.out, HF.out], hbel.alloc hbel.size _⟩
              case measure => simp [intOf]; omega
            · have hor : bits .or .i64 (N0 : Int) 8 = ((N0 ||| 8 : Nat) : Int) := (or16 N0 hlt16 8 (by decide)).1
              go_wp2
              go_roundw
              case rel => exact ⟨k + 1, by omega, by go_num, by rw [HN1.out, HF.out], hbel.alloc hbel.size _⟩
              case measure => simp [intOf]; omega
      · have h1' : (yc != c) = false := by simp [bne, h1]
        go_wp2
        go_roundw
        case rel => exact ⟨k + 1, by omega, by go_num, by rw [HN1.out, HS.out, HT.out, h1]; rfl, hbel.alloc hbel.size _⟩
        case measure => simp [intOf]; omega
    · obtain rfl : k = m := by omega
      have e0' : decide ((k : Int) < k) = false := by simp
      have e9 : L.take k = L := List.take_of_length_le (by have := HM.out.2.1; omega)
      rw [e9]
      go_wp2
      go_ret
      exact ⟨rfl, hbel⟩

end Go.Proofs.YtpofihiojhbfgaaGreatDoor.Dsk
