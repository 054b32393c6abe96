/- Each once, in order: the walk. -/
import Derived.Test.YtgdlejeopdipiaaOm
import Derived.Test.YtgdlejeopdipiaaSz
import Derived.Deep.CutBlock
import Derived.Deep.DeepCutAuto
namespace Go.Proofs.Ytgdlejeopdipiaa
open Go.RowKit
set_option linter.unusedVariables false

/-- The four rows: what was handed in, what was told. -/
def LsF (In0 In1 : List (List Nat)) (h0 h1 : Nat) : Nat → List (List Nat) := fun i => if i = 0 then In0 else if i = 1 then In1 else if i = 2 then In1.take h0 else In0.take h1
theorem LsF_push0 {In0 In1 : List (List Nat)} {h0 h1 : Nat} (h : h1 ≤ In0.length) (bs : List Nat) : setR (LsF In0 In1 h0 h1) 0 (In0 ++ [bs]) = LsF (In0 ++ [bs]) In1 h0 h1 := by
  funext i
  unfold setR LsF
  by_cases e : i = 0
  · simp [e]
  · simp only [if_neg e]
    rw [List.take_append_of_le_length h]
theorem LsF_push1 {In0 In1 : List (List Nat)} {h0 h1 : Nat} (h : h0 ≤ In1.length) (bs : List Nat) : setR (LsF In0 In1 h0 h1) 1 (In1 ++ [bs]) = LsF In0 (In1 ++ [bs]) h0 h1 := by
  funext i
  unfold setR LsF
  by_cases e : i = 1
  · simp [e]
  · simp only [if_neg e]
    rw [List.take_append_of_le_length h]
theorem LsF_told0 {In0 In1 : List (List Nat)} {h0 h1 h2 : Nat} {b : List Nat} (h : In1.take h2 = In1.take h0 ++ [b]) : setR (LsF In0 In1 h0 h1) 2 (In1.take h0 ++ [b]) = LsF In0 In1 h2 h1 := by
  funext i
  unfold setR LsF
  by_cases e : i = 2
  · simp [e, h]
  · simp [if_neg e]
theorem LsF_told1 {In0 In1 : List (List Nat)} {h0 h1 h2 : Nat} {b : List Nat} (h : In0.take h2 = In0.take h1 ++ [b]) : ∀ i, i < 4 → setR (LsF In0 In1 h0 h1) 3 (In0.take h1 ++ [b]) i = LsF In0 In1 h0 h2 i
  | 0, _ => rfl
  | 1, _ => rfl
  | 2, _ => rfl
  | 3, _ => by simp [setR, LsF, h]
theorem Str4.congr {w : World} {B q6 q7 : Nat} {R : Nat → Option Addr × Nat} {Ls Ms : Nat → List (List Nat)} (S : Str4 w B q6 q7 R Ls) (h : ∀ i, i < 4 → Ls i = Ms i) : Str4 w B q6 q7 R Ms :=
  ⟨by rw [← h 0 (by decide), ← h 1 (by decide)]; exact S.h6, by rw [← h 2 (by decide), ← h 3 (by decide)]; exact S.h7, fun i hi => by rw [← h i hi]; exact S.row i hi, S.ap, S.ne⟩

/-- All that is there between two steps. -/
structure St (w : World) (B ge g0 g1 q6 q7 : Nat) (P : PkG) (X Y : En) (In0 In1 : List (List Nat)) (Ws : List PkG) (v : Value) (R : Nat → Option Addr × Nat) : Prop where
  duo : Duo w B ge g0 g1 P X Y
  pks : Pks w B (fun _ => True) v Ws
  str : Str4 w B q6 q7 R (LsF In0 In1 X.h Y.h)
  inv : Inv P X Y In0 In1 Ws
theorem St.below {w w' : World} {B ge g0 g1 q6 q7 : Nat} {P : PkG} {X Y : En} {In0 In1 : List (List Nat)} {Ws : List PkG} {v : Value} {R : Nat → Option Addr × Nat} (S : St w B ge g0 g1 q6 q7 P X Y In0 In1 Ws v R) (hb : Below w.heap.size w w') : St w' B ge g0 g1 q6 q7 P X Y In0 In1 Ws v R :=
  ⟨S.duo.below hb, S.pks.below hb, S.str.below hb, S.inv⟩
theorem Str4.new (w : World) (B : Nat) : Str4 ((w.alloc (.cells #[.slice none 0 0, .slice none 0 0] 51)).alloc (.cells #[.slice none 0 0, .slice none 0 0] 51)) B w.heap.size (w.heap.size + 1) (fun _ => (none, 0)) (LsF [] [] 0 0) := by
  refine ⟨(((Below.refl _ _).alloc (Nat.le_refl _) _).block _ (by simp)).trans (heap_alloc_new w _), ?_, fun i hi => ?_, fun i j _ _ _ a b h => (by cases h), by omega⟩
  · have h2 := heap_alloc_new (w.alloc (.cells #[.slice none 0 0, .slice none 0 0] 51)) (.cells #[.slice none 0 0, .slice none 0 0] 51)
    rw [show (w.alloc (.cells #[.slice none 0 0, .slice none 0 0] 51)).heap.size = w.heap.size + 1 from by simp] at h2
    exact h2
  · have e : LsF [] [] 0 0 i = [] := by unfold LsF; repeat' split <;> simp
    rw [e]
    exact OwnS.nil _ _ _

theorem held_append_at {P : Program} {ops : Array Oper} {Q : Exit → Act → World → Prop} {md : Region.Mode} {S : World → Prop} {i : Nat} {oi : Oper} (d : Nat) (s x : Operand) (t : TypeId) {fuel : Nat} {l : Array Bool} {a : Act} {w : World} (hi : ops[i]? = some oi) (hd : oi.dst = some d) (hr : Region.ready md ops l = [i])
    (hw : Region.wanted oi (yielded ops a.tmps) = true) (ho : oi.op = .call { callee := .builtin .append, args := #[s, x], argTypes := #[t, t] })
    (base : Nat) (e : TypeId) (zv : Value) (bytes : Nat) (ht : P.underlying t = some (.slice e)) (hinfo : (P.info? e).map (fun i => (i.zero, i.size, i.bytes)) = some (some zv, 1, bytes)) (hzs : zv.cells.size = 1)
    {ao : Option Addr} {cap n : Nat} {xs : List Value} {ao' : Option Addr} {cap' m : Nat} {ys : List Value}
    (hs : a.eval s = .slice ao n cap) (hx : a.eval x = .slice ao' m cap') (hown : OwnS w base e ao cap xs) (hrd : RdS w ao' cap' ys) (hn : xs.length = n) (hm : ys.length = m)
    (h1 : ∀ u ∈ ys, u.oneCell' = true) (hbytes : (n + m) * bytes ≤ 140737488355328) (h63 : n + m ≤ maxLen) (hbase : base ≤ w.heap.size)
    (h : ∀ ao2 cap2 w', OwnS w' base e ao2 cap2 (xs ++ ys) → w.grownBy w' (Value.ownBlock (.slice ao n cap)) → (ao2 = ao ∨ ao2 = some ⟨w.heap.size, 0, none⟩) → S w' ∧ wpAnyH P md ops Q S fuel (l.setIfInBounds i true) (a.put (some d) (.slice ao2 (n + m) cap2)) w') : wpAnyH P md ops Q S (fuel + 1) l a w := by
  obtain ⟨ao2, cap2, w', hr2, h2, h3, h4⟩ := exec_append_at (P := P) (w := w) (o := oi) (a := a) s x t ho base e zv bytes ht hinfo hzs hs hx hown hrd hn hm h1 hbytes h63 hbase
  obtain ⟨h5, h6⟩ := h ao2 cap2 w' h2 h3 h4
  exact held_run d _ w' hi hd hr hw hr2 h5 h6
theorem till_append_at {P : Program} {ops : Array Oper} {Q : Exit → Act → World → Prop} {md : Region.Mode} {F : World → Prop} {z : Nat} {i : Nat} {oi : Oper} (d : Nat) (s x : Operand) (t : TypeId) {fuel : Nat} {l : Array Bool} {a : Act} {w : World} (hi : ops[i]? = some oi) (hd : oi.dst = some d) (hr : Region.ready md ops l = [i])
    (hw : Region.wanted oi (yielded ops a.tmps) = true) (ho : oi.op = .call { callee := .builtin .append, args := #[s, x], argTypes := #[t, t] })
    (base : Nat) (e : TypeId) (zv : Value) (bytes : Nat) (ht : P.underlying t = some (.slice e)) (hinfo : (P.info? e).map (fun i => (i.zero, i.size, i.bytes)) = some (some zv, 1, bytes)) (hzs : zv.cells.size = 1)
    {ao : Option Addr} {cap n : Nat} {xs : List Value} {ao' : Option Addr} {cap' m : Nat} {ys : List Value}
    (hs : a.eval s = .slice ao n cap) (hx : a.eval x = .slice ao' m cap') (hown : OwnS w base e ao cap xs) (hrd : RdS w ao' cap' ys) (hn : xs.length = n) (hm : ys.length = m)
    (h1 : ∀ u ∈ ys, u.oneCell' = true) (hbytes : (n + m) * bytes ≤ 140737488355328) (h63 : n + m ≤ maxLen) (hbase : base ≤ w.heap.size)
    (h : ∀ ao2 cap2 w', OwnS w' base e ao2 cap2 (xs ++ ys) → w.grownBy w' (Value.ownBlock (.slice ao n cap)) → (ao2 = ao ∨ ao2 = some ⟨w.heap.size, 0, none⟩) → F w' ∧ Till P md ops Q F z fuel (l.setIfInBounds i true) (a.put (some d) (.slice ao2 (n + m) cap2)) w') : Till P md ops Q F z (fuel + 1) l a w := by
  obtain ⟨ao2, cap2, w', hr2, h2, h3, h4⟩ := exec_append_at (P := P) (w := w) (o := oi) (a := a) s x t ho base e zv bytes ht hinfo hzs hs hx hown hrd hn hm h1 hbytes h63 hbase
  obtain ⟨h5, h6⟩ := h ao2 cap2 w' h2 h3 h4
  exact Till.run d _ w' hi hd hr hw hr2 h5 h6

theorem info9 : (Try.prog.info? 9).map (fun i => (i.zero, i.size, i.bytes)) = some (some (.string ⟨#[]⟩), 1, 16) := by kernel_rfl
/-- An append to one of the rows turns rows of strings alone. -/
theorem Str4.grown9 {w w' : World} {B q6 q7 : Nat} {R : Nat → Option Addr × Nat} {Ls : Nat → List (List Nat)} (S : Str4 w B q6 q7 R Ls) {i : Nat} (hi : i < 4) (hg : w.grownBy w' (Value.ownBlock (.slice (R i).1 (Ls i).length (R i).2))) :
    ∀ (k : Nat) (cs : Array Value) (e : TypeId) (fr : Nat × Nat), w.heap[k]? = some (.cells cs e fr) → e ≠ 9 → w'.heap[k]? = w.heap[k]? := fun k cs e fr hk he => hg.block k (Array.getElem?_eq_some_iff.1 hk).1 fun e1 => by
  cases e0 : (R i).1 with
  | none => rw [e0] at e1; simp [Value.ownBlock] at e1
  | some a =>
    obtain ⟨cs', fr', h2⟩ := Ty.own (S.row i hi) a e0
    rw [e0] at e1
    simp [Value.ownBlock] at e1
    rw [← e1, hk] at h2
    simp only [Option.some.injEq, Obj.cells.injEq] at h2
    exact he h2.2.1

theorem Pks.first {w : World} {base : Nat} {V : Nat → Prop} {g n cap : Nat} {Ps : List PkG} (h : Pks w base V (.slice (some ⟨g, 0, none⟩) n cap) Ps) (j : Nat) (hj : j ≤ Ps.length) : RdP w V (.slice (some ⟨g, 0, none⟩) j cap) (Ps.take j) := by
  obtain ⟨ao, cp, R, e, rfl, hn, hc, hb⟩ := h.rd
  simp only [Value.slice.injEq] at e
  obtain ⟨rfl, -, rfl⟩ := e
  refine ⟨_, cap, R.take j, by rw [List.length_take, Nat.min_eq_left hj], by rw [List.map_take], fun h => (by cases h), fun a ha i u hu => hc a ha i u ?_, fun r hr => hb r (List.mem_of_mem_take hr)⟩
  rw [rowC_take, List.getElem?_take] at hu
  split at hu
  · exact hu
  · cases hu
theorem Pks.last {w : World} {base : Nat} {V : Nat → Prop} {g n cap : Nat} {Ps : List PkG} (h : Pks w base V (.slice (some ⟨g, 0, none⟩) n cap) Ps) (i : Nat) (hi : i ≤ Ps.length) (a : Addr) (ha : i < cap → a = ⟨g, i * 7, none⟩) (m c : Nat) (hm : m = Ps.length - i) : RdP w V (.slice (some a) m c) (Ps.drop i) := by
  obtain ⟨ao, cp, e', hle, -⟩ := h.shape
  obtain ⟨ao, cp, R, e, rfl, hn, hc, hb⟩ := h.rd
  simp only [Value.slice.injEq] at e e'
  obtain ⟨rfl, -, rfl⟩ := e
  obtain ⟨-, -, rfl⟩ := e'
  refine ⟨_, c, R.drop i, by rw [List.length_drop, hm], by rw [List.map_drop], fun h => (by cases h), fun b hb' j u hu => ?_, fun r hr => hb r (List.mem_of_mem_drop hr)⟩
  cases hb'
  have hl : j < (rowC (R.drop i)).length := (List.getElem?_eq_some_iff.1 hu).1
  rw [rowC_length, List.length_drop] at hl
  rw [List.length_map] at hle
  rw [ha (by omega)]
  rw [rowC_drop, List.getElem?_drop] at hu
  have := hc _ rfl (i * 7 + j) u hu
  have e : (⟨g, i * 7, none⟩ : Addr).add j = (⟨g, 0, none⟩ : Addr).add (i * 7 + j) := by
    simp only [Addr.add]
    split <;> split <;> simp <;> omega
  rw [e]
  exact this
theorem exec_append_pks {w : World} {o : Oper} {a : Act} (s x : Operand) (ho : o.op = .call { callee := .builtin .append, args := #[s, x], argTypes := #[44, 44] }) (base : Nat) {V : Nat → Prop} {v y : Value} {Ps Qs : List PkG} (hs : a.eval s = v) (hx : a.eval x = y)
    (hp : Pks w base V v Ps) (hq : RdP w V y Qs) (hl : Ps.length + Qs.length ≤ 1000000) (hbase : base ≤ w.heap.size) :
    ∃ v' w', (execOp a.eval o).run Try.prog w = .ok (.value v') w' ∧ Pks w' base V v' (Ps ++ Qs) ∧ w.grownBy w' v.ownBlock ∧ (v'.ownBlock = v.ownBlock ∨ v'.ownBlock = some w.heap.size) := by
  obtain ⟨v', w', hr, h2, h3, h4⟩ := run_append_pks (w := w) o.type base hp hq hl hbase
  refine ⟨v', w', ?_, h2, h3, h4⟩
  unfold execOp
  simp only [ho, resolve, invoke, builtin, Sem.run_bind, Sem.run_pure, Result.andThen_ok, List.map_toArray, List.map_cons, List.map_nil, hs, hx, hr]
theorem held_append_pks {ops : Array Oper} {Q : Exit → Act → World → Prop} {md : Region.Mode} {S : World → Prop} {i : Nat} {oi : Oper} (d : Nat) (s x : Operand) {fuel : Nat} {l : Array Bool} {a : Act} {w : World} (hi : ops[i]? = some oi) (hd : oi.dst = some d) (hr : Region.ready md ops l = [i])
    (hw : Region.wanted oi (yielded ops a.tmps) = true) (ho : oi.op = .call { callee := .builtin .append, args := #[s, x], argTypes := #[44, 44] }) (base : Nat) {V : Nat → Prop} {v y : Value} {Ps Qs : List PkG} (hs : a.eval s = v) (hx : a.eval x = y)
    (hp : Pks w base V v Ps) (hq : RdP w V y Qs) (hl : Ps.length + Qs.length ≤ 1000000) (hbase : base ≤ w.heap.size)
    (h : ∀ v' w', Pks w' base V v' (Ps ++ Qs) → w.grownBy w' v.ownBlock → S w' ∧ wpAnyH Try.prog md ops Q S fuel (l.setIfInBounds i true) (a.put (some d) v') w') : wpAnyH Try.prog md ops Q S (fuel + 1) l a w := by
  obtain ⟨v', w', hr2, h2, h3, _⟩ := exec_append_pks (w := w) (o := oi) (a := a) s x ho base hs hx hp hq hl hbase
  obtain ⟨h5, h6⟩ := h v' w' h2 h3
  exact held_run d _ w' hi hd hr hw hr2 h5 h6

/-- The first block of this number in a function's text. -/
def blockOf (n : Nat) : Code → Option Code
  | .loop c => blockOf n c
  | .seq a b => match blockOf n a with
    | some c => some c
    | none => blockOf n b
  | .block m c => if m = n then some (.block m c) else blockOf n c
  | .scope c => blockOf n c
  | .cond _ a b => match blockOf n a with
    | some c => some c
    | none => blockOf n b
  | _ => none
noncomputable def onceBlk : Code := (Try.f5.body.bind (blockOf 2)).getD .skip

end Go.Proofs.Ytgdlejeopdipiaa
