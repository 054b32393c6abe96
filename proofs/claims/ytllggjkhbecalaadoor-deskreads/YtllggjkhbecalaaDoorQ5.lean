/- Call, Busy, Called, Answer of package queue, walked. -/
import Derived.Test.YtllggjkhbecalaaDoorQ4
namespace Go.Proofs.YtllggjkhbecalaaDoor
open Go.RowKit Go.Maps
set_option linter.unusedVariables false
set_option maxRecDepth 8000

theorem bel0 (w : World) : Below w.heap.size w w.drew := ⟨rfl, rfl, rfl, Nat.le_refl _, fun _ _ => rfl⟩

theorem Qu.turned {w w6 : World} {A : Nat → Prop} {q : Nat} {ao : Option Addr} {cap b : Nat} {L : List Wt} {C C' : Cl} {n n' : Nat} (H : Qu w A q ao cap b L C n) (hg : w.grownBy w6 (some b)) (hm : MapC w6 b n' C') : Nx w w6 A q L C' n' := by
  have hk : ∀ k, k < w.heap.size → k ≠ b → w6.heap[k]? = w.heap[k]? := fun k hk hne => hg.block k hk (by simpa using hne)
  refine ⟨⟨ao, cap, b, ⟨(hk q H.lt H.ne.symm).trans H.blk, H.own.keep fun a ha hl => hk _ hl (H.ner a ha).2, hm, .inl H.aq, .inl H.ab, fun a ha => .inl (H.ar a ha)⟩⟩, OffS.grown hg fun k e => ?_⟩
  cases e
  exact H.ab

section
variable {ops : Array Oper} {rest : List Oper} {o : Oper} {a : Act} {Q : Exit → Act → World → Prop}
theorem exec_delete_C {w : World} (m x : Operand) (hop : o.op = Op.call { callee := Callee.builtin Builtin.delete, args := #[m, x], argTypes := #[75, 83] }) {b : Nat} (hm : a.eval m = .map (some b)) {k : Wt} (hx : a.eval x = wtV k) {w1 : World}
    (hrun : (Builtin.delete_ #[75, 83] o.type #[.map (some b), wtV k]).run Tryd.prog w = .ok (.tuple #[]) w1) : (execOp a.eval o).run Tryd.prog w = .ok (.value (.tuple #[])) w1 := by
  unfold execOp
  simp only [hop, resolve, invoke, builtin, Sem.run_bind, Sem.run_pure, Result.andThen_ok, List.map_toArray, List.map_cons, List.map_nil, hm, hx, hrun]

theorem wpList_delete_C (w : World) (hg : o.guard = none) (m x : Operand) (hop : o.op = Op.call { callee := Callee.builtin Builtin.delete, args := #[m, x], argTypes := #[75, 83] }) {b n : Nat} {C : Cl} (hm : a.eval m = .map (some b)) (h : MapC w b n C) {k : Wt} (hk : k.ok) (hx : a.eval x = wtV k)
    (hK : ∀ w', MapC w' b n (C.set k none) → w.grownBy w' (some b) → wpList Tryd.prog ops Q rest (a.put o.dst (.tuple #[])) w') : wpList Tryd.prog ops Q (o :: rest) a w := by
  refine wpList_plain hg fun _ hKK => ?_
  obtain ⟨w', hrun, h1, h2⟩ := h.del hk o.type
  unfold Oper.wp
  rw [exec_delete_C m x hop hm hx hrun]
  exact hKK _ _ (hK w' h1 h2.grown)

theorem held_delete_C {md : Region.Mode} {S : World → Prop} {i : Nat} {oi : Oper} {fuel : Nat} {l : Array Bool} {w : World} (hi : ops[i]? = some oi) (hd : oi.dst = none) (hr : Region.ready md ops l = [i]) (hw : Region.wanted oi (yielded ops a.tmps) = true) (m x : Operand) (hop : oi.op = Op.call { callee := Callee.builtin Builtin.delete, args := #[m, x], argTypes := #[75, 83] })
    {b r n : Nat} {C : Cl} {lf : Wt → Bool} {cnt : Nat} (hm : a.eval m = .map (some b)) (hR : RanC w b r n C lf cnt) {k : Wt} (hk : k.ok) (hlf : lf k = false) (hx : a.eval x = wtV k)
    (h : ∀ w' cnt', RanC w' b r n (C.set k none) lf cnt' → cnt' ≤ cnt → w.grownBy w' (some b) → S w' ∧ wpAnyH Tryd.prog md ops Q S fuel (l.setIfInBounds i true) a w') : wpAnyH Tryd.prog md ops Q S (fuel + 1) l a w := by
  obtain ⟨w', cnt', hrun, h1, h2, h3⟩ := hR.drop hk hlf oi.type
  obtain ⟨h4, h5⟩ := h w' cnt' h1 h2 h3.grown
  refine held_last w' hi hr hw ?_ h4 h5
  unfold Oper.wp
  rw [exec_delete_C m x hop hm hx hrun]
  exact ⟨by rw [hd]; rfl, rfl⟩
end

/-- Which call is meant. -/
abbrev kyOf (h : Int) (x : Wt) : Wt := ⟨h, x.p, x.o, x.wr⟩

/-- What a region that looks a call up may read. -/
theorem look_facts {W : World} {A : Nat → Prop} {q : Nat} {ao : Option Addr} {cap b : Nat} {L : List Wt} {C : Cl} {n : Nat} (H : Qu W A q ao cap b L C n) {k : Wt} (hk : k.ok) {V : World} (hV : Below W.heap.size W V) :
    V.cell? ⟨q, 1, none⟩ = some (.map (some b)) ∧ (Instr.lookup 75 (.map (some b)) (wtV k) true).run Tryd.prog V = .ok (.tuple #[.int .i64 (cnum (C k)), .bool (C k).isSome]) V :=
  ⟨(H.below hV).c1, (H.below hV).map.look hk⟩

theorem wt_cells {W : World} {g : Nat} {t : TypeId} {x : Wt} (h : W.heap[g]? = some (.cells #[.int .i64 x.c, .int .i64 x.p, .int .i64 x.o, .bool x.wr] t)) {V : World} (hV : Below W.heap.size W V) : V.cell? ⟨g, 0, none⟩ = some (.int .i64 x.c) ∧ V.cell? ⟨g, 1, none⟩ = some (.int .i64 x.p) ∧ V.cell? ⟨g, 2, none⟩ = some (.int .i64 x.o) ∧ V.cell? ⟨g, 3, none⟩ = some (.bool x.wr) := by
  have h' := (hV.block g (Array.getElem?_eq_some_iff.1 h).1).trans h
  refine ⟨?_, ?_, ?_, ?_⟩
  all_goals rw [cell_of_row _ _ _ _ _ _ h']; rfl

set_option maxHeartbeats 1600000 in
theorem called_any (w : World) (A : Nat → Prop) (q : Nat) (L : List Wt) (C : Cl) (n : Nat) (H : Qw w A q L C n) (h : Int) (x : Wt) (hk : (kyOf h x).ok) :
    Calls Tryd.prog 25 #[qp q, .int .i64 h, wtV x] w fun e w' => e = .returned (.tuple #[.bool (C (kyOf h x)).isSome, .bool (decide (C (kyOf h x) = some true))]) ∧ Below w.heap.size w w' := by
  obtain ⟨ao, cap, b, H⟩ := H
  have hb0 : Below w.heap.size w (w.alloc (wtO x)) := (Below.refl _ _).alloc (Nat.le_refl _) _
  have HB0 : Hid (Below w.heap.size w (w.alloc (wtO x))) := hb0
  obtain ⟨th, hth⟩ : ∃ th, (C (kyOf h x)).isSome = th := ⟨_, rfl⟩
  obtain ⟨cv, hcv⟩ : ∃ cv, cnum (C (kyOf h x)) = cv := ⟨_, rfl⟩
  have HR : Hid ((C (kyOf h x)).isSome = th ∧ cnum (C (kyOf h x)) = cv ∧ (th = true → (cv == 1) = decide (C (kyOf h x) = some true)) ∧ (th = false → decide (C (kyOf h x) = some true) = false)) := by
    refine ⟨hth, hcv, fun e => ?_, fun e => ?_⟩
    · rw [← hcv]
      rw [← hth] at e
      obtain ⟨u, hu⟩ := Option.isSome_iff_exists.1 e
      rw [hu]
      cases u <;> rfl
    · rw [← hth] at e
      cases hc : C (kyOf h x) with
      | none => rfl
      | some u => rw [hc] at e; cases e
  have HCL : Hid (∀ V : World, Below (w.alloc (wtO x)).heap.size (w.alloc (wtO x)) V → V.cell? ⟨q, 1, none⟩ = some (.map (some b)) ∧ (Instr.lookup 75 (.map (some b)) (wtV (kyOf h x)) true).run Tryd.prog V = .ok (.tuple #[.int .i64 cv, .bool th]) V ∧ V.cell? ⟨w.heap.size, 0, none⟩ = some (.int .i64 x.c) ∧ V.cell? ⟨w.heap.size, 1, none⟩ = some (.int .i64 x.p) ∧ V.cell? ⟨w.heap.size, 2, none⟩ = some (.int .i64 x.o) ∧ V.cell? ⟨w.heap.size, 3, none⟩ = some (.bool x.wr)) := fun V hV => by
    obtain ⟨f1, f2⟩ := look_facts (H.below hb0) hk hV
    rw [hth, hcv] at f2
    exact ⟨f1, f2, wt_cells (heap_alloc_new w _) hV⟩
  have HCF : Hid (∀ V : World, Below (w.alloc (wtO x)).heap.size (w.alloc (wtO x)) V → Calls Tryd.prog 36 #[.int .i64 h, wtV x] V fun e w' => e = .returned (wtV (kyOf h x)) ∧ Below (w.alloc (wtO x)).heap.size (w.alloc (wtO x)) w') := fun V hV => (callFor_any h x V).mono fun e w' ⟨h1, h2⟩ => ⟨h1, below_step hV h2⟩
  clear H hth hcv hb0
  rw [HR.out.1]
  go_enter Tryd.func25, Tryd.ntmps25
  go_upto_region 1 with fail
  have HC0 := HCL.out _ (bel0 _)
  obtain ⟨z1, -, z3, z4, z5, z6⟩ := HC0
  refine wp_region_sure (fun V => Below (w.alloc (wtO x)).heap.size (w.alloc (wtO x)) V) (by kernel_rfl) (bel0 _) ?_
  refine Sure.val (i := 0) ?_ 11 rfl rfl (by kernel_rfl) (by kernel_rfl) (by kernel_rfl) (by rfl) ?_ ?_
  rotate_left
  · (intro w hSw; obtain ⟨c1, c2, c3, c4, c5, c6⟩ := HCL.out w hSw; go_simp; first | done | with_reducible rfl)
  simp only [Act.put, List.setIfInBounds_toArray, List.set_cons_zero, List.set_cons_succ]
  refine Sure.val (i := 1) ?_ 12 rfl rfl (by kernel_rfl) (by kernel_rfl) (by kernel_rfl) (by rfl) ?_ ?_
  rotate_left
  · (intro w hSw; obtain ⟨c1, c2, c3, c4, c5, c6⟩ := HCL.out w hSw; go_simp; first | done | with_reducible rfl)
  simp only [Act.put, List.setIfInBounds_toArray, List.set_cons_zero, List.set_cons_succ]
  refine Sure.val (i := 2) ?_ 13 rfl rfl (by kernel_rfl) (by kernel_rfl) (by kernel_rfl) (by rfl) ?_ ?_
  rotate_left
  · (intro w hSw; obtain ⟨c1, c2, c3, c4, c5, c6⟩ := HCL.out w hSw; go_simp; first | done | with_reducible rfl)
  simp only [Act.put, List.setIfInBounds_toArray, List.set_cons_zero, List.set_cons_succ]
  refine Sure.val (i := 3) ?_ 14 rfl rfl (by kernel_rfl) (by kernel_rfl) (by kernel_rfl) (by rfl) ?_ ?_
  rotate_left
  · (intro w hSw; obtain ⟨c1, c2, c3, c4, c5, c6⟩ := HCL.out w hSw; go_simp; first | done | with_reducible rfl)
  simp only [Act.put, List.setIfInBounds_toArray, List.set_cons_zero, List.set_cons_succ]
  refine Sure.val (i := 4) ?_ 15 rfl rfl (by kernel_rfl) (by kernel_rfl) (by kernel_rfl) (by rfl) ?_ ?_
  rotate_left
  · (intro w hSw; obtain ⟨c1, c2, c3, c4, c5, c6⟩ := HCL.out w hSw; go_simp; first | done | with_reducible rfl)
  simp only [Act.put, List.setIfInBounds_toArray, List.set_cons_zero, List.set_cons_succ]
  refine Sure.val (i := 5) ?_ 16 rfl rfl (by kernel_rfl) (by kernel_rfl) (by kernel_rfl) (by rfl) ?_ ?_
  rotate_left
  · (intro w hSw; obtain ⟨c1, c2, c3, c4, c5, c6⟩ := HCL.out w hSw; go_simp; first | done | with_reducible rfl)
  simp only [Act.put, List.setIfInBounds_toArray, List.set_cons_zero, List.set_cons_succ]
  refine Sure.call (i := 6) (wtV (kyOf h x)) 17 36 #[.int .i64 h, wtV x] rfl rfl (by kernel_rfl) (by kernel_rfl) (by kernel_rfl) (by rfl) (fun w hSw => by simp [go_sem]) HCF.out ?_
  simp only [Act.put, List.setIfInBounds_toArray, List.set_cons_zero, List.set_cons_succ]
  refine Sure.val (i := 7) ?_ 18 rfl rfl (by kernel_rfl) (by kernel_rfl) (by kernel_rfl) (by rfl) ?_ ?_
  rotate_left
  · (intro w hSw; obtain ⟨c1, c2, c3, c4, c5, c6⟩ := HCL.out w hSw; go_simp; first | done | with_reducible rfl)
  simp only [Act.put, List.setIfInBounds_toArray, List.set_cons_zero, List.set_cons_succ]
  refine Sure.val (i := 8) ?_ 10 rfl rfl (by kernel_rfl) (by kernel_rfl) (by kernel_rfl) (by rfl) ?_ ?_
  rotate_left
  · (intro w hSw; obtain ⟨c1, c2, c3, c4, c5, c6⟩ := HCL.out w hSw; go_simp; first | done | with_reducible rfl)
  simp only [Act.put, List.setIfInBounds_toArray, List.set_cons_zero, List.set_cons_succ]
  refine Sure.val (i := 9) ?_ 19 rfl rfl (by kernel_rfl) (by kernel_rfl) (by kernel_rfl) (by rfl) ?_ ?_
  rotate_left
  · (intro w hSw; obtain ⟨c1, c2, c3, c4, c5, c6⟩ := HCL.out w hSw; go_simp; first | done | with_reducible rfl)
  simp only [Act.put, List.setIfInBounds_toArray, List.set_cons_zero, List.set_cons_succ]
  refine Sure.val (i := 10) ?_ 20 rfl rfl (by kernel_rfl) (by kernel_rfl) (by kernel_rfl) (by rfl) ?_ ?_
  rotate_left
  · (intro w hSw; obtain ⟨c1, c2, c3, c4, c5, c6⟩ := HCL.out w hSw; go_simp; first | done | with_reducible rfl)
  simp only [Act.put, List.setIfInBounds_toArray, List.set_cons_zero, List.set_cons_succ]
  refine Sure.val (i := 11) ?_ 8 rfl rfl (by kernel_rfl) (by kernel_rfl) (by kernel_rfl) (by rfl) ?_ ?_
  rotate_left
  · (intro w hSw; obtain ⟨c1, c2, c3, c4, c5, c6⟩ := HCL.out w hSw; go_simp; first | done | with_reducible rfl)
  simp only [Act.put, List.setIfInBounds_toArray, List.set_cons_zero, List.set_cons_succ]
  refine Sure.val (i := 12) ?_ 9 rfl rfl (by kernel_rfl) (by kernel_rfl) (by kernel_rfl) (by rfl) ?_ ?_
  rotate_left
  · (intro w hSw; obtain ⟨c1, c2, c3, c4, c5, c6⟩ := HCL.out w hSw; go_simp; first | done | with_reducible rfl)
  simp only [Act.put, List.setIfInBounds_toArray, List.set_cons_zero, List.set_cons_succ]
  refine Sure.done (by kernel_rfl) ?_ _
  intro w' hSw'
  have HB : Hid (Below w.heap.size w w') := below_step HB0.out hSw'
  clear hSw' z1 z3 z4 z5 z6 HCL HCF
  cases th
  · have HD : Hid (decide (C (kyOf h x) = some true) = false) := HR.out.2.2.2 rfl
    go_wp2
    go_ret2
    exact ⟨by rw [HD.out]; rfl, HB.out⟩
  · have HD : Hid ((cv == 1) = decide (C (kyOf h x) = some true)) := HR.out.2.2.1 rfl
    go_wp2
    go_ret2
    exact ⟨by rw [← HD.out]; rfl, HB.out⟩

set_option maxHeartbeats 800000 in
theorem answer_any (w : World) (A : Nat → Prop) (q : Nat) (L : List Wt) (C : Cl) (n : Nat) (H : Qw w A q L C n) (k : Wt) (hk : k.ok) :
    Calls Tryd.prog 35 #[qp q, .int .i64 k.c, .int .i64 k.p, .int .i64 k.o, .bool k.wr] w fun e w' => e = .returned (.tuple #[]) ∧ Nx w w' A q L (C.set k none) n := by
  obtain ⟨ao, cap, b, H⟩ := H
  have h1 := H.c1
  have HQ : Hid (Qu w A q ao cap b L C n) := H
  clear H
  go_enter Tryd.func35, Tryd.ntmps35
  go_wp2_with (first
    | (at_delete; refine wpList_delete_C _ rfl _ _ rfl rfl HQ.out.map hk rfl ?_; intro w1 hm1 hg1)
    | fail)
  go_end0
  exact ⟨rfl, HQ.out.turned hg1 hm1⟩

def callB (C : Cl) (h : Int) (x : Wt) : Bool := cliB h && (objB x.p x.o && !(C (kyOf h x)).isSome)
def callC (C : Cl) (h : Int) (x : Wt) : Cl := if callB C h x then C.set (kyOf h x) (some false) else C

set_option maxHeartbeats 1600000 in
theorem call_any (w : World) (A : Nat → Prop) (q : Nat) (L : List Wt) (C : Cl) (n : Nat) (H : Qw w A q L C n) (hn : n ≤ 1000000) (h : Int) (x : Wt) :
    Calls Tryd.prog 61 #[qp q, .int .i64 h, wtV x] w fun e w' => e = .returned (.bool (callB C h x)) ∧ Nx w w' A q L (callC C h x) (n + 1) := by
  have HW : Hid (Qw w A q L C (n + 1)) := H.le (by omega)
  obtain ⟨ao, cap, b, H⟩ := H
  have hb0 : Below w.heap.size w (w.alloc (wtO x)) := (Below.refl _ _).alloc (Nat.le_refl _) _
  have HB0 : Hid (Below w.heap.size w (w.alloc (wtO x))) := hb0
  cases h1 : cliB h
  · have e1 : callB C h x = false := by simp [callB, h1]
    have e2 : callC C h x = C := by simp [callC, e1]
    rw [e1, e2]
    clear e1 e2 H hb0
    go_enter Tryd.func61, Tryd.ntmps61
    go_wp2_with (first
      | (go_at_call 30; refine (isClient_any _ _).mono ?_; rw [h1]; rintro e w1 ⟨rfl, hw1⟩; subst w1)
      | fail)
    go_ret
    exact ⟨rfl, Nx.of_below HW.out HB0.out⟩
  cases h2 : objB x.p x.o
  · have e1 : callB C h x = false := by simp [callB, h2]
    have e2 : callC C h x = C := by simp [callC, e1]
    rw [e1, e2]
    clear e1 e2 H hb0
    go_enter Tryd.func61, Tryd.ntmps61
    go_wp2_with (first
      | (go_at_call 31; refine (isObject_any _ _ _).mono ?_; rw [h2]; rintro e w2 ⟨rfl, hw2⟩; subst w2)
      | (go_at_call 30; refine (isClient_any _ _).mono ?_; rw [h1]; rintro e w1 ⟨rfl, hw1⟩; subst w1)
      | fail)
    go_ret
    exact ⟨rfl, Nx.of_below HW.out HB0.out⟩
  have hk : (kyOf h x).ok := by
    simp only [cliB, decide_eq_true_eq] at h1
    simp only [objB, decide_eq_true_eq] at h2
    refine ⟨?_, ?_, ?_⟩ <;> (unfold inR; simp only; omega)
  have HQ : Hid (Qu w A q ao cap b L C n) := H
  obtain ⟨th, hth⟩ : ∃ th, (C (kyOf h x)).isSome = th := ⟨_, rfl⟩
  obtain ⟨cv, hcv⟩ : ∃ cv, cnum (C (kyOf h x)) = cv := ⟨_, rfl⟩
  have HE : Hid (callB C h x = !th ∧ (th = true → callC C h x = C) ∧ (th = false → callC C h x = C.set (kyOf h x) (some false))) := by
    have e1 : callB C h x = !th := by simp [callB, h1, h2, hth]
    refine ⟨e1, fun e => ?_, fun e => ?_⟩
    · unfold callC; rw [e1, e]; rfl
    · unfold callC; rw [e1, e]; rfl
  have HR : Hid ((C (kyOf h x)).isSome = th ∧ cnum (C (kyOf h x)) = cv ∧ (kyOf h x).ok) := ⟨hth, hcv, hk⟩
  rw [HE.out.1]
  clear hth hcv H hb0 hk
  go_enter Tryd.func61, Tryd.ntmps61
  go_upto_region 4 with (first
    | (go_at_call 36; refine (callFor_any h x _).mono ?_; rintro e w3 ⟨rfl, hb3⟩)
    | (go_at_call 31; refine (isObject_any _ _ _).mono ?_; rw [h2]; rintro e w2 ⟨rfl, hw2⟩; subst w2)
    | (go_at_call 30; refine (isClient_any _ _).mono ?_; rw [h1]; rintro e w1 ⟨rfl, hw1⟩; subst w1)
    | fail)
  have hb4 : Below w.heap.size w (w3.alloc (caO (kyOf h x))) := below_step (below_step HB0.out hb3) ((Below.refl _ _).alloc (Nat.le_refl _) _)
  have hg4 : (w3.alloc (caO (kyOf h x))).heap[w3.heap.size]? = some (caO (kyOf h x)) := heap_alloc_new w3 _
  obtain ⟨g4, hg⟩ : ∃ g, w3.heap.size = g := ⟨_, rfl⟩
  rw [hg] at hg4 ⊢
  have HB4 : Hid (Below w.heap.size w (w3.alloc (caO (kyOf h x)))) := hb4
  clear hb3 hb4 hg
  show Code.wp _ _ _ _ (w3.alloc (caO (kyOf h x)))
  generalize w3.alloc (caO (kyOf h x)) = W at *
  have HQW : Hid (Qu W A q ao cap b L C n) := HQ.out.below HB4.out
  have HCL : Hid (∀ V : World, Below W.heap.size W V → V.cell? ⟨q, 1, none⟩ = some (.map (some b)) ∧ (Instr.lookup 75 (.map (some b)) (wtV (kyOf h x)) true).run Tryd.prog V = .ok (.tuple #[.int .i64 cv, .bool th]) V ∧ V.cell? ⟨g4, 0, none⟩ = some (.int .i64 h) ∧ V.cell? ⟨g4, 1, none⟩ = some (.int .i64 x.p) ∧ V.cell? ⟨g4, 2, none⟩ = some (.int .i64 x.o) ∧ V.cell? ⟨g4, 3, none⟩ = some (.bool x.wr)) := fun V hV => by
    obtain ⟨f1, f2⟩ := look_facts HQW.out HR.out.2.2 hV
    rw [HR.out.1, HR.out.2.1] at f2
    exact ⟨f1, f2, wt_cells (x := kyOf h x) hg4 hV⟩
  clear hg4
  refine wp_region_sure (fun V => Below W.heap.size W V) (by kernel_rfl) (bel0 _) ?_
  refine Sure.val (i := 0) ?_ 25 rfl rfl (by kernel_rfl) (by kernel_rfl) (by kernel_rfl) (by rfl) ?_ ?_
  rotate_left
  · (intro w hSw; obtain ⟨c1, c2, c3, c4, c5, c6⟩ := HCL.out w hSw; go_simp; first | done | with_reducible rfl)
  simp only [Act.put, List.setIfInBounds_toArray, List.set_cons_zero, List.set_cons_succ]
  refine Sure.val (i := 1) ?_ 26 rfl rfl (by kernel_rfl) (by kernel_rfl) (by kernel_rfl) (by rfl) ?_ ?_
  rotate_left
  · (intro w hSw; obtain ⟨c1, c2, c3, c4, c5, c6⟩ := HCL.out w hSw; go_simp; first | done | with_reducible rfl)
  simp only [Act.put, List.setIfInBounds_toArray, List.set_cons_zero, List.set_cons_succ]
  refine Sure.val (i := 2) ?_ 27 rfl rfl (by kernel_rfl) (by kernel_rfl) (by kernel_rfl) (by rfl) ?_ ?_
  rotate_left
  · (intro w hSw; obtain ⟨c1, c2, c3, c4, c5, c6⟩ := HCL.out w hSw; go_simp; first | done | with_reducible rfl)
  simp only [Act.put, List.setIfInBounds_toArray, List.set_cons_zero, List.set_cons_succ]
  refine Sure.val (i := 3) ?_ 28 rfl rfl (by kernel_rfl) (by kernel_rfl) (by kernel_rfl) (by rfl) ?_ ?_
  rotate_left
  · (intro w hSw; obtain ⟨c1, c2, c3, c4, c5, c6⟩ := HCL.out w hSw; go_simp; first | done | with_reducible rfl)
  simp only [Act.put, List.setIfInBounds_toArray, List.set_cons_zero, List.set_cons_succ]
  refine Sure.val (i := 4) ?_ 29 rfl rfl (by kernel_rfl) (by kernel_rfl) (by kernel_rfl) (by rfl) ?_ ?_
  rotate_left
  · (intro w hSw; obtain ⟨c1, c2, c3, c4, c5, c6⟩ := HCL.out w hSw; go_simp; first | done | with_reducible rfl)
  simp only [Act.put, List.setIfInBounds_toArray, List.set_cons_zero, List.set_cons_succ]
  refine Sure.val (i := 5) ?_ 30 rfl rfl (by kernel_rfl) (by kernel_rfl) (by kernel_rfl) (by rfl) ?_ ?_
  rotate_left
  · (intro w hSw; obtain ⟨c1, c2, c3, c4, c5, c6⟩ := HCL.out w hSw; go_simp; first | done | with_reducible rfl)
  simp only [Act.put, List.setIfInBounds_toArray, List.set_cons_zero, List.set_cons_succ]
  refine Sure.val (i := 6) ?_ 24 rfl rfl (by kernel_rfl) (by kernel_rfl) (by kernel_rfl) (by rfl) ?_ ?_
  rotate_left
  · (intro w hSw; obtain ⟨c1, c2, c3, c4, c5, c6⟩ := HCL.out w hSw; go_simp; first | done | with_reducible rfl)
  simp only [Act.put, List.setIfInBounds_toArray, List.set_cons_zero, List.set_cons_succ]
  refine Sure.val (i := 7) ?_ 31 rfl rfl (by kernel_rfl) (by kernel_rfl) (by kernel_rfl) (by rfl) ?_ ?_
  rotate_left
  · (intro w hSw; obtain ⟨c1, c2, c3, c4, c5, c6⟩ := HCL.out w hSw; go_simp; first | done | with_reducible rfl)
  simp only [Act.put, List.setIfInBounds_toArray, List.set_cons_zero, List.set_cons_succ]
  refine Sure.val (i := 8) ?_ 32 rfl rfl (by kernel_rfl) (by kernel_rfl) (by kernel_rfl) (by rfl) ?_ ?_
  rotate_left
  · (intro w hSw; obtain ⟨c1, c2, c3, c4, c5, c6⟩ := HCL.out w hSw; go_simp; first | done | with_reducible rfl)
  simp only [Act.put, List.setIfInBounds_toArray, List.set_cons_zero, List.set_cons_succ]
  refine Sure.val (i := 9) ?_ 8 rfl rfl (by kernel_rfl) (by kernel_rfl) (by kernel_rfl) (by rfl) ?_ ?_
  rotate_left
  · (intro w hSw; obtain ⟨c1, c2, c3, c4, c5, c6⟩ := HCL.out w hSw; go_simp; first | done | with_reducible rfl)
  simp only [Act.put, List.setIfInBounds_toArray, List.set_cons_zero, List.set_cons_succ]
  refine Sure.val (i := 10) ?_ 9 rfl rfl (by kernel_rfl) (by kernel_rfl) (by kernel_rfl) (by rfl) ?_ ?_
  rotate_left
  · (intro w hSw; obtain ⟨c1, c2, c3, c4, c5, c6⟩ := HCL.out w hSw; go_simp; first | done | with_reducible rfl)
  simp only [Act.put, List.setIfInBounds_toArray, List.set_cons_zero, List.set_cons_succ]
  refine Sure.done (by kernel_rfl) ?_ _
  intro W5 hSw'
  have HB5 : Hid (Below W.heap.size W W5) := hSw'
  clear hSw'
  cases th
  · have HD : Hid (callC C h x = C.set (kyOf h x) (some false)) := HE.out.2.2 rfl
    go_upto_region 7 with fail
    have HQ5 : Hid (Qu W5 A q ao cap b L C n) := HQW.out.below HB5.out
    have hF0 : W5.drew.cell? ⟨q, 1, none⟩ = some (.map (some b)) ∧ W5.drew.cell? ⟨g4, 0, none⟩ = some (.int .i64 h) ∧ W5.drew.cell? ⟨g4, 1, none⟩ = some (.int .i64 x.p) ∧ W5.drew.cell? ⟨g4, 2, none⟩ = some (.int .i64 x.o) ∧ W5.drew.cell? ⟨g4, 3, none⟩ = some (.bool x.wr) := by
      obtain ⟨f1, -, f3, f4, f5, f6⟩ := HCL.out W5.drew (below_step HB5.out (bel0 _))
      exact ⟨f1, f3, f4, f5, f6⟩
    obtain ⟨w7, hrun7, hm7, ht7⟩ := (HQ5.out.below (bel0 _)).map.put (by unfold maxLen; omega) HR.out.2.2 false
    have hrun7' : (Instr.mapUpdate 75 (.map (some b)) (.agg #[.int .i64 h, .int .i64 x.p, .int .i64 x.o, .bool x.wr]) (.int .i64 0)).run Tryd.prog W5.drew = .ok () w7 := hrun7
    have HN : Hid (Nx w w7 A q L (C.set (kyOf h x) (some false)) (n + 1)) := Nx.older (below_step (below_step HB4.out HB5.out) (bel0 _)) ((HQ5.out.below (bel0 _)).turned ht7.grown hm7)
    clear hrun7 hm7 ht7
    refine wp_region_till (fun V => V.cell? ⟨q, 1, none⟩ = some (.map (some b)) ∧ V.cell? ⟨g4, 0, none⟩ = some (.int .i64 h) ∧ V.cell? ⟨g4, 1, none⟩ = some (.int .i64 x.p) ∧ V.cell? ⟨g4, 2, none⟩ = some (.int .i64 x.o) ∧ V.cell? ⟨g4, 3, none⟩ = some (.bool x.wr)) 5 (by kernel_rfl) ?_
    refine Till.val (i := 0) ?_ 34 rfl rfl rfl (by kernel_rfl) (by decide) (by kernel_rfl) (by kernel_rfl) (by kernel_rfl) (by kernel_rfl) (by rfl) (fun _ _ _ h => h) hF0 ?_ ?_
    rotate_left
    · (intro w hSw; obtain ⟨c1, c2, c3, c4, c5⟩ := hSw; go_simp; first | done | with_reducible rfl)
    simp only [Act.put, List.setIfInBounds_toArray, List.set_cons_zero, List.set_cons_succ]
    refine Till.val (i := 1) ?_ 35 rfl rfl rfl (by kernel_rfl) (by decide) (by kernel_rfl) (by kernel_rfl) (by kernel_rfl) (by kernel_rfl) (by rfl) (fun _ _ _ h => h) hF0 ?_ ?_
    rotate_left
    · (intro w hSw; obtain ⟨c1, c2, c3, c4, c5⟩ := hSw; go_simp; first | done | with_reducible rfl)
    simp only [Act.put, List.setIfInBounds_toArray, List.set_cons_zero, List.set_cons_succ]
    refine Till.val (i := 2) ?_ 36 rfl rfl rfl (by kernel_rfl) (by decide) (by kernel_rfl) (by kernel_rfl) (by kernel_rfl) (by kernel_rfl) (by rfl) (fun _ _ _ h => h) hF0 ?_ ?_
    rotate_left
    · (intro w hSw; obtain ⟨c1, c2, c3, c4, c5⟩ := hSw; go_simp; first | done | with_reducible rfl)
    simp only [Act.put, List.setIfInBounds_toArray, List.set_cons_zero, List.set_cons_succ]
    refine Till.val (i := 3) ?_ 37 rfl rfl rfl (by kernel_rfl) (by decide) (by kernel_rfl) (by kernel_rfl) (by kernel_rfl) (by kernel_rfl) (by rfl) (fun _ _ _ h => h) hF0 ?_ ?_
    rotate_left
    · (intro w hSw; obtain ⟨c1, c2, c3, c4, c5⟩ := hSw; go_simp; first | done | with_reducible rfl)
    simp only [Act.put, List.setIfInBounds_toArray, List.set_cons_zero, List.set_cons_succ]
    refine Till.val (i := 4) ?_ 38 rfl rfl rfl (by kernel_rfl) (by decide) (by kernel_rfl) (by kernel_rfl) (by kernel_rfl) (by kernel_rfl) (by rfl) (fun _ _ _ h => h) hF0 ?_ ?_
    rotate_left
    · (intro w hSw; obtain ⟨c1, c2, c3, c4, c5⟩ := hSw; go_simp; first | done | with_reducible rfl)
    simp only [Act.put, List.setIfInBounds_toArray, List.set_cons_zero, List.set_cons_succ]
    refine Till.last w7 rfl rfl (by kernel_rfl) (by decide) (by rfl) (by go_simp) ?_
    refine Till.done (by kernel_rfl) ?_ _
    clear hF0 hrun7'
    go_wp2
    go_ret
    exact ⟨rfl, by rw [HD.out]; exact HN.out⟩
  · have HD : Hid (callC C h x = C) := HE.out.2.1 rfl
    go_wp2
    go_ret
    exact ⟨rfl, by rw [HD.out]; exact Nx.of_below HW.out (below_step HB4.out HB5.out)⟩

def busyC (C : Cl) (h : Int) (x : Wt) : Cl := if (C (kyOf h x)).isSome then C.set (kyOf h x) (some true) else C

set_option maxHeartbeats 1600000 in
theorem busy_any (w : World) (A : Nat → Prop) (q : Nat) (L : List Wt) (C : Cl) (n : Nat) (H : Qw w A q L C n) (hn : n ≤ 1000000) (h : Int) (x : Wt) (hk : (kyOf h x).ok) :
    Calls Tryd.prog 18 #[qp q, .int .i64 h, wtV x] w fun e w' => e = .returned (.bool (C (kyOf h x)).isSome) ∧ Nx w w' A q L (busyC C h x) (n + 1) := by
  have HW : Hid (Qw w A q L C (n + 1)) := H.le (by omega)
  obtain ⟨ao, cap, b, H⟩ := H
  have hb0 : Below w.heap.size w (w.alloc (wtO x)) := (Below.refl _ _).alloc (Nat.le_refl _) _
  have HB0 : Hid (Below w.heap.size w (w.alloc (wtO x))) := hb0
  have HQ : Hid (Qu w A q ao cap b L C n) := H
  obtain ⟨th, hth⟩ : ∃ th, (C (kyOf h x)).isSome = th := ⟨_, rfl⟩
  obtain ⟨cv, hcv⟩ : ∃ cv, cnum (C (kyOf h x)) = cv := ⟨_, rfl⟩
  have HE : Hid ((th = false → busyC C h x = C) ∧ (th = true → busyC C h x = C.set (kyOf h x) (some true))) := by
    refine ⟨fun e => ?_, fun e => ?_⟩
    · unfold busyC; rw [hth, e]; rfl
    · unfold busyC; rw [hth, e]; rfl
  have HR : Hid ((C (kyOf h x)).isSome = th ∧ cnum (C (kyOf h x)) = cv ∧ (kyOf h x).ok) := ⟨hth, hcv, hk⟩
  rw [HR.out.1]
  clear hth hcv H hb0 hk
  go_enter Tryd.func18, Tryd.ntmps18
  go_upto_region 2 with (first
    | (go_at_call 36; refine (callFor_any h x _).mono ?_; rintro e w3 ⟨rfl, hb3⟩)
    | fail)
  have hb4 : Below w.heap.size w (w3.alloc (caO (kyOf h x))) := below_step (below_step HB0.out hb3) ((Below.refl _ _).alloc (Nat.le_refl _) _)
  have hg4 : (w3.alloc (caO (kyOf h x))).heap[w3.heap.size]? = some (caO (kyOf h x)) := heap_alloc_new w3 _
  obtain ⟨g4, hg⟩ : ∃ g, w3.heap.size = g := ⟨_, rfl⟩
  rw [hg] at hg4 ⊢
  have HB4 : Hid (Below w.heap.size w (w3.alloc (caO (kyOf h x)))) := hb4
  clear hb3 hb4 hg
  show Code.wp _ _ _ _ (w3.alloc (caO (kyOf h x)))
  generalize w3.alloc (caO (kyOf h x)) = W at *
  have HQW : Hid (Qu W A q ao cap b L C n) := HQ.out.below HB4.out
  have HCL : Hid (∀ V : World, Below W.heap.size W V → V.cell? ⟨q, 1, none⟩ = some (.map (some b)) ∧ (Instr.lookup 75 (.map (some b)) (wtV (kyOf h x)) true).run Tryd.prog V = .ok (.tuple #[.int .i64 cv, .bool th]) V ∧ V.cell? ⟨g4, 0, none⟩ = some (.int .i64 h) ∧ V.cell? ⟨g4, 1, none⟩ = some (.int .i64 x.p) ∧ V.cell? ⟨g4, 2, none⟩ = some (.int .i64 x.o) ∧ V.cell? ⟨g4, 3, none⟩ = some (.bool x.wr)) := fun V hV => by
    obtain ⟨f1, f2⟩ := look_facts HQW.out HR.out.2.2 hV
    rw [HR.out.1, HR.out.2.1] at f2
    exact ⟨f1, f2, wt_cells (x := kyOf h x) hg4 hV⟩
  clear hg4
  refine wp_region_sure (fun V => Below W.heap.size W V) (by kernel_rfl) (bel0 _) ?_
  refine Sure.val (i := 0) ?_ 14 rfl rfl (by kernel_rfl) (by kernel_rfl) (by kernel_rfl) (by rfl) ?_ ?_
  rotate_left
  · (intro w hSw; obtain ⟨c1, c2, c3, c4, c5, c6⟩ := HCL.out w hSw; go_simp; first | done | with_reducible rfl)
  simp only [Act.put, List.setIfInBounds_toArray, List.set_cons_zero, List.set_cons_succ]
  refine Sure.val (i := 1) ?_ 15 rfl rfl (by kernel_rfl) (by kernel_rfl) (by kernel_rfl) (by rfl) ?_ ?_
  rotate_left
  · (intro w hSw; obtain ⟨c1, c2, c3, c4, c5, c6⟩ := HCL.out w hSw; go_simp; first | done | with_reducible rfl)
  simp only [Act.put, List.setIfInBounds_toArray, List.set_cons_zero, List.set_cons_succ]
  refine Sure.val (i := 2) ?_ 16 rfl rfl (by kernel_rfl) (by kernel_rfl) (by kernel_rfl) (by rfl) ?_ ?_
  rotate_left
  · (intro w hSw; obtain ⟨c1, c2, c3, c4, c5, c6⟩ := HCL.out w hSw; go_simp; first | done | with_reducible rfl)
  simp only [Act.put, List.setIfInBounds_toArray, List.set_cons_zero, List.set_cons_succ]
  refine Sure.val (i := 3) ?_ 17 rfl rfl (by kernel_rfl) (by kernel_rfl) (by kernel_rfl) (by rfl) ?_ ?_
  rotate_left
  · (intro w hSw; obtain ⟨c1, c2, c3, c4, c5, c6⟩ := HCL.out w hSw; go_simp; first | done | with_reducible rfl)
  simp only [Act.put, List.setIfInBounds_toArray, List.set_cons_zero, List.set_cons_succ]
  refine Sure.val (i := 4) ?_ 18 rfl rfl (by kernel_rfl) (by kernel_rfl) (by kernel_rfl) (by rfl) ?_ ?_
  rotate_left
  · (intro w hSw; obtain ⟨c1, c2, c3, c4, c5, c6⟩ := HCL.out w hSw; go_simp; first | done | with_reducible rfl)
  simp only [Act.put, List.setIfInBounds_toArray, List.set_cons_zero, List.set_cons_succ]
  refine Sure.val (i := 5) ?_ 19 rfl rfl (by kernel_rfl) (by kernel_rfl) (by kernel_rfl) (by rfl) ?_ ?_
  rotate_left
  · (intro w hSw; obtain ⟨c1, c2, c3, c4, c5, c6⟩ := HCL.out w hSw; go_simp; first | done | with_reducible rfl)
  simp only [Act.put, List.setIfInBounds_toArray, List.set_cons_zero, List.set_cons_succ]
  refine Sure.val (i := 6) ?_ 13 rfl rfl (by kernel_rfl) (by kernel_rfl) (by kernel_rfl) (by rfl) ?_ ?_
  rotate_left
  · (intro w hSw; obtain ⟨c1, c2, c3, c4, c5, c6⟩ := HCL.out w hSw; go_simp; first | done | with_reducible rfl)
  simp only [Act.put, List.setIfInBounds_toArray, List.set_cons_zero, List.set_cons_succ]
  refine Sure.val (i := 7) ?_ 20 rfl rfl (by kernel_rfl) (by kernel_rfl) (by kernel_rfl) (by rfl) ?_ ?_
  rotate_left
  · (intro w hSw; obtain ⟨c1, c2, c3, c4, c5, c6⟩ := HCL.out w hSw; go_simp; first | done | with_reducible rfl)
  simp only [Act.put, List.setIfInBounds_toArray, List.set_cons_zero, List.set_cons_succ]
  refine Sure.val (i := 8) ?_ 21 rfl rfl (by kernel_rfl) (by kernel_rfl) (by kernel_rfl) (by rfl) ?_ ?_
  rotate_left
  · (intro w hSw; obtain ⟨c1, c2, c3, c4, c5, c6⟩ := HCL.out w hSw; go_simp; first | done | with_reducible rfl)
  simp only [Act.put, List.setIfInBounds_toArray, List.set_cons_zero, List.set_cons_succ]
  refine Sure.val (i := 9) ?_ 8 rfl rfl (by kernel_rfl) (by kernel_rfl) (by kernel_rfl) (by rfl) ?_ ?_
  rotate_left
  · (intro w hSw; obtain ⟨c1, c2, c3, c4, c5, c6⟩ := HCL.out w hSw; go_simp; first | done | with_reducible rfl)
  simp only [Act.put, List.setIfInBounds_toArray, List.set_cons_zero, List.set_cons_succ]
  refine Sure.val (i := 10) ?_ 9 rfl rfl (by kernel_rfl) (by kernel_rfl) (by kernel_rfl) (by rfl) ?_ ?_
  rotate_left
  · (intro w hSw; obtain ⟨c1, c2, c3, c4, c5, c6⟩ := HCL.out w hSw; go_simp; first | done | with_reducible rfl)
  simp only [Act.put, List.setIfInBounds_toArray, List.set_cons_zero, List.set_cons_succ]
  refine Sure.done (by kernel_rfl) ?_ _
  intro W5 hSw'
  have HB5 : Hid (Below W.heap.size W W5) := hSw'
  clear hSw'
  cases th
  · have HD : Hid (busyC C h x = C) := HE.out.1 rfl
    go_wp2
    go_ret
    exact ⟨rfl, by rw [HD.out]; exact Nx.of_below HW.out (below_step HB4.out HB5.out)⟩
  · have HD : Hid (busyC C h x = C.set (kyOf h x) (some true)) := HE.out.2 rfl
    go_upto_region 4 with fail
    have HQ5 : Hid (Qu W5 A q ao cap b L C n) := HQW.out.below HB5.out
    have hF0 : W5.drew.cell? ⟨q, 1, none⟩ = some (.map (some b)) ∧ W5.drew.cell? ⟨g4, 0, none⟩ = some (.int .i64 h) ∧ W5.drew.cell? ⟨g4, 1, none⟩ = some (.int .i64 x.p) ∧ W5.drew.cell? ⟨g4, 2, none⟩ = some (.int .i64 x.o) ∧ W5.drew.cell? ⟨g4, 3, none⟩ = some (.bool x.wr) := by
      obtain ⟨f1, -, f3, f4, f5, f6⟩ := HCL.out W5.drew (below_step HB5.out (bel0 _))
      exact ⟨f1, f3, f4, f5, f6⟩
    obtain ⟨w7, hrun7, hm7, ht7⟩ := (HQ5.out.below (bel0 _)).map.put (by unfold maxLen; omega) HR.out.2.2 true
    have hrun7' : (Instr.mapUpdate 75 (.map (some b)) (.agg #[.int .i64 h, .int .i64 x.p, .int .i64 x.o, .bool x.wr]) (.int .i64 1)).run Tryd.prog W5.drew = .ok () w7 := hrun7
    have HN : Hid (Nx w w7 A q L (C.set (kyOf h x) (some true)) (n + 1)) := Nx.older (below_step (below_step HB4.out HB5.out) (bel0 _)) ((HQ5.out.below (bel0 _)).turned ht7.grown hm7)
    clear hrun7 hm7 ht7
    refine wp_region_till (fun V => V.cell? ⟨q, 1, none⟩ = some (.map (some b)) ∧ V.cell? ⟨g4, 0, none⟩ = some (.int .i64 h) ∧ V.cell? ⟨g4, 1, none⟩ = some (.int .i64 x.p) ∧ V.cell? ⟨g4, 2, none⟩ = some (.int .i64 x.o) ∧ V.cell? ⟨g4, 3, none⟩ = some (.bool x.wr)) 5 (by kernel_rfl) ?_
    refine Till.val (i := 0) ?_ 23 rfl rfl rfl (by kernel_rfl) (by decide) (by kernel_rfl) (by kernel_rfl) (by kernel_rfl) (by kernel_rfl) (by rfl) (fun _ _ _ h => h) hF0 ?_ ?_
    rotate_left
    · (intro w hSw; obtain ⟨c1, c2, c3, c4, c5⟩ := hSw; go_simp; first | done | with_reducible rfl)
    simp only [Act.put, List.setIfInBounds_toArray, List.set_cons_zero, List.set_cons_succ]
    refine Till.val (i := 1) ?_ 24 rfl rfl rfl (by kernel_rfl) (by decide) (by kernel_rfl) (by kernel_rfl) (by kernel_rfl) (by kernel_rfl) (by rfl) (fun _ _ _ h => h) hF0 ?_ ?_
    rotate_left
    · (intro w hSw; obtain ⟨c1, c2, c3, c4, c5⟩ := hSw; go_simp; first | done | with_reducible rfl)
    simp only [Act.put, List.setIfInBounds_toArray, List.set_cons_zero, List.set_cons_succ]
    refine Till.val (i := 2) ?_ 25 rfl rfl rfl (by kernel_rfl) (by decide) (by kernel_rfl) (by kernel_rfl) (by kernel_rfl) (by kernel_rfl) (by rfl) (fun _ _ _ h => h) hF0 ?_ ?_
    rotate_left
    · (intro w hSw; obtain ⟨c1, c2, c3, c4, c5⟩ := hSw; go_simp; first | done | with_reducible rfl)
    simp only [Act.put, List.setIfInBounds_toArray, List.set_cons_zero, List.set_cons_succ]
    refine Till.val (i := 3) ?_ 26 rfl rfl rfl (by kernel_rfl) (by decide) (by kernel_rfl) (by kernel_rfl) (by kernel_rfl) (by kernel_rfl) (by rfl) (fun _ _ _ h => h) hF0 ?_ ?_
    rotate_left
    · (intro w hSw; obtain ⟨c1, c2, c3, c4, c5⟩ := hSw; go_simp; first | done | with_reducible rfl)
    simp only [Act.put, List.setIfInBounds_toArray, List.set_cons_zero, List.set_cons_succ]
    refine Till.val (i := 4) ?_ 27 rfl rfl rfl (by kernel_rfl) (by decide) (by kernel_rfl) (by kernel_rfl) (by kernel_rfl) (by kernel_rfl) (by rfl) (fun _ _ _ h => h) hF0 ?_ ?_
    rotate_left
    · (intro w hSw; obtain ⟨c1, c2, c3, c4, c5⟩ := hSw; go_simp; first | done | with_reducible rfl)
    simp only [Act.put, List.setIfInBounds_toArray, List.set_cons_zero, List.set_cons_succ]
    refine Till.last w7 rfl rfl (by kernel_rfl) (by decide) (by rfl) (by go_simp) ?_
    refine Till.done (by kernel_rfl) ?_ _
    clear hF0 hrun7'
    go_wp2
    go_ret
    exact ⟨rfl, by rw [HD.out]; exact HN.out⟩

end Go.Proofs.YtllggjkhbecalaaDoor
