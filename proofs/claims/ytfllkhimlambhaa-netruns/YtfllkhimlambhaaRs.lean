/- The document's At (there is one) and Put, walked. -/
import Derived.Test.YtfllkhimlambhaaRr
namespace Go.Proofs.Ytfllkhimlambhaa
open Go.RowKit
set_option linter.unusedVariables false
set_option maxRecDepth 8000

theorem hasR_yes {R : Nat → Rw} {F : Nat → List Fv} {w : World} {U : Nat → Prop} (H : Rn w U R F) {z i : Int} (h : hasR R z i = true) : ∃ l k : Nat, z = (l : Int) ∧ i = (k : Int) ∧ l < 8 ∧ k < (F l).length := by
  unfold hasR at h
  rw [decide_eq_true_eq] at h
  obtain ⟨h1, h2, h3, h4⟩ := h
  have hl : z.toNat < 8 := by omega
  exact ⟨z.toNat, i.toNat, by omega, by omega, hl, by have := H.len _ hl; omega⟩

section
variable {P : Program} {ops : Array Oper} {Q : Exit → Act → World → Prop} {md : Region.Mode}
theorem held_append_rdI {S : World → Prop} {i : Nat} {oi : Oper} (d : Nat) (so x : Operand) (t : TypeId) {fuel : Nat} {l : Array Bool} {a : Act} {w : World} (hi : ops[i]? = some oi) (hd : oi.dst = some d) (hrd : Region.ready md ops l = [i])
    (hw : Region.wanted oi (yielded ops a.tmps) = true) (hop : oi.op = .call { callee := .builtin .append, args := #[so, x], argTypes := #[t, t] })
    (base : Nat) (e : TypeId) (k : IntKind) (z : Value) (bytes : Nat) (ht : P.underlying t = some (.slice e)) (hinfo : (P.info? e).map (fun i => (i.zero, i.size, i.bytes)) = some (some z, 1, bytes)) (hzs : z.cells.size = 1)
    {ao : Option Addr} {cap n : Nat} {xs : List Int} {ao' : Option Addr} {cap' m : Nat} {ys : List Int} (hs : a.eval so = .slice ao n cap) (hx : a.eval x = .slice ao' m cap') (hown : OwnI w base e k ao cap xs) (hr : RdI w k ao' cap' ys) (hn : xs.length = n) (hm : ys.length = m)
    (hbytes : (n + m) * bytes ≤ 140737488355328) (h63 : n + m ≤ maxLen) (hbase : base ≤ w.heap.size) (N : Nat) (hN : n + m = N)
    (h : ∀ ao2 cap2 w', OwnI w' base e k ao2 cap2 (xs ++ ys) → Below base w w' → S w' ∧ wpAnyH P md ops Q S fuel (l.setIfInBounds i true) (a.put (some d) (.slice ao2 N cap2)) w') : wpAnyH P md ops Q S (fuel + 1) l a w := by
  subst hn hm hN
  obtain ⟨ao2, cap2, w', hrr, h2, h3⟩ := run_append_rd (P := P) base t oi.type e z bytes ht hinfo hzs hown hr (ints_one _ _) (by simpa using hbytes) (by simpa using h63) hbase
  simp only [List.length_map] at hrr
  obtain ⟨h5, h6⟩ := h ao2 cap2 w' (by unfold OwnI; rw [List.map_append]; exact h2) h3
  refine held_run d _ w' hi hd hrd hw ?_ h5 h6
  unfold execOp
  simp only [hop, resolve, invoke, builtin, Sem.run_bind, Sem.run_pure, Result.andThen_ok, List.map_toArray, List.map_cons, List.map_nil, hs, hx, hrr]
end

theorem three_al (w : World) (o1 o2 o3 : Obj) : Below w.heap.size w (((w.alloc o1).alloc o2).alloc o3) ∧ (((w.alloc o1).alloc o2).alloc o3).heap[w.heap.size]? = some o1 ∧ (((w.alloc o1).alloc o2).alloc o3).heap[w.heap.size + 1]? = some o2 ∧ (((w.alloc o1).alloc o2).alloc o3).heap[w.heap.size + 2]? = some o3 := by
  obtain ⟨b, h1, h2⟩ := two_al w o1 o2
  have e : ((w.alloc o1).alloc o2).heap.size = w.heap.size + 2 := by simp
  have b3 : Below ((w.alloc o1).alloc o2).heap.size ((w.alloc o1).alloc o2) (((w.alloc o1).alloc o2).alloc o3) := (Below.refl _ _).alloc (Nat.le_refl _) _
  have n3 := heap_alloc_new ((w.alloc o1).alloc o2) o3
  rw [e] at n3
  exact ⟨below_step b b3, (b3.block _ (by omega)).trans h1, (b3.block _ (by omega)).trans h2, n3⟩

set_option maxHeartbeats 800000 in
theorem at_yes {w : World} {U : Nat → Prop} {R : Nat → Rw} {F : Nat → List Fv} (H : Rn w U R F) (l : Nat) (hl : l < 8) (k : Nat) (hk : k < (F l).length) : Calls Try.prog 28 #[rnV R, .int .i64 (l : Int), .int .i64 (k : Int)] w fun e w' => ∃ x, (F l)[k]? = some x ∧ e = .returned (.tuple #[fvV x, .bool true]) ∧ Below w.heap.size w w' := by
  obtain ⟨hb, hq, hz⟩ := two_al w (rnO R) (.cells #[.slice none 0 0, .bool false] 39)
  have HW : Hid (Below w.heap.size w ((w.alloc (rnO R)).alloc (.cells #[.slice none 0 0, .bool false] 39)) ∧ Bx ((w.alloc (rnO R)).alloc (.cells #[.slice none 0 0, .bool false] 39)) w.heap.size R ∧ ((w.alloc (rnO R)).alloc (.cells #[.slice none 0 0, .bool false] 39)).heap[w.heap.size + 1]? = some (itO ⟨none, 0, 0, [], false⟩)) := ⟨hb, Bx.of hq, hz⟩
  have HH : Hid (Rn ((w.alloc (rnO R)).alloc (.cells #[.slice none 0 0, .bool false] 39)) U R F) := H.below hb
  have HKl : Hid ((F l).length = (R l).n ∧ k < (F l).length) := ⟨H.len l hl, hk⟩
  clear hb hq hz H hk
  go_enter Try.func28, Try.ntmps28
  go_upto_region 1 with fail
  show Code.wp _ _ _ _ ((w.alloc (rnO R)).alloc (.cells #[.slice none 0 0, .bool false] 39))
  obtain ⟨q, hq⟩ : ∃ q, w.heap.size = q := ⟨_, rfl⟩
  obtain ⟨q6, hq6⟩ : ∃ q6, w.heap.size + 1 = q6 := ⟨_, rfl⟩
  rw [hq6, hq]
  have HW2 : Hid (Below w.heap.size w ((w.alloc (rnO R)).alloc (.cells #[.slice none 0 0, .bool false] 39)) ∧ Bx ((w.alloc (rnO R)).alloc (.cells #[.slice none 0 0, .bool false] 39)) q R ∧ ((w.alloc (rnO R)).alloc (.cells #[.slice none 0 0, .bool false] 39)).heap[q6]? = some (itO ⟨none, 0, 0, [], false⟩) ∧ w.heap.size ≤ q6) := by rw [← hq, ← hq6]; exact ⟨HW.out.1, HW.out.2.1, HW.out.2.2, by omega⟩
  clear HW hq hq6
  generalize (w.alloc (rnO R)).alloc (.cells #[.slice none 0 0, .bool false] 39) = W at *
  obtain ⟨x0, x1⟩ := itCells HW2.out.2.2.1
  have f6 := fun j => frozen_of_row W q6 j _ _ HW2.out.2.2.1
  have hc := HW2.out.2.1.c l hl
  obtain ⟨rb, x, hA, hx, hrl, hby, z0, z1⟩ := HH.out.at l k hl HKl.out.2
  have hl0 : ¬ (l : Int) < 0 := by omega
  have hl7 : ¬ (7 : Int) < (l : Int) := by omega
  have hlz : (l : Int) < 8 := by omega
  obtain ⟨n, hn⟩ : ∃ n, (R l).n = n := ⟨_, rfl⟩
  have hkn : k < n := by have := HKl.out; omega
  have hkn1 : ¬ (n : Int) ≤ (k : Int) := by omega
  rw [show sl (R l) = .slice (R l).ao (R l).n (R l).cap from rfl, hA, hn] at hc
  have HX : Hid ((F l)[k]? = some x) := hx
  have HZ : Hid (((W.setCell ⟨q6, 0, none⟩ (.slice x.ao x.n x.cap)).setCell ⟨q6, 1, none⟩ (.bool x.sp)).heap[q6]? = some (itO x) ∧ Below w.heap.size w ((W.setCell ⟨q6, 0, none⟩ (.slice x.ao x.n x.cap)).setCell ⟨q6, 1, none⟩ (.bool x.sp))) := by
    have h0 := heap_setCell_same W q6 0 _ 39 (.slice x.ao x.n x.cap) HW2.out.2.2.1
    simp only [List.setIfInBounds_toArray, List.set_cons_zero] at h0
    have h1 := heap_setCell_same _ q6 1 _ 39 (.bool x.sp) h0
    simp only [List.setIfInBounds_toArray, List.set_cons_zero, List.set_cons_succ] at h1
    exact ⟨h1, (HW2.out.1.setCell HW2.out.2.2.2 _).setCell HW2.out.2.2.2 _⟩
  clear hA hx hby hn
  go_wp2
  generalize (W.setCell ⟨q6, 0, none⟩ (.slice x.ao x.n x.cap)).setCell ⟨q6, 1, none⟩ (.bool x.sp) = W4 at *
  obtain ⟨u0, u1⟩ := itCells HZ.out.1
  refine bodyPost_ret (by simp [results, Try.results28, go_sem, u0, u1]; try rfl) rfl ?_
  exact ⟨x, HX.out, rfl, HZ.out.2⟩

/-- May one more be put? -/
def putR (R : Nat → Rw) (z : Int) : Bool := decide (0 ≤ z ∧ z < 8 ∧ (R z.toNat).n < 200)

set_option maxHeartbeats 1600000 in
theorem rput_no (R : Nat → Rw) (z : Int) (X : Fv) (w : World) (h : putR R z = false) : Calls Try.prog 13 #[rnV R, .int .i64 z, fvV X] w fun e w' => e = .returned (.tuple #[rnV R, .bool false]) ∧ Below w.heap.size w w' := by
  obtain ⟨hb, hq3, hq5, hq6⟩ := three_al w (rnO R) (itO X) (rnO r0)
  have HW : Hid (Below w.heap.size w (((w.alloc (rnO R)).alloc (itO X)).alloc (rnO r0)) ∧ Bx (((w.alloc (rnO R)).alloc (itO X)).alloc (rnO r0)) w.heap.size R ∧ (((w.alloc (rnO R)).alloc (itO X)).alloc (rnO r0)).heap[w.heap.size + 1]? = some (itO X) ∧ Bx (((w.alloc (rnO R)).alloc (itO X)).alloc (rnO r0)) (w.heap.size + 2) r0) := ⟨hb, Bx.of hq3, hq5, Bx.of hq6⟩
  clear hb hq3 hq5 hq6
  have HH : Hid (putR R z = false) := h
  clear h
  go_enter Try.func13, Try.ntmps13
  go_upto_region 1 with fail
  show Code.wp _ _ _ _ (((w.alloc (rnO R)).alloc (itO X)).alloc (rnO r0))
  obtain ⟨q3, hq3⟩ : ∃ q, w.heap.size = q := ⟨_, rfl⟩
  obtain ⟨q5, hq5⟩ : ∃ q, w.heap.size + 1 = q := ⟨_, rfl⟩
  obtain ⟨q6, hq6⟩ : ∃ q, w.heap.size + 2 = q := ⟨_, rfl⟩
  rw [hq6, hq5, hq3]
  have HW2 : Hid (Below w.heap.size w (((w.alloc (rnO R)).alloc (itO X)).alloc (rnO r0)) ∧ Bx (((w.alloc (rnO R)).alloc (itO X)).alloc (rnO r0)) q3 R ∧ (((w.alloc (rnO R)).alloc (itO X)).alloc (rnO r0)).heap[q5]? = some (itO X) ∧ Bx (((w.alloc (rnO R)).alloc (itO X)).alloc (rnO r0)) q6 r0 ∧ w.heap.size = q3 ∧ w.heap.size + 1 = q5 ∧ w.heap.size + 2 = q6) := by rw [← hq3, ← hq5, ← hq6]; exact ⟨HW.out.1, HW.out.2.1, HW.out.2.2.1, HW.out.2.2.2, rfl, rfl, rfl⟩
  clear HW hq3 hq5 hq6
  generalize ((w.alloc (rnO R)).alloc (itO X)).alloc (rnO r0) = W at *
  obtain ⟨c0, c1, c2, c3, c4, c5, c6, c7⟩ := HW2.out.2.1.all
  obtain ⟨d0, d1, d2, d3, d4, d5, d6, d7⟩ := HW2.out.2.2.2.1.all
  have f6 := HW2.out.2.2.2.1.fz
  have HZ : Hid (Bx (st8 W q6 R) q6 R ∧ Below w.heap.size w (st8 W q6 R)) := ⟨(st8_facts R HW2.out.2.2.2.1).1, st8_below R HW2.out.2.2.2.1 HW2.out.1 (by have := HW2.out; omega)⟩
  by_cases hz : 0 ≤ z ∧ z < 8
  · obtain ⟨l, rfl⟩ : ∃ l : Nat, z = (l : Int) := ⟨z.toNat, by omega⟩
    have hl : l < 8 := by omega
    have hc := HW2.out.2.1.c l hl
    have hl0 : ¬ (l : Int) < 0 := by omega
    have hl7 : ¬ (7 : Int) < (l : Int) := by omega
    have hlz : (l : Int) < 8 := by omega
    have hH := HH.out
    unfold putR at hH
    rw [Int.toNat_natCast, decide_eq_false_iff_not] at hH
    have hn200 : (200 : Int) ≤ ((R l).n : Int) := by omega
    clear hH hz
    rw [show sl (R l) = .slice (R l).ao (R l).n (R l).cap from rfl] at hc
    go_wp2
    unfold st8 at HZ
    generalize (((((((W.setCell ⟨q6, 0, none⟩ (.slice (R 0).ao (R 0).n (R 0).cap)).setCell ⟨q6, 1, none⟩ (.slice (R 1).ao (R 1).n (R 1).cap)).setCell ⟨q6, 2, none⟩ (.slice (R 2).ao (R 2).n (R 2).cap)).setCell ⟨q6, 3, none⟩ (.slice (R 3).ao (R 3).n (R 3).cap)).setCell ⟨q6, 4, none⟩ (.slice (R 4).ao (R 4).n (R 4).cap)).setCell ⟨q6, 5, none⟩ (.slice (R 5).ao (R 5).n (R 5).cap)).setCell ⟨q6, 6, none⟩ (.slice (R 6).ao (R 6).n (R 6).cap)).setCell ⟨q6, 7, none⟩ (.slice (R 7).ao (R 7).n (R 7).cap) = W4 at *
    obtain ⟨u0, u1, u2, u3, u4, u5, u6, u7⟩ := HZ.out.1.all
    refine bodyPost_ret (by simp [results, Try.results13, go_sem, u0, u1, u2, u3, u4, u5, u6, u7]; try rfl) rfl ?_
    exact ⟨rfl, HZ.out.2⟩
  · by_cases hz0 : z < 0
    · clear hz
      go_wp2
      unfold st8 at HZ
      generalize (((((((W.setCell ⟨q6, 0, none⟩ (.slice (R 0).ao (R 0).n (R 0).cap)).setCell ⟨q6, 1, none⟩ (.slice (R 1).ao (R 1).n (R 1).cap)).setCell ⟨q6, 2, none⟩ (.slice (R 2).ao (R 2).n (R 2).cap)).setCell ⟨q6, 3, none⟩ (.slice (R 3).ao (R 3).n (R 3).cap)).setCell ⟨q6, 4, none⟩ (.slice (R 4).ao (R 4).n (R 4).cap)).setCell ⟨q6, 5, none⟩ (.slice (R 5).ao (R 5).n (R 5).cap)).setCell ⟨q6, 6, none⟩ (.slice (R 6).ao (R 6).n (R 6).cap)).setCell ⟨q6, 7, none⟩ (.slice (R 7).ao (R 7).n (R 7).cap) = W4 at *
      obtain ⟨u0, u1, u2, u3, u4, u5, u6, u7⟩ := HZ.out.1.all
      refine bodyPost_ret (by simp [results, Try.results13, go_sem, u0, u1, u2, u3, u4, u5, u6, u7]; try rfl) rfl ?_
      exact ⟨rfl, HZ.out.2⟩
    · have hz7 : 7 < z := by omega
      clear hz
      go_wp2
      unfold st8 at HZ
      generalize (((((((W.setCell ⟨q6, 0, none⟩ (.slice (R 0).ao (R 0).n (R 0).cap)).setCell ⟨q6, 1, none⟩ (.slice (R 1).ao (R 1).n (R 1).cap)).setCell ⟨q6, 2, none⟩ (.slice (R 2).ao (R 2).n (R 2).cap)).setCell ⟨q6, 3, none⟩ (.slice (R 3).ao (R 3).n (R 3).cap)).setCell ⟨q6, 4, none⟩ (.slice (R 4).ao (R 4).n (R 4).cap)).setCell ⟨q6, 5, none⟩ (.slice (R 5).ao (R 5).n (R 5).cap)).setCell ⟨q6, 6, none⟩ (.slice (R 6).ao (R 6).n (R 6).cap)).setCell ⟨q6, 7, none⟩ (.slice (R 7).ao (R 7).n (R 7).cap) = W4 at *
      obtain ⟨u0, u1, u2, u3, u4, u5, u6, u7⟩ := HZ.out.1.all
      refine bodyPost_ret (by simp [results, Try.results13, go_sem, u0, u1, u2, u3, u4, u5, u6, u7]; try rfl) rfl ?_
      exact ⟨rfl, HZ.out.2⟩

end Go.Proofs.Ytfllkhimlambhaa
