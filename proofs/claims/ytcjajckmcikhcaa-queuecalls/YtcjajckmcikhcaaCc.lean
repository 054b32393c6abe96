/- One call and what becomes of it: QueueCalls' walk. -/
import Derived.Test.YtcjajckmcikhcaaQ8
namespace Go.Proofs.Ytcjajckmcikhcaa
open Go.RowKit Go.Maps
set_option linter.unusedVariables false

/-- A queue in which nobody waits and at most call k is there, in state v; beside it a want in a block of its own. -/
def Cx (w W : World) (q g : Nat) (x k : Wt) (v : Option Bool) (n : Nat) : Prop :=
  ∃ C : Cl, Qx w.heap.size (fun j => j = g) W q [] C n ∧ C k = v ∧ (∀ j, j ≠ k → C j = none) ∧ W.heap[g]? = some (wtO x) ∧ Below w.heap.size w W

section
variable {w W W' : World} {q g : Nat} {x k : Wt} {v : Option Bool} {n : Nat}
theorem Cx.hx (h : Cx w W q g x k v n) : W.heap[g]? = some (wtO x) := by obtain ⟨_, _, _, _, h, _⟩ := h; exact h
theorem Cx.bel (h : Cx w W q g x k v n) : Below w.heap.size w W := by obtain ⟨_, _, _, _, _, h⟩ := h; exact h
theorem Cx.below (h : Cx w W q g x k v n) (hb : Below W.heap.size W W') : Cx w W' q g x k v n := by
  obtain ⟨C, h1, h2, h3, h4, h5⟩ := h
  exact ⟨C, h1.below hb, h2, h3, (hb.block g (Array.getElem?_eq_some_iff.1 h4).1).trans h4, below_step h5 hb⟩
theorem Cx.cells (h : Cx w W q g x k v n) : W.cell? ⟨g, 0, none⟩ = some (.int .i64 x.c) ∧ W.cell? ⟨g, 1, none⟩ = some (.int .i64 x.p) ∧ W.cell? ⟨g, 2, none⟩ = some (.int .i64 x.o) ∧ W.cell? ⟨g, 3, none⟩ = some (.bool x.wr) := wt_cells h.hx (Below.refl _ _)
theorem cx_v {g : Nat} {o : Obj} (h : W.heap[g]? = some o) : ∀ j, j = g → j < W.heap.size := by
  rintro j rfl
  exact (Array.getElem?_eq_some_iff.1 h).1
theorem Cx.mk' {C : Cl} {C' : Cl} {n' : Nat} {v' : Option Bool} (h4 : W.heap[g]? = some (wtO x)) (h5 : Below w.heap.size w W) (s : Sx w.heap.size (fun j => j = g) W W' q [] C' n') (h2 : C' k = v') (h3 : ∀ j, j ≠ k → C' j = none) : Cx w W' q g x k v' n' :=
  ⟨C', s.qx, h2, h3, (s.keep g rfl).trans h4, h5.trans s.bel⟩
end

section
variable {w W : World} {q g : Nat} {h : Int} {x : Wt} {v : Option Bool} {n : Nat}
theorem cx_call (H : Cx w W q g x (kyOf h x) v n) (hn : n ≤ 1000) (r : Bool) (v' : Option Bool) (hr : (cliB h && (objB x.p x.o && !v.isSome)) = r) (hv : (if r then some false else v) = v') :
    Calls Try.prog 12 #[qp q, .int .i64 h, wtV x] W fun e w' => e = .returned (.bool r) ∧ Hid (Cx w w' q g x (kyOf h x) v' (n + 1)) := by
  obtain ⟨C, h1, h2, h3, h4, h5⟩ := H
  refine (callX h1 (cx_v h4) h5.size (by omega) h x).mono ?_
  rintro e w' ⟨rfl, s⟩
  have hb : callB C h x = r := by unfold callB; rw [h2]; exact hr
  refine ⟨by rw [hb], Cx.mk' (C := C) h4 h5 s ?_ ?_⟩
  · unfold callC
    rw [hb, ← hv]
    cases r
    · exact h2
    · simp [Cl.set_self]
  · intro j hj
    unfold callC
    rw [hb]
    cases r
    · exact h3 j hj
    · simp only [if_true]
      rw [Cl.set_other _ _ hj]
      exact h3 j hj
theorem cx_called (H : Cx w W q g x (kyOf h x) v n) (hk : (kyOf h x).ok) (r1 r2 : Bool) (hr1 : v.isSome = r1) (hr2 : decide (v = some true) = r2) :
    Calls Try.prog 24 #[qp q, .int .i64 h, wtV x] W fun e w' => e = .returned (.tuple #[.bool r1, .bool r2]) ∧ Hid (Cx w w' q g x (kyOf h x) v n) := by
  have H' := H
  obtain ⟨C, h1, h2, h3, h4, h5⟩ := H
  refine (called_any _ _ _ _ _ _ (h1 : Qx _ _ _ _ _ _ _) h x hk).mono ?_
  rintro e w' ⟨rfl, hb⟩
  exact ⟨by rw [h2, hr1, hr2], H'.below hb⟩
theorem cx_out (H : Cx w W q g x (kyOf h x) v n) (r : Bool) (hr : decide (v = some false) = r) :
    Calls Try.prog 26 #[qp q, .int .i64 h, .int .i64 x.p] W fun e w' => e = .returned (.bool r) ∧ Hid (Cx w w' q g x (kyOf h x) v n) := by
  have H' := H
  obtain ⟨C, h1, h2, h3, h4, h5⟩ := H
  refine (out_any _ _ _ _ _ _ (h1 : Qx _ _ _ _ _ _ _) h x.p).mono ?_
  rintro e w' ⟨rfl, hb⟩
  refine ⟨?_, H'.below hb⟩
  have : outB C h x.p = r := by
    cases r
    · refine outB_false ?_
      rintro ⟨j, hj, _, _⟩
      by_cases e : j = kyOf h x
      · subst e
        rw [h2] at hj
        exact absurd hj (by simpa using hr)
      · rw [h3 j e] at hj
        cases hj
    · exact outB_true ⟨kyOf h x, by rw [h2]; simpa using hr, rfl, rfl⟩
  rw [this]
theorem cx_busy (H : Cx w W q g x (kyOf h x) v n) (hk : (kyOf h x).ok) (hn : n ≤ 1000) (r : Bool) (v' : Option Bool) (hr : v.isSome = r) (hv : (if r then some true else none) = v') :
    Calls Try.prog 14 #[qp q, .int .i64 h, wtV x] W fun e w' => e = .returned (.bool r) ∧ Hid (Cx w w' q g x (kyOf h x) v' (n + 1)) := by
  obtain ⟨C, h1, h2, h3, h4, h5⟩ := H
  refine (busyX h1 (cx_v h4) h5.size (by omega) h x hk).mono ?_
  rintro e w' ⟨rfl, s⟩
  have hb : (C (kyOf h x)).isSome = r := by rw [h2]; exact hr
  refine ⟨by rw [hb], Cx.mk' (C := C) h4 h5 s ?_ ?_⟩
  · unfold busyC
    rw [hb, ← hv]
    cases r
    · show C (kyOf h x) = none
      rw [h2]
      exact Option.not_isSome_iff_eq_none.1 (by rw [hr]; simp)
    · simp [Cl.set_self]
  · intro j hj
    unfold busyC
    rw [hb]
    cases r
    · exact h3 j hj
    · simp only [if_true]
      rw [Cl.set_other _ _ hj]
      exact h3 j hj
theorem cx_gone (H : Cx w W q g x (kyOf h x) v n) (o : Int) (v' : Option Bool) (hv : (if h = o then none else v) = v') :
    Calls Try.prog 22 #[qp q, .int .i64 o] W fun e w' => e = .returned (.tuple #[]) ∧ Hid (Cx w w' q g x (kyOf h x) v' n) := by
  obtain ⟨C, h1, h2, h3, h4, h5⟩ := H
  refine (goneX h1 (cx_v h4) h5.size (by decide) o).mono ?_
  rintro e w' ⟨rfl, s⟩
  refine ⟨rfl, Cx.mk' (C := C) h4 h5 s ?_ ?_⟩
  · unfold goneC
    rw [← hv, h2]
  · intro j hj
    unfold goneC
    rw [h3 j hj]
    split <;> rfl
theorem cx_answer (H : Cx w W q g x (kyOf h x) v n) (k' : Wt) (hk' : k'.ok) (v' : Option Bool) (hc : k'.c = h) (hp : k'.p = x.p) (ho : k'.o = x.o) (hv : (if k'.wr = x.wr then none else v) = v') :
    Calls Try.prog 20 #[qp q, .int .i64 h, .int .i64 x.p, .int .i64 x.o, .bool k'.wr] W fun e w' => e = .returned (.tuple #[]) ∧ Hid (Cx w w' q g x (kyOf h x) v' n) := by
  obtain ⟨C, h1, h2, h3, h4, h5⟩ := H
  have hA := answerX h1 (cx_v h4) h5.size k' hk'
  rw [hc, hp, ho] at hA
  refine hA.mono ?_
  rintro e w' ⟨rfl, s⟩
  refine ⟨rfl, Cx.mk' (C := C) h4 h5 s ?_ ?_⟩
  · rw [← hv]
    by_cases e : k'.wr = x.wr
    · have : k' = kyOf h x := wt_eq.1 ⟨hc, hp, ho, e⟩
      rw [this, Cl.set_self]
      simp
    · rw [if_neg e, Cl.set_other _ _ (fun e' => e (by rw [← e']))]
      exact h2
  · intro j hj
    by_cases e : j = k'
    · rw [e, Cl.set_self]
    · rw [Cl.set_other _ _ e]
      exact h3 j hj
end

theorem Qx_mk {w0 wA w1 : World} {q g : Nat} {o : Obj} (h : Qx wA.heap.size (fun _ => False) w1 q [] C0 0) (hg : wA.heap[g]? = some o) (hs : w0.heap.size ≤ wA.heap.size) : Qx w0.heap.size (fun j => j = g) w1 q [] C0 0 :=
  Qw.mono h fun k hk ha => ⟨Nat.le_trans hs ha.1, ha.2.1, by rintro rfl; have := (Array.getElem?_eq_some_iff.1 hg).1; have := ha.1; omega⟩

set_option maxRecDepth 100000 in
set_option maxHeartbeats 3200000 in
theorem calls_true (h o : Int) (x : Wt) (w : World) (hk : (kyOf h x).ok) (hne : h ≠ o) (hb : (cliB h && (objB x.p x.o && true)) = true) :
    Calls Try.prog 6 #[.int .i64 h, .int .i64 o, wtV x] w fun e w' => e = .returned (.bool true) ∧ Below w.heap.size w w' := by
  have HK : Hid ((kyOf h x).ok) := hk
  have HN : Hid (¬ h = o) := hne
  have HB : Hid ((cliB h && (objB x.p x.o && true)) = true) := hb
  have HB2 : Hid ((cliB h && (objB x.p x.o && !(some false : Option Bool).isSome)) = false) := by
    show _ = _
    simp
  have e0 : (h == o) = false := by simpa using hne
  have hb0 : Below w.heap.size w (w.alloc (wtO x)) := (Below.refl _ _).alloc (Nat.le_refl _) _
  have HX0 : Hid (Below w.heap.size w (w.alloc (wtO x)) ∧ (w.alloc (wtO x)).heap[w.heap.size]? = some (wtO x) ∧ w.heap.size < (w.alloc (wtO x)).heap.size) := ⟨hb0, heap_alloc_new w _, by simp⟩
  clear hk hne hb hb0
  go_enter Try.func6, Try.ntmps6
  go_upto_region 8 with (first
    | (go_at_call 12; refine (cx_call H2.out (by decide) false (some false) HB2.out (by rfl)).mono ?_; rintro e w3 ⟨rfl, H3⟩; obtain ⟨p30, p31, p32, p33⟩ := H3.out.cells)
    | (go_at_call 12; refine (cx_call H1.out (by decide) true (some false) HB.out (by rfl)).mono ?_; rintro e w2 ⟨rfl, H2⟩; obtain ⟨p20, p21, p22, p23⟩ := H2.out.cells)
    | (go_at_call 8; refine (newX _).mono ?_; rintro e w1 ⟨q, rfl, hq1, hb1⟩; have H1 : Hid (Cx w w1 q w.heap.size x (kyOf h x) none 0) := ⟨C0, (Qx_mk hq1 HA.out.2.1 HA.out.1.size), rfl, fun _ _ => rfl, (hb1.block _ HA.out.2.2).trans HA.out.2.1, below_step HA.out.1 hb1⟩; clear hq1 hb1; obtain ⟨p10, p11, p12, p13⟩ := H1.out.cells)
    | (go_at_call 9; refine (alive_any _).mono ?_; rintro e wA ⟨rfl, hbA⟩; have HA : Hid (Below w.heap.size w wA ∧ wA.heap[w.heap.size]? = some (wtO x) ∧ w.heap.size < wA.heap.size) := ⟨below_step HX0.out.1 hbA, (hbA.block _ HX0.out.2.2).trans HX0.out.2.1, Nat.lt_of_lt_of_le HX0.out.2.2 hbA.size⟩; clear hbA)
    | fail)
  go_cut [58] (fun u wx => u = .bool false ∧ wx = w3)
  case first =>
    have hc : (0 ≤ h ∧ h < 4) ∧ 0 ≤ x.p ∧ x.p < 6 ∧ 0 ≤ x.o ∧ x.o < 4 := by
      have := HB.out
      simpa [cliB, objB] using this
    obtain ⟨⟨z1, z2⟩, z3, z4, z5, z6⟩ := hc
    go_wp2
    go_meet
    exact ⟨rfl, rfl⟩
  case rest =>
    obtain ⟨rfl, hw⟩ := hcut
    subst hw
    go_wp2_with (first
    | (go_at_call 24; refine (cx_called H14.out HK.out false false (by rfl) (by rfl)).mono ?_; rintro e w15 ⟨rfl, H15⟩; obtain ⟨p150, p151, p152, p153⟩ := H15.out.cells)
    | (go_at_call 22; refine (cx_gone H13.out h none (if_pos rfl)).mono ?_; rintro e w14 ⟨rfl, H14⟩; obtain ⟨p140, p141, p142, p143⟩ := H14.out.cells)
    | (go_at_call 12; refine (cx_call H12.out (by decide) true (some false) HB.out (by rfl)).mono ?_; rintro e w13 ⟨rfl, H13⟩; obtain ⟨p130, p131, p132, p133⟩ := H13.out.cells)
    | (go_at_call 24; refine (cx_called H11.out HK.out false false (by rfl) (by rfl)).mono ?_; rintro e w12 ⟨rfl, H12⟩; obtain ⟨p120, p121, p122, p123⟩ := H12.out.cells)
    | (go_at_call 20; refine (cx_answer H10.out (kyOf h x) HK.out none rfl rfl rfl (if_pos rfl)).mono ?_; rintro e w11 ⟨rfl, H11⟩; obtain ⟨p110, p111, p112, p113⟩ := H11.out.cells)
    | (go_at_call 24; refine (cx_called H9.out HK.out true true (by rfl) (by rfl)).mono ?_; rintro e w10 ⟨rfl, H10⟩; obtain ⟨p100, p101, p102, p103⟩ := H10.out.cells)
    | (go_at_call 20; refine (cx_answer H8.out ⟨h, x.p, x.o, !x.wr⟩ HK.out (some true) rfl rfl rfl (if_neg (by cases x.wr <;> simp))).mono ?_; rintro e w9 ⟨rfl, H9⟩; obtain ⟨p90, p91, p92, p93⟩ := H9.out.cells)
    | (go_at_call 22; refine (cx_gone H7.out o (some true) (if_neg HN.out)).mono ?_; rintro e w8 ⟨rfl, H8⟩; obtain ⟨p80, p81, p82, p83⟩ := H8.out.cells)
    | (go_at_call 26; refine (cx_out H6.out false (by rfl)).mono ?_; rintro e w7 ⟨rfl, H7⟩; obtain ⟨p70, p71, p72, p73⟩ := H7.out.cells)
    | (go_at_call 14; refine (cx_busy H5.out HK.out (by decide) true (some true) (by rfl) (by rfl)).mono ?_; rintro e w6 ⟨rfl, H6⟩; obtain ⟨p60, p61, p62, p63⟩ := H6.out.cells)
    | (go_at_call 26; refine (cx_out H4.out true (by rfl)).mono ?_; rintro e w5 ⟨rfl, H5⟩; obtain ⟨p50, p51, p52, p53⟩ := H5.out.cells)
    | (go_at_call 24; refine (cx_called H3.out HK.out true false (by rfl) (by rfl)).mono ?_; rintro e w4 ⟨rfl, H4⟩; obtain ⟨p40, p41, p42, p43⟩ := H4.out.cells)
    | fail)
    go_ret
    exact ⟨rfl, H15.out.bel⟩

set_option maxRecDepth 100000 in
set_option maxHeartbeats 3200000 in
theorem calls_false (h o : Int) (x : Wt) (w : World) (hk : (kyOf h x).ok) (hne : h ≠ o) (hb : (cliB h && (objB x.p x.o && true)) = false) :
    Calls Try.prog 6 #[.int .i64 h, .int .i64 o, wtV x] w fun e w' => e = .returned (.bool true) ∧ Below w.heap.size w w' := by
  have HK : Hid ((kyOf h x).ok) := hk
  have HN : Hid (¬ h = o) := hne
  have HB : Hid ((cliB h && (objB x.p x.o && true)) = false) := hb
  have HB2 : Hid ((cliB h && (objB x.p x.o && !(none : Option Bool).isSome)) = false) := by
    show _ = _
    exact hb
  have e0 : (h == o) = false := by simpa using hne
  have hb0 : Below w.heap.size w (w.alloc (wtO x)) := (Below.refl _ _).alloc (Nat.le_refl _) _
  have HX0 : Hid (Below w.heap.size w (w.alloc (wtO x)) ∧ (w.alloc (wtO x)).heap[w.heap.size]? = some (wtO x) ∧ w.heap.size < (w.alloc (wtO x)).heap.size) := ⟨hb0, heap_alloc_new w _, by simp⟩
  clear hk hne hb hb0
  go_enter Try.func6, Try.ntmps6
  go_upto_region 8 with (first
    | (go_at_call 12; refine (cx_call H2.out (by decide) false none HB2.out (by rfl)).mono ?_; rintro e w3 ⟨rfl, H3⟩; obtain ⟨p30, p31, p32, p33⟩ := H3.out.cells)
    | (go_at_call 12; refine (cx_call H1.out (by decide) false none HB.out (by rfl)).mono ?_; rintro e w2 ⟨rfl, H2⟩; obtain ⟨p20, p21, p22, p23⟩ := H2.out.cells)
    | (go_at_call 8; refine (newX _).mono ?_; rintro e w1 ⟨q, rfl, hq1, hb1⟩; have H1 : Hid (Cx w w1 q w.heap.size x (kyOf h x) none 0) := ⟨C0, (Qx_mk hq1 HA.out.2.1 HA.out.1.size), rfl, fun _ _ => rfl, (hb1.block _ HA.out.2.2).trans HA.out.2.1, below_step HA.out.1 hb1⟩; clear hq1 hb1; obtain ⟨p10, p11, p12, p13⟩ := H1.out.cells)
    | (go_at_call 9; refine (alive_any _).mono ?_; rintro e wA ⟨rfl, hbA⟩; have HA : Hid (Below w.heap.size w wA ∧ wA.heap[w.heap.size]? = some (wtO x) ∧ w.heap.size < wA.heap.size) := ⟨below_step HX0.out.1 hbA, (hbA.block _ HX0.out.2.2).trans HX0.out.2.1, Nat.lt_of_lt_of_le HX0.out.2.2 hbA.size⟩; clear hbA)
    | fail)
  go_cut [58] (fun u wx => u = .bool false ∧ wx = w3)
  case first =>
    have hc : ¬ ((0 ≤ h ∧ h < 4) ∧ 0 ≤ x.p ∧ x.p < 6 ∧ 0 ≤ x.o ∧ x.o < 4) := by
      intro hc
      have := HB.out
      simp [cliB, objB, hc] at this
    have HC : Hid (¬ ((0 ≤ h ∧ h < 4) ∧ 0 ≤ x.p ∧ x.p < 6 ∧ 0 ≤ x.o ∧ x.o < 4)) := hc
    clear hc
    by_cases z1 : 0 ≤ h
    · by_cases z2 : h < 4
      · by_cases z3 : 0 ≤ x.p
        · by_cases z4 : x.p < 6
          · by_cases z5 : 0 ≤ x.o
            · have z6 : ¬ x.o < 4 := fun z6 => HC.out ⟨⟨z1, z2⟩, z3, z4, z5, z6⟩
              go_wp2
              go_meet
              exact ⟨rfl, rfl⟩
            · go_wp2
              go_meet
              exact ⟨rfl, rfl⟩
          · go_wp2
            go_meet
            exact ⟨rfl, rfl⟩
        · go_wp2
          go_meet
          exact ⟨rfl, rfl⟩
      · go_wp2
        go_meet
        exact ⟨rfl, rfl⟩
    · go_wp2
      go_meet
      exact ⟨rfl, rfl⟩
  case rest =>
    obtain ⟨rfl, hw⟩ := hcut
    subst hw
    go_wp2_with (first
    | (go_at_call 24; refine (cx_called H14.out HK.out false false (by rfl) (by rfl)).mono ?_; rintro e w15 ⟨rfl, H15⟩; obtain ⟨p150, p151, p152, p153⟩ := H15.out.cells)
    | (go_at_call 22; refine (cx_gone H13.out h none (if_pos rfl)).mono ?_; rintro e w14 ⟨rfl, H14⟩; obtain ⟨p140, p141, p142, p143⟩ := H14.out.cells)
    | (go_at_call 12; refine (cx_call H12.out (by decide) false none HB.out (by rfl)).mono ?_; rintro e w13 ⟨rfl, H13⟩; obtain ⟨p130, p131, p132, p133⟩ := H13.out.cells)
    | (go_at_call 24; refine (cx_called H11.out HK.out false false (by rfl) (by rfl)).mono ?_; rintro e w12 ⟨rfl, H12⟩; obtain ⟨p120, p121, p122, p123⟩ := H12.out.cells)
    | (go_at_call 20; refine (cx_answer H10.out (kyOf h x) HK.out none rfl rfl rfl (if_pos rfl)).mono ?_; rintro e w11 ⟨rfl, H11⟩; obtain ⟨p110, p111, p112, p113⟩ := H11.out.cells)
    | (go_at_call 24; refine (cx_called H9.out HK.out false false (by rfl) (by rfl)).mono ?_; rintro e w10 ⟨rfl, H10⟩; obtain ⟨p100, p101, p102, p103⟩ := H10.out.cells)
    | (go_at_call 20; refine (cx_answer H8.out ⟨h, x.p, x.o, !x.wr⟩ HK.out none rfl rfl rfl (if_neg (by cases x.wr <;> simp))).mono ?_; rintro e w9 ⟨rfl, H9⟩; obtain ⟨p90, p91, p92, p93⟩ := H9.out.cells)
    | (go_at_call 22; refine (cx_gone H7.out o none (if_neg HN.out)).mono ?_; rintro e w8 ⟨rfl, H8⟩; obtain ⟨p80, p81, p82, p83⟩ := H8.out.cells)
    | (go_at_call 26; refine (cx_out H6.out false (by rfl)).mono ?_; rintro e w7 ⟨rfl, H7⟩; obtain ⟨p70, p71, p72, p73⟩ := H7.out.cells)
    | (go_at_call 14; refine (cx_busy H5.out HK.out (by decide) false none (by rfl) (by rfl)).mono ?_; rintro e w6 ⟨rfl, H6⟩; obtain ⟨p60, p61, p62, p63⟩ := H6.out.cells)
    | (go_at_call 26; refine (cx_out H4.out false (by rfl)).mono ?_; rintro e w5 ⟨rfl, H5⟩; obtain ⟨p50, p51, p52, p53⟩ := H5.out.cells)
    | (go_at_call 24; refine (cx_called H3.out HK.out false false (by rfl) (by rfl)).mono ?_; rintro e w4 ⟨rfl, H4⟩; obtain ⟨p40, p41, p42, p43⟩ := H4.out.cells)
    | fail)
    go_ret
    exact ⟨rfl, H15.out.bel⟩

theorem calls_main (h o : Int) (x : Wt) (w : World) (hk : (kyOf h x).ok) :
    Calls Try.prog 6 #[.int .i64 h, .int .i64 o, wtV x] w fun e w' => e = .returned (.bool true) ∧ Below w.heap.size w w' := by
  by_cases hne : h = o
  · subst hne
    have hb0 : Below w.heap.size w (w.alloc (wtO x)) := (Below.refl _ _).alloc (Nat.le_refl _) _
    have HX0 : Hid (Below w.heap.size w (w.alloc (wtO x))) := hb0
    clear hb0 hk
    go_enter Try.func6, Try.ntmps6
    go_wp2_with (first
      | (go_at_call 9; refine (alive_any _).mono ?_; rintro e wA ⟨rfl, hbA⟩; have HA : Hid (Below w.heap.size w wA) := below_step HX0.out hbA; clear hbA)
      | fail)
    go_ret
    exact ⟨rfl, HA.out⟩
  · cases hb : (cliB h && (objB x.p x.o && true))
    · exact calls_false h o x w hk hne hb
    · exact calls_true h o x w hk hne hb

end Go.Proofs.Ytcjajckmcikhcaa
