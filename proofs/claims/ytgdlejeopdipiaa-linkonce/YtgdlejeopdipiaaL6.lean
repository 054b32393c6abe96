/- What fits and Got of package link do, walked. -/
import Derived.Test.YtgdlejeopdipiaaL4
namespace Go.Proofs.Ytgdlejeopdipiaa
open Go.RowKit
set_option linter.unusedVariables false

/-- Can the packet be one of the other end? -/
def fitB (I : LkI) (s : Nat) (P : PkG) : Bool := P.cl == I.cl && P.ep == I.ep && P.bo == I.bo && P.sv != I.sv && decide (P.ak ≤ (s : Int))

set_option maxHeartbeats 800000 in
theorem fits_any (w : World) (B g : Nat) (ao : Option Addr) (n cap : Nat) (V : Nat → Prop) (I : LkI) (L : List (List Nat)) (s h : Nat) (H : Lk w B g ao n cap V I L s h) (P : PkG) (u : Value) (b : Bool) (hb : fitB I s P = b) :
    Calls Try.prog 22 #[lp g, pkV P u] w fun e w' => e = .returned (.bool b) ∧ Below w.heap.size w w' := by
  have HA := (H.below ((Below.refl _ _).alloc (Nat.le_refl _) (pkO P u))).hd
  have h0 := HA.c0
  have h1 := HA.c1
  have h2 := HA.c2
  have h3 := HA.c3
  have h5 := HA.c5
  clear HA
  obtain ⟨cl, ep, bo, sq, ak, sv, bs⟩ := P
  obtain ⟨icl, iep, ibo, isv⟩ := I
  simp only at h0 h1 h2 h3 h5
  have HB : Hid (fitB ⟨icl, iep, ibo, isv⟩ s ⟨cl, ep, bo, sq, ak, sv, bs⟩ = b) := hb
  clear hb
  have fin : ∀ j, Below w.heap.size w ((w.alloc (pkO ⟨cl, ep, bo, sq, ak, sv, bs⟩ u)).drewN j) := fun j => ⟨rfl, rfl, rfl, by simp, fun k hk => heap_alloc_old w _ hk⟩
  have HFI : Hid (∀ j, Below w.heap.size w ((w.alloc (pkO ⟨cl, ep, bo, sq, ak, sv, bs⟩ u)).drewN j)) := fin
  clear fin
  cases q1 : (cl == icl)
  · go_enter Try.func22, Try.ntmps22
    go_wp2
    go_quiet (fail)
    go_wp2
    go_ret
    exact ⟨ret_bool (by rw [← HB.out]; simp [fitB, q1]), HFI.out _⟩
  · cases q2 : (ep == iep)
    · go_enter Try.func22, Try.ntmps22
      go_wp2
      go_quiet (fail)
      go_wp2
      go_ret
      exact ⟨ret_bool (by rw [← HB.out]; simp [fitB, q2]), HFI.out _⟩
    · cases q3 : (bo == ibo)
      · go_enter Try.func22, Try.ntmps22
        go_wp2
        go_quiet (fail)
        go_wp2
        go_ret
        exact ⟨ret_bool (by rw [← HB.out]; simp [fitB, q3]), HFI.out _⟩
      · cases q4 : (sv == isv)
        · go_enter Try.func22, Try.ntmps22
          go_wp2
          go_quiet (fail)
          go_wp2
          go_ret
          exact ⟨ret_bool (by rw [← HB.out]; simp [fitB, bne, q1, q2, q3, q4]), HFI.out _⟩
        · go_enter Try.func22, Try.ntmps22
          go_wp2
          go_quiet (fail)
          go_wp2
          go_ret
          exact ⟨ret_bool (by rw [← HB.out]; simp [fitB, bne, q4]), HFI.out _⟩

/-- Is a body told? -/
def gotB (I : LkI) (s h : Nat) (P : PkG) : Bool := fitB I s P && P.sq == (h : Int) + 1
/-- How many bodies are under way no more. -/
def gotC (I : LkI) (n s : Nat) (P : PkG) : Nat := if fitB I s P then came n s P.ak else 0
def gotH (I : LkI) (s h : Nat) (P : PkG) : Nat := if gotB I s h P then h + 1 else h
def gotX (I : LkI) (s h : Nat) (P : PkG) : List Nat := if gotB I s h P then P.bs else []

section
variable (w : World) (B g : Nat) (ao : Option Addr) (n cap : Nat) (V : Nat → Prop) (I : LkI) (L : List (List Nat)) (s h : Nat)

set_option maxHeartbeats 800000 in
theorem got_no (H : Lk w B g ao n cap V I L s h) (P : PkG) (u : Value) (hb : fitB I s P = false) :
    Calls Try.prog 14 #[lp g, pkV P u] w fun e w' => e = .returned (.tuple #[.slice none 0 0, .bool false]) ∧ Below w.heap.size w w' := by
  have HA := H.below ((Below.refl _ _).alloc (Nat.le_refl _) (pkO P u))
  go_enter Try.func14, Try.ntmps14
  go_wp2_with (first
    | (go_at_call 22; refine (fits_any _ _ _ _ _ _ _ _ _ _ _ HA P u false hb).mono ?_; rintro e w1 ⟨rfl, hb1⟩))
  go_ret2
  exact ⟨rfl, below_alloc (hb1.mono (by simp))⟩

theorem got_put (H : Lk w B g ao n cap V I L s h) (u : Value) (U : Nat → Prop) (bs : List Nat) (hy : By w U u bs) (q : Int) (hq : q = (h : Int) + 1) (hh : h < 16777215) (j : Nat) :
    Lk ((w.drewN j).setCell ⟨g, 6, none⟩ (.int .i64 q)) B g ao n cap V I L s (h + 1) ∧ By ((w.drewN j).setCell ⟨g, 6, none⟩ (.int .i64 q)) U u bs ∧ Off2 g ao w ((w.drewN j).setCell ⟨g, 6, none⟩ (.int .i64 q)) := by
  have hb : Below w.heap.size w (w.drewN j) := ⟨rfl, rfl, rfl, Nat.le_refl _, fun _ _ => rfl⟩
  have HJ := H.below hb
  have e : q = ((h + 1 : Nat) : Int) := by omega
  subst e
  obtain ⟨vs, ho, hbs⟩ := HJ.row
  refine ⟨⟨HJ.hd.put6 _, ⟨vs, ho.keep fun a ha => Below.heap_setCell _ _ _ _ (H.ne a ha), hbs.kt (KT.setCell _ HJ.hd.tyx)⟩, H.len, H.bg, H.le, H.sl, H.sm, by omega, H.sz⟩, (hy.below hb).kt (KT.setCell _ HJ.hd.tyx), (Off2.of_below (g := g) ao hb).setCell (p := ⟨g, 6, none⟩) rfl _⟩

set_option maxHeartbeats 1600000 in
theorem got_fit (H : Lk w B g ao n cap V I L s h) (P : PkG) (u : Value) (U : Nat → Prop) (hy : By w U u P.bs) (hm : P.bs.length ≤ 140737488355328) (hb : fitB I s P = true) (hh : h < 16777215) (c : Nat) (hc : came n s P.ak = c) :
    (P.sq = (h : Int) + 1 → Calls Try.prog 14 #[lp g, pkV P u] w fun e w' => ∃ v, e = .returned (.tuple #[v, .bool true]) ∧ By w' (fun k => w.heap.size ≤ k) v P.bs ∧ Lk w' B g ao (n - c) cap V I (L.drop c) s (h + 1) ∧ Off2 g ao w w') ∧
    (P.sq ≠ (h : Int) + 1 → Calls Try.prog 14 #[lp g, pkV P u] w fun e w' => e = .returned (.tuple #[.slice none 0 0, .bool false]) ∧ Lk w' B g ao (n - c) cap V I (L.drop c) s h ∧ Off2 g ao w w') := by
  have HA := H.below ((Below.refl _ _).alloc (Nat.le_refl _) (pkO P u))
  have hak : P.ak ≤ (s : Int) := by
    simp only [fitB, Bool.and_eq_true, decide_eq_true_eq] at hb
    exact hb.2
  have hyA := hy.below ((Below.refl _ _).alloc (Nat.le_refl _) (pkO P u))
  have hg := H.hd.lt
  have HG : Hid (∀ a, ao = some a → a.block < w.heap.size) := fun a ha => (H.ge a ha).2
  have HPK : Hid (∀ w1 : World, Below (w.alloc (pkO P u)).heap.size (w.alloc (pkO P u)) w1 → PkIn w1 w.heap.size 0 P u) := fun w1 h1 => (PkIn.new w P u).below h1
  have HW : Hid (∀ w1 w2 : World, Below (w.alloc (pkO P u)).heap.size (w.alloc (pkO P u)) w1 → Off2 g ao w1 w2 → PkIn w2 w.heap.size 0 P u ∧ Off2 g ao w w2 ∧ By w2 U u P.bs) := by
    intro w1 w2 h1 h2
    have hA1 := HA.below h1
    have hP1 := (PkIn.new w P u).below h1
    refine ⟨hP1.keep (h2.block _ hP1.lt (by omega) fun a ha => by have := HG.out a ha; omega), ?_, (hyA.below h1).kt (hA1.ktOff h2)⟩
    exact (Off2.of_below ao (below_alloc (h1.mono (by simp)))).trans h2 (Nw.refl _ _)
  have HF : Hid (∀ w1 : World, Below (w.alloc (pkO P u)).heap.size (w.alloc (pkO P u)) w1 → Calls Try.prog 23 #[lp g, .int .i64 P.ak] w1 fun e w' => e = .returned (.tuple #[]) ∧ Lk w' B g ao (n - c) cap V I (L.drop c) s h ∧ Off2 g ao w1 w') := fun w1 h1 => forget_any w1 B g ao n cap V I L s h (HA.below h1) P.ak hak c hc
  have hwr : IntKind.i64.wrap ((h : Int) + 1) = (h : Int) + 1 := by rw [IntKind.wrap_i64]; omega
  clear hc
  refine ⟨fun hsq => ?_, fun hsq => ?_⟩
  · have hq : (P.sq != (h : Int) + 1) = false := by simp [hsq]
    have hNg : w.heap.size ≠ g := by omega
    have HSQ : Hid (P.sq = (h : Int) + 1) := hsq
    clear hsq
    obtain ⟨ax, m, cx, hu, hrx, htx, hix⟩ := hy
    have HU : Hid (u = .slice ax m cx) := hu
    have hml : m ≤ 140737488355328 := by have := hrx.len; omega
    have HCL : Hid (∀ w2 : World, By w2 U u P.bs → Calls Try.prog 21 #[u] w2 fun e w' => ∃ v, e = .returned v ∧ By w' (fun k => w2.heap.size ≤ k) v P.bs ∧ Below w2.heap.size w2 w') := by
      rintro w2 ⟨a2, m2, c2, rfl, hr2, -, -⟩
      refine (clone_any a2 m2 c2 P.bs w2 hr2 (by have := hr2.len; omega)).mono ?_
      rintro e w' ⟨a3, c3, rfl, h1, h2⟩
      exact ⟨_, rfl, h1, h2⟩
    clear hu hrx htx hix
    go_enter Try.func14, Try.ntmps14
    go_upto_region 4 with (first
      | (go_at_call 23; refine (HF.out _ hb1).mono ?_; rintro e w2 ⟨rfl, hK2, hO2⟩; obtain ⟨hP2, hOw, hy2⟩ := HW.out w1 w2 hb1 hO2; have p3 := hP2.c3; have p6 := hP2.c6; simp only [Nat.zero_add] at p3 p6; have t6 := hK2.hd.c6; have tf := hK2.hd.fz 6)
      | (go_at_call 22; refine (fits_any _ _ _ _ _ _ _ _ _ _ _ HA P u true hb).mono ?_; rintro e w1 ⟨rfl, hb1⟩; have hP1 := HPK.out w1 hb1; have p4 := hP1.c4; simp only [Nat.zero_add] at p4))
    go_quiet (fail)
    have HQ : Hid (∀ j, Lk ((w2.drewN j).setCell ⟨g, 6, none⟩ (.int .i64 P.sq)) B g ao (n - c) cap V I (L.drop c) s (h + 1) ∧ By ((w2.drewN j).setCell ⟨g, 6, none⟩ (.int .i64 P.sq)) U u P.bs ∧ Off2 g ao w2 ((w2.drewN j).setCell ⟨g, 6, none⟩ (.int .i64 P.sq))) := got_put w2 B g ao (n - c) cap V I (L.drop c) s h hK2 u U P.bs hy2 P.sq HSQ.out hh
    go_wp2_with (first
      | (go_at_call 21; refine (HCL.out _ (HQ.out _).2.1).mono ?_; rintro e w3 ⟨v, rfl, hy3, hb3⟩))
    go_ret2
    obtain ⟨k1, k2, k3⟩ := HQ.out nq
    exact ⟨v, rfl, hy3.mono fun k _ hk => Nat.le_trans (Nat.le_trans hOw.size k3.size) hk, k1.below hb3, (hOw.trans k3 (Nw.refl _ _)).trans (Off2.of_below ao hb3) (Nw.refl _ _)⟩
  · have hq : (P.sq != (h : Int) + 1) = true := by simp [hsq]
    clear hsq
    go_enter Try.func14, Try.ntmps14
    go_upto_region 4 with (first
      | (go_at_call 23; refine (HF.out _ hb1).mono ?_; rintro e w2 ⟨rfl, hK2, hO2⟩; obtain ⟨hP2, hOw, hy2⟩ := HW.out w1 w2 hb1 hO2; have p3 := hP2.c3; have p6 := hP2.c6; simp only [Nat.zero_add] at p3 p6; have t6 := hK2.hd.c6; have tf := hK2.hd.fz 6)
      | (go_at_call 22; refine (fits_any _ _ _ _ _ _ _ _ _ _ _ HA P u true hb).mono ?_; rintro e w1 ⟨rfl, hb1⟩; have hP1 := HPK.out w1 hb1; have p4 := hP1.c4; simp only [Nat.zero_add] at p4))
    go_quiet (fail)
    go_wp2
    go_ret2
    have hbq : Below w2.heap.size w2 (w2.drewN nq) := ⟨rfl, rfl, rfl, Nat.le_refl _, fun _ _ => rfl⟩
    exact ⟨rfl, hK2.below hbq, hOw.trans (Off2.of_below ao hbq) (Nw.refl _ _)⟩

/-- Got, whatever the packet is. -/
theorem got_any (H : Lk w B g ao n cap V I L s h) (P : PkG) (u : Value) (U : Nat → Prop) (hy : By w U u P.bs) (hm : P.bs.length ≤ 140737488355328) (hh : h < 16777215) :
    Calls Try.prog 14 #[lp g, pkV P u] w fun e w' => ∃ v, e = .returned (.tuple #[v, .bool (gotB I s h P)]) ∧ By w' (fun k => w.heap.size ≤ k) v (gotX I s h P) ∧ Lk w' B g ao (n - gotC I n s P) cap V I (L.drop (gotC I n s P)) s (gotH I s h P) ∧ Off2 g ao w w' := by
  cases hb : fitB I s P
  · refine (got_no w B g ao n cap V I L s h H P u hb).mono ?_
    rintro e w' ⟨rfl, h1⟩
    have e1 : gotB I s h P = false := by simp [gotB, hb]
    have e2 : gotC I n s P = 0 := by simp [gotC, hb]
    refine ⟨_, by rw [e1], by simp only [gotX, e1]; exact By.nil _ _, ?_, Off2.of_below ao h1⟩
    simp only [gotH, e1, e2]
    exact H.below h1
  · have e2 : gotC I n s P = came n s P.ak := by simp [gotC, hb]
    obtain ⟨k1, k2⟩ := got_fit w B g ao n cap V I L s h H P u U hy hm hb hh _ rfl
    by_cases hq : P.sq = (h : Int) + 1
    · refine (k1 hq).mono ?_
      rintro e w' ⟨v, rfl, h1, h2, h3⟩
      have e1 : gotB I s h P = true := by simp [gotB, hb, hq]
      refine ⟨v, by rw [e1], by simp only [gotX, e1]; exact h1, ?_, h3⟩
      simp only [gotH, e1, e2]
      exact h2
    · refine (k2 hq).mono ?_
      rintro e w' ⟨rfl, h2, h3⟩
      have e1 : gotB I s h P = false := by simp [gotB, hb, hq]
      refine ⟨_, by rw [e1], by simp only [gotX, e1]; exact By.nil _ _, ?_, h3⟩
      simp only [gotH, e1, e2]
      exact h2
end

end Go.Proofs.Ytgdlejeopdipiaa
