/- What Packets of package link does, walked. What fits and Got of package link do, walked. A link with its own blocks, and what a step leaves of it. No walk. -/
import Derived.Test.YtpofihiojhbfgaaGreatDoorB5
import Derived.Test.YtpofihiojhbfgaaGreatDoorB4
namespace Go.Proofs.YtpofihiojhbfgaaGreatDoor.Lnk
open Go.RowKit
set_option linter.unusedVariables false
set_option maxRecDepth 8000

def pksFrom (I : LkI) (h : Nat) : Int → List (List Nat) → List PkG
  | _, [] => []
  | q, b :: L => mkPk I h q b :: pksFrom I h (q + 1) L

theorem pksFrom_length (I : LkI) (h : Nat) : ∀ (L : List (List Nat)) (q : Int), (pksFrom I h q L).length = L.length
  | [], _ => rfl
  | b :: L, q => by simp [pksFrom, pksFrom_length I h L]
theorem pksFrom_snoc (I : LkI) (h : Nat) (b : List Nat) : ∀ (L : List (List Nat)) (q : Int), pksFrom I h q (L ++ [b]) = pksFrom I h q L ++ [mkPk I h (q + L.length) b]
  | [], q => by simp [pksFrom]
  | c :: L, q => by
    simp only [List.cons_append, pksFrom, pksFrom_snoc I h b L, List.length_cons]
    have : q + 1 + (L.length : Int) = q + ((L.length + 1 : Nat) : Int) := by omega
    rw [this]
def pksOf (I : LkI) (L : List (List Nat)) (s h : Nat) : List PkG := if L = [] then [mkPk I h 0 []] else pksFrom I h ((s : Int) - (L.length : Int) + 1) L

set_option maxHeartbeats 1600000 in
theorem packets_any (w : World) (B g : Nat) (ao : Option Addr) (n cap : Nat) (V : Nat → Prop) (I : LkI) (L : List (List Nat)) (s h : Nat) (H : Lk w B g ao n cap V I L s h) :
    Calls Tryz.prog 44 #[lp g] w fun e w' => ∃ v, e = .returned v ∧ Pks w' w.heap.size (fun k => w.heap.size ≤ k) v (pksOf I L s h) ∧ Below w.heap.size w w' := by
  have h4 := H.hd.c4
  have hle := H.le
  have hsl := H.sl
  have hsm := H.sm
  have hlen := H.len
  by_cases h0 : n = 0
  · have hL : L = [] := List.eq_nil_of_length_eq_zero (by omega)
    have HL : Hid (pksOf I L s h = [mkPk I h 0 []]) := by unfold Hid pksOf; rw [if_pos hL]
    have hd : decide ((n : Int) = 0) = true := by simp; omega
    have hd2 : ((n : Int) == 0) = true := by simp; omega
    have HN : Hid (n = 0) := h0
    clear hlen hL h0 hle hsl
    go_enter Tryz.func44, Tryz.ntmps44
    go_wp2_with (first
      | (go_at_call 74; refine (packet_any _ _ _ _ _ _ _ _ _ _ _ H 0 none 0 0 [] (Rd8.empty _) (by omega)).mono ?_; rintro e w1 ⟨u, rfl, hy1, hb1⟩))
    go_ret
    refine ⟨_, rfl, ?_, ?_⟩
    · rw [HL.out]
      exact Pks.built w1 _ _ (mkPk I h 0 []) u hb1.size (hy1.below ((Below.refl _ _).alloc (Nat.le_refl _) _))
    · exact hb1.alloc hb1.size _
  · obtain ⟨vs, ho, hbs⟩ := H.row
    have hvl : vs.length = n := hbs.len.trans hlen
    obtain ⟨r, hr⟩ := ho.place (by omega)
    subst hr
    have HL : Hid (pksOf I L s h = pksFrom I h ((s : Int) - (n : Int) + 1) (L.take n)) := by
      unfold Hid pksOf
      rw [if_neg (by intro e; subst e; simp at hlen; omega), hlen, List.take_of_length_le (by omega)]
    have HB : Hid (∀ (k : Nat) (W : World), k < n → Below w.heap.size w W → ∃ ax m cx bs, W.cell? ⟨r, k, none⟩ = some (.slice ax m cx) ∧ Rd8 W ax m cx bs ∧ m ≤ 700 ∧ pksFrom I h ((s : Int) - (n : Int) + 1) (L.take k) ++ [mkPk I h ((s : Int) - (n : Int) + 1 + (k : Int)) bs] = pksFrom I h ((s : Int) - (n : Int) + 1) (L.take (k + 1)) ∧ (pksFrom I h ((s : Int) - (n : Int) + 1) (L.take k)).length = k) := by
      intro k W hk hb
      have hkL : k < L.length := by omega
      have hkv : k < vs.length := by omega
      obtain ⟨ax, m, cx, e, hr, _, _⟩ := (hbs.each k vs[k] L[k] (by simp) (by simp)).below hb
      have hc := World.ownsRow.cellAt (ho.below hb) k (by omega)
      refine ⟨ax, m, cx, L[k], ?_, hr, ?_, ?_, ?_⟩
      · rw [hc, ← e]; simp
      · have := H.sz L[k] (List.getElem_mem _)
        have := hr.len
        omega
      · rw [List.take_succ_eq_append_getElem hkL, pksFrom_snoc, List.length_take, Nat.min_eq_left (by omega)]
      · rw [pksFrom_length, List.length_take]; omega
    have HK : Hid (∀ W, Below w.heap.size w W → Lk W B g (some ⟨r, 0, none⟩) n cap V I L s h) := fun W hW => H.below hW
    have hd2 : ((n : Int) == 0) = false := by simp; omega
    have hw1 : IntKind.i64.wrap ((s : Int) - (n : Int) + 1) = (s : Int) - (n : Int) + 1 := by rw [IntKind.wrap_i64]; omega
    clear hlen hvl ho hbs
    go_enter Tryz.func44, Tryz.ntmps44
    go_wp2_with (first
      | (go_at_call 75; refine (known_any _ _ _ _ _ _ _ _ _ _ _ H).mono ?_; rintro e w0 ⟨rfl, j0, hw⟩; subst w0))
    go_loopw [4, 24] (fun v i wr => ∃ k : Nat, k ≤ n ∧ i = .int .i64 k ∧ Pks wr w.heap.size (fun k => w.heap.size ≤ k) v (pksFrom I h ((s : Int) - (n : Int) + 1) (L.take k)) ∧ Below w.heap.size w wr) (fun _ i _ => n - (intOf i).toNat)
    case atStart => exact ⟨0, Nat.zero_le _, rfl, by simpa [pksFrom] using Pks.nil _ _ _, ⟨rfl, rfl, rfl, Nat.le_refl _, fun _ _ => rfl⟩⟩
    case round =>
      obtain ⟨k, hk, rfl, hp, hbel⟩ := hrel
      by_cases hlt : k < n
      · obtain ⟨ax, m, cx, bs, hc, hr, hm, hsn, hpl⟩ := HB.out k _ hlt hbel
        have HH := HK.out _ hbel
        have HSN : Hid (pksFrom I h ((s : Int) - (n : Int) + 1) (L.take k) ++ [mkPk I h ((s : Int) - (n : Int) + 1 + (k : Int)) bs] = pksFrom I h ((s : Int) - (n : Int) + 1) (L.take (k + 1))) := hsn
        have HPL : Hid ((pksFrom I h ((s : Int) - (n : Int) + 1) (L.take k)).length = k) := hpl
        have hw2 : IntKind.i64.wrap ((s : Int) - (n : Int) + 1 + (k : Int)) = (s : Int) - (n : Int) + 1 + (k : Int) := by rw [IntKind.wrap_i64]; omega
        clear hsn hpl
        go_wp2_with (first
          | (at_builtin; refine wpList_append_pks _ rfl _ _ rfl w.heap.size rfl rfl hp2 (Pks.built w1 w.heap.size _ (mkPk I h ((s : Int) - (n : Int) + 1 + (k : Int)) bs) u hs1 hy2).rd (by rw [HPL.out]; simp; omega) (by simp; omega) ?_; intro v3 w3 hp3 hg3 _)
          | (go_at_call 74; refine (packet_any _ _ _ _ _ _ _ _ _ _ _ HH ((s : Int) - (n : Int) + 1 + (k : Int)) ax m cx bs hr (by omega)).mono ?_; rintro e w1 ⟨u, rfl, hy1, hb1⟩; have hbw : Below w.heap.size w w1 := below_step hbel hb1; have hs1 := hbw.size; have hp2 := (hp.below hb1).below ((Below.refl _ _).alloc (Nat.le_refl _) (pkO (mkPk I h ((s : Int) - (n : Int) + 1 + (k : Int)) bs) u)); have hy2 : By (w1.alloc (pkO (mkPk I h ((s : Int) - (n : Int) + 1 + (k : Int)) bs) u)) (fun k => w.heap.size ≤ k) u bs := (hy1.mono fun j _ hj => Nat.le_trans hbel.size hj).below ((Below.refl _ _).alloc (Nat.le_refl _) _)))
        go_roundw
        case rel => exact ⟨k + 1, by omega, by go_num, by rw [← HSN.out]; exact hp3, (hbw.alloc hs1 _).trans (hp2.grownBelow (by simp; omega) hg3)⟩
        case measure => simp [intOf]; omega
      · have hkn : k = n := by omega
        subst hkn
        go_wp2
        go_ret
        exact ⟨_, rfl, by rw [HL.out]; exact hp, hbel⟩

end Go.Proofs.YtpofihiojhbfgaaGreatDoor.Lnk

namespace Go.Proofs.YtpofihiojhbfgaaGreatDoor.Lnk
open Go.RowKit
set_option linter.unusedVariables false
set_option maxRecDepth 8000

def fitB (I : LkI) (s : Nat) (P : PkG) : Bool := P.cl == I.cl && P.ep == I.ep && P.bo == I.bo && P.sv != I.sv && decide (P.ak ≤ (s : Int))

set_option maxHeartbeats 800000 in
theorem fits_any (w : World) (B g : Nat) (ao : Option Addr) (n cap : Nat) (V : Nat → Prop) (I : LkI) (L : List (List Nat)) (s h : Nat) (H : Lk w B g ao n cap V I L s h) (P : PkG) (u : Value) (b : Bool) (hb : fitB I s P = b) :
    Calls Tryz.prog 80 #[lp g, pkV P u] w fun e w' => e = .returned (.bool b) ∧ Below w.heap.size w w' := by
  have HA := (H.below ((Below.refl _ _).alloc (Nat.le_refl _) (pkO P u))).hd
  have h0 := HA.c0
  have h1 := HA.c1
  have h2 := HA.c2
  have h3 := HA.c3
  have h5 := HA.c5
  clear HA
  obtain ⟨cl, ep, bo, sq, ak, sv, bs⟩ := P
  obtain ⟨icl, iep, ibo, isv⟩ := I
  simp only at h0 h1 h2 h3 h5
  have HB : Hid (fitB ⟨icl, iep, ibo, isv⟩ s ⟨cl, ep, bo, sq, ak, sv, bs⟩ = b) := hb
  clear hb
  have fin : ∀ j, Below w.heap.size w ((w.alloc (pkO ⟨cl, ep, bo, sq, ak, sv, bs⟩ u)).drewN j) := fun j => ⟨rfl, rfl, rfl, by simp, fun k hk => heap_alloc_old w _ hk⟩
  have HFI : Hid (∀ j, Below w.heap.size w ((w.alloc (pkO ⟨cl, ep, bo, sq, ak, sv, bs⟩ u)).drewN j)) := fin
  clear fin
  cases q1 : (cl == icl)
  · go_enter Tryz.func80, Tryz.ntmps80
    go_wp2
    go_quiet (fail)
    go_wp2
    go_ret
    exact ⟨ret_bool (by rw [← HB.out]; simp [fitB, q1]), HFI.out _⟩
  · cases q2 : (ep == iep)
    · go_enter Tryz.func80, Tryz.ntmps80
      go_wp2
      go_quiet (fail)
      go_wp2
      go_ret
      exact ⟨ret_bool (by rw [← HB.out]; simp [fitB, q2]), HFI.out _⟩
    · cases q3 : (bo == ibo)
      · go_enter Tryz.func80, Tryz.ntmps80
        go_wp2
        go_quiet (fail)
        go_wp2
        go_ret
        exact ⟨ret_bool (by rw [← HB.out]; simp [fitB, q3]), HFI.out _⟩
      · cases q4 : (sv == isv)
        · go_enter Tryz.func80, Tryz.ntmps80
          go_wp2
          go_quiet (fail)
          go_wp2
          go_ret
          exact ⟨ret_bool (by rw [← HB.out]; simp [fitB, bne, q1, q2, q3, q4]), HFI.out _⟩
        · go_enter Tryz.func80, Tryz.ntmps80
          go_wp2
          go_quiet (fail)
          go_wp2
          go_ret
          exact ⟨ret_bool (by rw [← HB.out]; simp [fitB, bne, q4]), HFI.out _⟩

def gotB (I : LkI) (s h : Nat) (P : PkG) : Bool := fitB I s P && P.sq == (h : Int) + 1
def gotC (I : LkI) (n s : Nat) (P : PkG) : Nat := if fitB I s P then came n s P.ak else 0
def gotH (I : LkI) (s h : Nat) (P : PkG) : Nat := if gotB I s h P then h + 1 else h
def gotX (I : LkI) (s h : Nat) (P : PkG) : List Nat := if gotB I s h P then P.bs else []

section
variable (w : World) (B g : Nat) (ao : Option Addr) (n cap : Nat) (V : Nat → Prop) (I : LkI) (L : List (List Nat)) (s h : Nat)

set_option maxHeartbeats 800000 in
theorem got_no (H : Lk w B g ao n cap V I L s h) (P : PkG) (u : Value) (hb : fitB I s P = false) :
    Calls Tryz.prog 47 #[lp g, pkV P u] w fun e w' => e = .returned (.tuple #[.slice none 0 0, .bool false]) ∧ Below w.heap.size w w' := by
  have HA := H.below ((Below.refl _ _).alloc (Nat.le_refl _) (pkO P u))
  go_enter Tryz.func47, Tryz.ntmps47
  go_wp2_with (first
    | (go_at_call 80; refine (fits_any _ _ _ _ _ _ _ _ _ _ _ HA P u false hb).mono ?_; rintro e w1 ⟨rfl, hb1⟩))
  go_ret2
  exact ⟨rfl, below_alloc (hb1.mono (by simp))⟩

theorem got_put (H : Lk w B g ao n cap V I L s h) (u : Value) (U : Nat → Prop) (bs : List Nat) (hy : By w U u bs) (q : Int) (hq : q = (h : Int) + 1) (hh : h < 16777215) (j : Nat) :
    Lk ((w.drewN j).setCell ⟨g, 6, none⟩ (.int .i64 q)) B g ao n cap V I L s (h + 1) ∧ By ((w.drewN j).setCell ⟨g, 6, none⟩ (.int .i64 q)) U u bs ∧ Off2 g ao w ((w.drewN j).setCell ⟨g, 6, none⟩ (.int .i64 q)) := by
  have hb : Below w.heap.size w (w.drewN j) := ⟨rfl, rfl, rfl, Nat.le_refl _, fun _ _ => rfl⟩
  have HJ := H.below hb
  have e : q = ((h + 1 : Nat) : Int) := by omega
  subst e
  obtain ⟨vs, ho, hbs⟩ := HJ.row
  refine ⟨⟨HJ.hd.put6 _, ⟨vs, ho.keep fun a ha => Below.heap_setCell _ _ _ _ (H.ne a ha), hbs.kt (KT.setCell _ HJ.hd.tyx)⟩, H.len, H.bg, H.le, H.sl, H.sm, by omega, H.sz⟩, (hy.below hb).kt (KT.setCell _ HJ.hd.tyx), (Off2.of_below (g := g) ao hb).setCell (p := ⟨g, 6, none⟩) rfl _⟩

set_option maxHeartbeats 1600000 in
theorem got_fit (H : Lk w B g ao n cap V I L s h) (P : PkG) (u : Value) (U : Nat → Prop) (hy : By w U u P.bs) (hm : P.bs.length ≤ 140737488355328) (hb : fitB I s P = true) (hh : h < 16777215) (c : Nat) (hc : came n s P.ak = c) :
    (P.sq = (h : Int) + 1 → Calls Tryz.prog 47 #[lp g, pkV P u] w fun e w' => ∃ v, e = .returned (.tuple #[v, .bool true]) ∧ By w' (fun k => w.heap.size ≤ k) v P.bs ∧ Lk w' B g ao (n - c) cap V I (L.drop c) s (h + 1) ∧ Off2 g ao w w') ∧
    (P.sq ≠ (h : Int) + 1 → Calls Tryz.prog 47 #[lp g, pkV P u] w fun e w' => e = .returned (.tuple #[.slice none 0 0, .bool false]) ∧ Lk w' B g ao (n - c) cap V I (L.drop c) s h ∧ Off2 g ao w w') := by
  have HA := H.below ((Below.refl _ _).alloc (Nat.le_refl _) (pkO P u))
  have hak : P.ak ≤ (s : Int) := by
    simp only [fitB, Bool.and_eq_true, decide_eq_true_eq] at hb
    exact hb.2
  have hyA := hy.below ((Below.refl _ _).alloc (Nat.le_refl _) (pkO P u))
  have hg := H.hd.lt
  have HG : Hid (∀ a, ao = some a → a.block < w.heap.size) := fun a ha => (H.ge a ha).2
  have HPK : Hid (∀ w1 : World, Below (w.alloc (pkO P u)).heap.size (w.alloc (pkO P u)) w1 → PkIn w1 w.heap.size 0 P u) := fun w1 h1 => (PkIn.new w P u).below h1
  have HW : Hid (∀ w1 w2 : World, Below (w.alloc (pkO P u)).heap.size (w.alloc (pkO P u)) w1 → Off2 g ao w1 w2 → PkIn w2 w.heap.size 0 P u ∧ Off2 g ao w w2 ∧ By w2 U u P.bs) := by
    intro w1 w2 h1 h2
    have hA1 := HA.below h1
    have hP1 := (PkIn.new w P u).below h1
    refine ⟨hP1.keep (h2.block _ hP1.lt (by omega) fun a ha => by have := HG.out a ha; omega), ?_, (hyA.below h1).kt (hA1.ktOff h2)⟩
    exact (Off2.of_below ao (below_alloc (h1.mono (by simp)))).trans h2 (Nw.refl _ _)
  have HF : Hid (∀ w1 : World, Below (w.alloc (pkO P u)).heap.size (w.alloc (pkO P u)) w1 → Calls Tryz.prog 81 #[lp g, .int .i64 P.ak] w1 fun e w' => e = .returned (.tuple #[]) ∧ Lk w' B g ao (n - c) cap V I (L.drop c) s h ∧ Off2 g ao w1 w') := fun w1 h1 => forget_any w1 B g ao n cap V I L s h (HA.below h1) P.ak hak c hc
  have hwr : IntKind.i64.wrap ((h : Int) + 1) = (h : Int) + 1 := by rw [IntKind.wrap_i64]; omega
  clear hc
  refine ⟨fun hsq => ?_, fun hsq => ?_⟩
  · have hq : (P.sq != (h : Int) + 1) = false := by simp [hsq]
    have hNg : w.heap.size ≠ g := by omega
    have HSQ : Hid (P.sq = (h : Int) + 1) := hsq
    clear hsq
    obtain ⟨ax, m, cx, hu, hrx, htx, hix⟩ := hy
    have HU : Hid (u = .slice ax m cx) := hu
    have hml : m ≤ 140737488355328 := by have := hrx.len; omega
    have HCL : Hid (∀ w2 : World, By w2 U u P.bs → Calls Tryz.prog 73 #[u] w2 fun e w' => ∃ v, e = .returned v ∧ By w' (fun k => w2.heap.size ≤ k) v P.bs ∧ Below w2.heap.size w2 w') := by
      rintro w2 ⟨a2, m2, c2, rfl, hr2, -, -⟩
      refine (clone_any a2 m2 c2 P.bs w2 hr2 (by have := hr2.len; omega)).mono ?_
      rintro e w' ⟨a3, c3, rfl, h1, h2⟩
      exact ⟨_, rfl, h1, h2⟩
    clear hu hrx htx hix
    go_enter Tryz.func47, Tryz.ntmps47
    go_upto_region 4 with (first
      | (go_at_call 81; refine (HF.out _ hb1).mono ?_; rintro e w2 ⟨rfl, hK2, hO2⟩; obtain ⟨hP2, hOw, hy2⟩ := HW.out w1 w2 hb1 hO2; have p3 := hP2.c3; have p6 := hP2.c6; simp only [Nat.zero_add] at p3 p6; have t6 := hK2.hd.c6; have tf := hK2.hd.fz 6)
      | (go_at_call 80; refine (fits_any _ _ _ _ _ _ _ _ _ _ _ HA P u true hb).mono ?_; rintro e w1 ⟨rfl, hb1⟩; have hP1 := HPK.out w1 hb1; have p4 := hP1.c4; simp only [Nat.zero_add] at p4))
    go_quiet (fail)
    have HQ : Hid (∀ j, Lk ((w2.drewN j).setCell ⟨g, 6, none⟩ (.int .i64 P.sq)) B g ao (n - c) cap V I (L.drop c) s (h + 1) ∧ By ((w2.drewN j).setCell ⟨g, 6, none⟩ (.int .i64 P.sq)) U u P.bs ∧ Off2 g ao w2 ((w2.drewN j).setCell ⟨g, 6, none⟩ (.int .i64 P.sq))) := got_put w2 B g ao (n - c) cap V I (L.drop c) s h hK2 u U P.bs hy2 P.sq HSQ.out hh
    go_wp2_with (first
      | (go_at_call 73; refine (HCL.out _ (HQ.out _).2.1).mono ?_; rintro e w3 ⟨v, rfl, hy3, hb3⟩))
    go_ret2
    obtain ⟨k1, k2, k3⟩ := HQ.out nq
    exact ⟨v, rfl, hy3.mono fun k _ hk => Nat.le_trans (Nat.le_trans hOw.size k3.size) hk, k1.below hb3, (hOw.trans k3 (Nw.refl _ _)).trans (Off2.of_below ao hb3) (Nw.refl _ _)⟩
  · have hq : (P.sq != (h : Int) + 1) = true := by simp [hsq]
    clear hsq
    go_enter Tryz.func47, Tryz.ntmps47
    go_upto_region 4 with (first
      | (go_at_call 81; refine (HF.out _ hb1).mono ?_; rintro e w2 ⟨rfl, hK2, hO2⟩; obtain ⟨hP2, hOw, hy2⟩ := HW.out w1 w2 hb1 hO2; have p3 := hP2.c3; have p6 := hP2.c6; simp only [Nat.zero_add] at p3 p6; have t6 := hK2.hd.c6; have tf := hK2.hd.fz 6)
      | (go_at_call 80; refine (fits_any _ _ _ _ _ _ _ _ _ _ _ HA P u true hb).mono ?_; rintro e w1 ⟨rfl, hb1⟩; have hP1 := HPK.out w1 hb1; have p4 := hP1.c4; simp only [Nat.zero_add] at p4))
    go_quiet (fail)
    go_wp2
    go_ret2
    have hbq : Below w2.heap.size w2 (w2.drewN nq) := ⟨rfl, rfl, rfl, Nat.le_refl _, fun _ _ => rfl⟩
    exact ⟨rfl, hK2.below hbq, hOw.trans (Off2.of_below ao hbq) (Nw.refl _ _)⟩

theorem got_any (H : Lk w B g ao n cap V I L s h) (P : PkG) (u : Value) (U : Nat → Prop) (hy : By w U u P.bs) (hm : P.bs.length ≤ 140737488355328) (hh : h < 16777215) :
    Calls Tryz.prog 47 #[lp g, pkV P u] w fun e w' => ∃ v, e = .returned (.tuple #[v, .bool (gotB I s h P)]) ∧ By w' (fun k => w.heap.size ≤ k) v (gotX I s h P) ∧ Lk w' B g ao (n - gotC I n s P) cap V I (L.drop (gotC I n s P)) s (gotH I s h P) ∧ Off2 g ao w w' := by
  cases hb : fitB I s P
  · refine (got_no w B g ao n cap V I L s h H P u hb).mono ?_
    rintro e w' ⟨rfl, h1⟩
    have e1 : gotB I s h P = false := by simp [gotB, hb]
    have e2 : gotC I n s P = 0 := by simp [gotC, hb]
    refine ⟨_, by rw [e1], by simp only [gotX, e1]; exact By.nil _ _, ?_, Off2.of_below ao h1⟩
    simp only [gotH, e1, e2]
    exact H.below h1
  · have e2 : gotC I n s P = came n s P.ak := by simp [gotC, hb]
    obtain ⟨k1, k2⟩ := got_fit w B g ao n cap V I L s h H P u U hy hm hb hh _ rfl
    by_cases hq : P.sq = (h : Int) + 1
    · refine (k1 hq).mono ?_
      rintro e w' ⟨v, rfl, h1, h2, h3⟩
      have e1 : gotB I s h P = true := by simp [gotB, hb, hq]
      refine ⟨v, by rw [e1], by simp only [gotX, e1]; exact h1, ?_, h3⟩
      simp only [gotH, e1, e2]
      exact h2
    · refine (k2 hq).mono ?_
      rintro e w' ⟨rfl, h2, h3⟩
      have e1 : gotB I s h P = false := by simp [gotB, hb, hq]
      refine ⟨_, by rw [e1], by simp only [gotX, e1]; exact By.nil _ _, ?_, h3⟩
      simp only [gotH, e1, e2]
      exact h2
end

end Go.Proofs.YtpofihiojhbfgaaGreatDoor.Lnk

namespace Go.Proofs.YtpofihiojhbfgaaGreatDoor
open Go.RowKit
set_option linter.unusedVariables false
set_option maxRecDepth 8000

abbrev LkI := Lnk.LkI
abbrev cp (c : Nat) : Value := .pointer (some ⟨c, 0, none⟩)
def Ro (ao : Option Addr) : Nat → Prop := fun k => ∃ p, ao = some p ∧ p.block = k

def Lw (w : World) (D : Nat → Prop) (l : Nat) (I : LkI) (L : List (List Nat)) (s h : Nat) : Prop :=
  ∃ ao n cap, Lnk.Lk w 0 l ao n cap D I L s h ∧ D l ∧ (∀ x, ao = some x → D x.block) ∧ ∀ k, D k → k < w.heap.size

theorem Lnk.By.kept {w w' : World} {V : Nat → Prop} {v : Value} {bs : List Nat} (h : Lnk.By w V v bs) (hk : Kept V w w') : Lnk.By w' V v bs := by
  obtain ⟨ao, n, cap, rfl, h1, h2, h3⟩ := h
  refine ⟨ao, n, cap, rfl, h1.kept h3 hk, fun a ha => ?_, h3.mono hk.size fun k _ hv => hv⟩
  obtain ⟨cs, fr, hc⟩ := h2 a ha
  exact ⟨cs, fr, (hk.block _ (h3 a ha).2 (h3 a ha).1).trans hc⟩

structure Nl (w w' : World) (D : Nat → Prop) (l : Nat) (I : LkI) (L : List (List Nat)) (s h : Nat) : Prop where
  lk : ∃ D', (∀ k, D' k → D k ∨ w.heap.size ≤ k) ∧ Lw w' D' l I L s h
  off : OffS D w w'

section
variable {w w' w1 : World} {D : Nat → Prop} {l : Nat} {I : LkI} {L : List (List Nat)} {s h : Nat}
theorem Lw.lt (H : Lw w D l I L s h) : ∀ k, D k → k < w.heap.size := by
  obtain ⟨ao, n, cap, H1, h2, h3, h4⟩ := H
  exact h4
theorem Lw.keep (H : Lw w D l I L s h) (hs : w.heap.size ≤ w'.heap.size) (hk : ∀ k, D k → w'.heap[k]? = w.heap[k]?) : Lw w' D l I L s h := by
  obtain ⟨ao, n, cap, ⟨hd, ⟨vs, ho, hb⟩, r1, r2, r3, r4, r5, r6, r7⟩, h2, h3, h4⟩ := H
  exact ⟨ao, n, cap, ⟨hd.keep (hk l h2), ⟨vs, ho.keep fun a ha => hk _ (h3 a ha), ⟨hb.len, fun i v bs e1 e2 => (hb.each i v bs e1 e2).kept ⟨hs, fun k _ hD => hk k hD⟩⟩⟩, r1, r2, r3, r4, r5, r6, r7⟩, h2, h3, fun k hD => Nat.lt_of_lt_of_le (h4 k hD) hs⟩
theorem Lw.below (H : Lw w D l I L s h) (hb : Below w.heap.size w w') : Lw w' D l I L s h := H.keep hb.size fun k hk => hb.block k (H.lt k hk)
theorem Nl.of {ao ao2 : Option Addr} {n cap2 : Nat} (hD : D l) (ha : ∀ x, ao = some x → D x.block) (H2 : Lnk.Lk w' 0 l ao2 n cap2 (fun k => D k ∨ w.heap.size ≤ k) I L s h) (hO : Off2 l ao w w') (hN : Nw w ao ao2) : Nl w w' D l I L s h := by
  refine ⟨⟨fun k => (D k ∨ w.heap.size ≤ k) ∧ k < w'.heap.size, fun k hk => hk.1, ao2, n, cap2, H2.mono (Nat.le_refl 0) fun k hk hv => ⟨hv, hk⟩, ⟨.inl hD, H2.hd.lt⟩, fun x hx => ⟨?_, (H2.ge x hx).2⟩, fun k hk => hk.2⟩, hO.os, hO.tape, hO.output, hO.size, fun k hk hn => hO.block k hk (fun e => hn (e ▸ hD)) fun a e1 e2 => hn (e2 ▸ ha a e1)⟩
  rcases hN x hx with ⟨c, h1, h2⟩ | h1
  · exact .inl (h2 ▸ ha c h1)
  · exact .inr h1
theorem Nl.size (h1 : Nl w w' D l I L s h) : w.heap.size ≤ w'.heap.size := h1.off.size
theorem Nl.older (hb : Below w.heap.size w w1) (H : Nl w1 w' D l I L s h) : Nl w w' D l I L s h := by
  obtain ⟨D', h1, h2⟩ := H.lk
  exact ⟨⟨D', fun k hk => (h1 k hk).imp id fun h' => Nat.le_trans hb.size h', h2⟩, (OffS.of_below hb).trans (H.off.mono fun k hk => .inl hk)⟩
theorem lnewW (cl ep bo : Int) (sv : Bool) (w : World) : Calls Tryz.prog 46 #[.int .i64 cl, .int .i64 ep, .int .i64 bo, .bool sv] w fun e w' => e = .returned (cp w.heap.size) ∧ Lw w' (fun k => k = w.heap.size) w.heap.size ⟨cl, ep, bo, sv⟩ [] 0 0 ∧ Below w.heap.size w w' := by
  refine (Lnk.new_any cl ep bo sv w).mono ?_
  rintro e w' ⟨rfl, h1, h2⟩
  have h3 := h1 0 (fun k => k = w.heap.size) (Nat.zero_le _)
  exact ⟨rfl, ⟨none, 0, 0, h3, rfl, fun x hx => (by cases hx), fun k hk => by rw [hk]; exact h3.hd.lt⟩, h2⟩

theorem pushW (H : Lw w D l I L s h) (ax : Option Addr) (m cx : Nat) (bs : List Nat) (hr : Rd8 w ax m cx bs) (hm : m ≤ 700) (hn : L.length < 8) (hs : s < 16777215) :
    Calls Tryz.prog 42 #[cp l, .slice ax m cx] w fun e w' => e = .returned (.int .i64 0) ∧ Nl w w' D l I (L ++ [bs]) (s + 1) h := by
  obtain ⟨ao, n, cap, H1, h2, h3, h4⟩ := H
  have hl := H1.len
  refine (Lnk.push_ok w 0 l ao n cap (fun k => D k ∨ w.heap.size ≤ k) I L s h (H1.mono (Nat.le_refl 0) fun k _ hD => .inl hD) ax m cx bs hr hm (by omega) hs fun k hk => .inr hk).mono ?_
  rintro e w' ⟨rfl, ao2, cap2, k1, k2, k3⟩
  exact ⟨rfl, .of h2 h3 k1 k2 k3⟩

theorem packetsW (H : Lw w D l I L s h) : Calls Tryz.prog 44 #[cp l] w fun e w' => ∃ v, e = .returned v ∧ Lnk.Pks w' w.heap.size (fun k => w.heap.size ≤ k) v (Lnk.pksOf I L s h) ∧ Below w.heap.size w w' := by
  obtain ⟨ao, n, cap, H1, h2, h3, h4⟩ := H
  exact Lnk.packets_any w 0 l ao n cap D I L s h H1

theorem gotW (H : Lw w D l I L s h) (P : Lnk.PkG) (u : Value) (U : Nat → Prop) (hy : Lnk.By w U u P.bs) (hm : P.bs.length ≤ 140737488355328) (hh : h < 16777215) :
    Calls Tryz.prog 47 #[cp l, Lnk.pkV P u] w fun e w' => ∃ v, e = .returned (.tuple #[v, .bool (Lnk.gotB I s h P)]) ∧ Lnk.By w' (fun k => w.heap.size ≤ k) v (Lnk.gotX I s h P) ∧ Nl w w' D l I (L.drop (Lnk.gotC I L.length s P)) s (Lnk.gotH I s h P) := by
  obtain ⟨ao, n, cap, H1, h2, h3, h4⟩ := H
  rw [H1.len]
  refine (Lnk.got_any w 0 l ao n cap (fun k => D k ∨ w.heap.size ≤ k) I L s h (H1.mono (Nat.le_refl 0) fun k _ hD => .inl hD) P u U hy hm hh).mono ?_
  rintro e w' ⟨v, rfl, k1, k2, k3⟩
  exact ⟨v, rfl, k1, .of h2 h3 k2 k3 (Nw.refl _ _)⟩

theorem deleteW (ao : Option Addr) (n cap : Nat) (vs : List Value) (w : World) (ho : OwnS w 0 31 ao cap vs) (hl : vs.length = n) (h1 : ∀ u ∈ vs, u.oneCell' = true) (hn : n ≤ 8) (j : Nat) (hj : j ≤ n) :
    Calls Tryz.prog 43 #[.slice ao n cap, .int .i64 0, .int .i64 (j : Int)] w fun e w' => e = .returned (.slice ao (n - j) cap) ∧ OwnS w' 0 31 ao cap (vs.drop j) ∧ OffS (Ro ao) w w' := by
  refine (Lnk.delete_any w.heap.size 0 ao n cap vs w ho hl h1 hn j hj (Nat.zero_le _)).mono ?_
  rintro e w' ⟨rfl, h2, h3⟩
  exact ⟨rfl, h2, h3.os, h3.tape, h3.output, h3.size, fun k hk hn => h3.block k hk (by omega) fun a e1 e2 => hn ⟨a, e1, e2⟩⟩
end

end Go.Proofs.YtpofihiojhbfgaaGreatDoor
