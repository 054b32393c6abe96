/- What the document's Push does where there is room, walked. -/
import Derived.Test.YtgdlejeopdipiaaR2
namespace Go.Proofs.Ytgdlejeopdipiaa
open Go.RowKit
set_option linter.unusedVariables false

abbrev rz0 (W : World) (N : Nat) : Prop := C7 W N 34 (.int .i64 0) (.int .i64 0) (.int .i64 0) (.bool false) (.slice none 0 0) (.int .i64 0) (.int .i64 0)

theorem OwnS.fresh (w : World) (base : Nat) (e : TypeId) (hb : base ≤ w.heap.size) (q : Nat) (hq : w.heap.size = q) : OwnS (w.alloc (.cells #[] e)) base e (some ⟨q, 0, none⟩) 0 [] := by
  subst hq
  exact OwnS.built w base e [] (by simp) hb
theorem OwnI.freshq (w : World) (base : Nat) (hb : base ≤ w.heap.size) (q : Nat) (hq : w.heap.size = q) : OwnI (w.alloc (.cells #[] 5)) base 5 .u8 (some ⟨q, 0, none⟩) 0 [] := by
  subst hq
  exact OwnI.fresh w base 5 .u8 hb

set_option maxHeartbeats 3200000 in
set_option maxRecDepth 100000 in
theorem rpush_ok (w : World) (B : Nat) (V : Nat → Prop) (I : LkI) (ao : Option Addr) (n cap kn h : Nat) (L : List (List Nat)) (ax : Option Addr) (m cx : Nat) (bs : List Nat) (H : RRow w B ao cap V L) (hl : L.length = n) (hr : Rd8 w ax m cx bs) (hm : m ≤ 700) (hn : n ≤ 1000) (hk : n < kn + 8) (hkn : kn ≤ n) (hV : ∀ k, w.heap.size ≤ k → V k) :
    Calls Try.prog 13 #[rfV I (.slice ao n cap) kn h, .slice ax m cx] w fun e w' => ∃ a3 c3, e = .returned (.tuple #[rfV I (.slice a3 (n + 1) c3) kn h, .int .i64 0]) ∧ RRow w' w.heap.size a3 c3 V (L ++ [bs]) ∧ Below w.heap.size w w' := by
  obtain ⟨vs, ho, hbs⟩ := H
  have hvl : vs.length = n := hbs.len.trans hl
  have hlm := hr.len
  have hw1 : IntKind.i64.wrap ((n : Int) - (kn : Int)) = (n : Int) - (kn : Int) := by rw [IntKind.wrap_i64]; omega
  have hd : ¬ ((16777215 : Int) ≤ (n : Int)) := by omega
  have hd3 : ¬ ((8 : Int) ≤ (n : Int) - (kn : Int)) := by omega
  have HN : Hid (∀ W, Below (w.heap.size + 2) ((w.alloc (rfO I (.slice ao n cap) kn h)).alloc rfZ) W → RfAt W w.heap.size I (.slice ao n cap) kn h ∧ rz0 W (w.heap.size + 1) ∧ Below w.heap.size w W) := by
    intro W hW
    have hW' : Below ((w.alloc (rfO I (.slice ao n cap) kn h)).alloc rfZ).heap.size ((w.alloc (rfO I (.slice ao n cap) kn h)).alloc rfZ) W := hW.mono (by simp)
    refine ⟨((C7.new w 34 _ _ _ _ _ _ _).below ((Below.refl _ _).alloc (Nat.le_refl _) rfZ)).below hW', ?_, ?_⟩
    · have := (C7.new (w.alloc (rfO I (.slice ao n cap) kn h)) 34 (.int .i64 0) (.int .i64 0) (.int .i64 0) (.bool false) (.slice none 0 0) (.int .i64 0) (.int .i64 0)).below hW'
      simpa using this
    · exact below_step (below_alloc ((Below.refl _ _).alloc (by simp) rfZ)) hW'
  have HB0 : Hid (Below (w.heap.size + 2) ((w.alloc (rfO I (.slice ao n cap) kn h)).alloc rfZ) (((w.alloc (rfO I (.slice ao n cap) kn h)).alloc rfZ).alloc (.cells #[] 27))) := (Below.refl _ _).alloc (by simp) _
  have HE : Hid (OwnS (((w.alloc (rfO I (.slice ao n cap) kn h)).alloc rfZ).alloc (.cells #[] 27)) (w.heap.size + 2) 27 (some ⟨w.heap.size + 2, 0, none⟩) 0 []) := OwnS.fresh _ _ 27 (by simp) _ (by simp)
  have e0 := (HN.out _ HB0.out).1.c4
  have HV : Hid (vs.length = n) := hvl
  have HRS : Hid (∀ W, Below w.heap.size w W → RdS W ao cap vs ∧ Bys W V vs L ∧ Rd8 W ax m cx bs) := fun W hW => ⟨ho.rd.below hW, hbs.kt (KT.of_below hW), hr.below hW⟩
  have H1 := hbs.one
  have HU : Hid (∀ u ∈ vs, u.oneCell' = true) := H1
  clear hk hkn hvl hbs ho hr H1
  go_enter Try.func13, Try.ntmps13
  go_wp2_with (first
    | (at_builtin; refine wpList_append_g _ rfl _ _ 32 rfl (w.heap.size + 2) 27 (.slice none 0 0) 24 Try.underlying32 info27 rfl rfl rfl (ho1.below (below_step HB2.out (by exact (Below.refl _ _).alloc (Nat.le_refl _) _))) (RdS.one w2 27 _) (by simpa using HV.out) (by rfl) (by simp; exact HY2.out.one) (by omega) (by unfold maxLen; omega) (by have := HS2.out; simp; omega) ?_; intro a3 c3 w3 ho3 hg3; have HB3 : Hid (Below (w.heap.size + 2) ((w.alloc (rfO I (.slice ao n cap) kn h)).alloc rfZ) w3) := (HBx2.out.alloc HS2.out _).trans ((ho1.below (below_step HB2.out ((Below.refl _ _).alloc (Nat.le_refl _) _))).grownBelow (by simpa using HV.out) (by have := HS2.out; simp; omega) hg3); obtain ⟨hR3, hZ3, -⟩ := HN.out _ HB3.out; have r0 := hR3.c0; have r1 := hR3.c1; have r2 := hR3.c2; have r3 := hR3.c3; have r4 := hR3.c4; have r5 := hR3.c5; have r6 := hR3.c6; have rf := hR3.fz 4; have z0 := hZ3.c0; have z1 := hZ3.c1; have z2 := hZ3.c2; have z3 := hZ3.c3; have z4 := hZ3.c4; have z5 := hZ3.c5; have z6 := hZ3.c6; have f0 := hZ3.fz 0; have f1 := hZ3.fz 1; have f2 := hZ3.fz 2; have f3 := hZ3.fz 3; have f4 := hZ3.fz 4; have f5 := hZ3.fz 5; have f6 := hZ3.fz 6)
    | (at_builtin; refine wpList_append_rdI _ rfl _ _ 27 rfl w1.heap.size 5 .u8 (.int .u8 0) 1 Try.underlying27 info5 rfl rfl rfl (OwnI.fresh w1 w1.heap.size 5 .u8 (Nat.le_refl _)) ((HR1.out).alloc _).rd rfl (by rw [ci_length]; exact hlm) (by omega) (by unfold maxLen; omega) (by simp) ?_; intro a2 c2 w2 ho2 hb2; have HB2 : Hid (Below w1.heap.size w1 w2) := below_alloc hb2; have HBx2 : Hid (Below (w.heap.size + 2) ((w.alloc (rfO I (.slice ao n cap) kn h)).alloc rfZ) w2) := HB1.out.trans (HB2.out.mono HS1.out); have HS2 : Hid (w.heap.size + 2 ≤ w2.heap.size) := Nat.le_trans HS1.out HB2.out.size; have HY2 : Hid (By w2 V (.slice a2 m c2) bs) := (By.own (base := w1.heap.size) ⟨by simpa using ho2, hlm, HR1.out.byte⟩).mono fun k _ hk => hV k (by have := HS1.out; omega))
    | (at_builtin; refine wpList_append_rd _ rfl _ _ 32 rfl (w.heap.size + 2) 27 (.slice none 0 0) 24 Try.underlying32 info27 rfl rfl rfl HE.out ((HRS.out _ (HN.out _ HB0.out).2.2).1) rfl HV.out HU.out (by omega) (by unfold maxLen; omega) (by simp) ?_; intro a1 c1 w1 ho1 hb1; have HB1 : Hid (Below (w.heap.size + 2) ((w.alloc (rfO I (.slice ao n cap) kn h)).alloc rfZ) w1) := HB0.out.trans hb1; have HS1 : Hid (w.heap.size + 2 ≤ w1.heap.size) := Nat.le_trans (by simp) HB1.out.size; have HR1 : Hid (Rd8 w1 ax m cx bs) := (HRS.out _ (HN.out _ HB1.out).2.2).2.2))
  have hNe : w.heap.size + 1 ≠ w.heap.size := by omega
  have hC : RfAt ((((((((w3.setCell ⟨w.heap.size, 4, none⟩ (.slice a3 (n + 1) c3)).setCell ⟨w.heap.size + 1, 0, none⟩ (.int .i64 I.cl)).setCell ⟨w.heap.size + 1, 1, none⟩ (.int .i64 I.ep)).setCell ⟨w.heap.size + 1, 2, none⟩ (.int .i64 I.bo)).setCell ⟨w.heap.size + 1, 3, none⟩ (.bool I.sv)).setCell ⟨w.heap.size + 1, 4, none⟩ (.slice a3 (n + 1) c3)).setCell ⟨w.heap.size + 1, 5, none⟩ (.int .i64 (kn : Int))).setCell ⟨w.heap.size + 1, 6, none⟩ (.int .i64 (h : Int))) (w.heap.size + 1) I (.slice a3 (n + 1) c3) kn h := (hZ3.keep (Below.heap_setCell w3 ⟨w.heap.size, 4, none⟩ (.slice a3 (n + 1) c3) _ hNe)).put _ _ _ _ _ _ _
  have hOt : ∀ k, k ≠ w.heap.size → k ≠ w.heap.size + 1 → ((((((((w3.setCell ⟨w.heap.size, 4, none⟩ (.slice a3 (n + 1) c3)).setCell ⟨w.heap.size + 1, 0, none⟩ (.int .i64 I.cl)).setCell ⟨w.heap.size + 1, 1, none⟩ (.int .i64 I.ep)).setCell ⟨w.heap.size + 1, 2, none⟩ (.int .i64 I.bo)).setCell ⟨w.heap.size + 1, 3, none⟩ (.bool I.sv)).setCell ⟨w.heap.size + 1, 4, none⟩ (.slice a3 (n + 1) c3)).setCell ⟨w.heap.size + 1, 5, none⟩ (.int .i64 (kn : Int))).setCell ⟨w.heap.size + 1, 6, none⟩ (.int .i64 (h : Int))).heap[k]? = w3.heap[k]? := fun k h1 h2 => (put7_other _ _ _ h2 _ _ _ _ _ _ _).trans (Below.heap_setCell w3 ⟨w.heap.size, 4, none⟩ _ _ h1)
  have hSz : ((((((((w3.setCell ⟨w.heap.size, 4, none⟩ (.slice a3 (n + 1) c3)).setCell ⟨w.heap.size + 1, 0, none⟩ (.int .i64 I.cl)).setCell ⟨w.heap.size + 1, 1, none⟩ (.int .i64 I.ep)).setCell ⟨w.heap.size + 1, 2, none⟩ (.int .i64 I.bo)).setCell ⟨w.heap.size + 1, 3, none⟩ (.bool I.sv)).setCell ⟨w.heap.size + 1, 4, none⟩ (.slice a3 (n + 1) c3)).setCell ⟨w.heap.size + 1, 5, none⟩ (.int .i64 (kn : Int))).setCell ⟨w.heap.size + 1, 6, none⟩ (.int .i64 (h : Int))).heap.size = w3.heap.size := by rw [put7_size]; simp [World.setCell]
  have hBl : Below w.heap.size w ((((((((w3.setCell ⟨w.heap.size, 4, none⟩ (.slice a3 (n + 1) c3)).setCell ⟨w.heap.size + 1, 0, none⟩ (.int .i64 I.cl)).setCell ⟨w.heap.size + 1, 1, none⟩ (.int .i64 I.ep)).setCell ⟨w.heap.size + 1, 2, none⟩ (.int .i64 I.bo)).setCell ⟨w.heap.size + 1, 3, none⟩ (.bool I.sv)).setCell ⟨w.heap.size + 1, 4, none⟩ (.slice a3 (n + 1) c3)).setCell ⟨w.heap.size + 1, 5, none⟩ (.int .i64 (kn : Int))).setCell ⟨w.heap.size + 1, 6, none⟩ (.int .i64 (h : Int))) := put7_below w.heap.size w _ (w.heap.size + 1) (by omega) ((HN.out _ HB3.out).2.2.setCell (p := ⟨w.heap.size, 4, none⟩) (Nat.le_refl _) _) _ _ _ _ _ _ _
  generalize ((((((((w3.setCell ⟨w.heap.size, 4, none⟩ (.slice a3 (n + 1) c3)).setCell ⟨w.heap.size + 1, 0, none⟩ (.int .i64 I.cl)).setCell ⟨w.heap.size + 1, 1, none⟩ (.int .i64 I.ep)).setCell ⟨w.heap.size + 1, 2, none⟩ (.int .i64 I.bo)).setCell ⟨w.heap.size + 1, 3, none⟩ (.bool I.sv)).setCell ⟨w.heap.size + 1, 4, none⟩ (.slice a3 (n + 1) c3)).setCell ⟨w.heap.size + 1, 5, none⟩ (.int .i64 (kn : Int))).setCell ⟨w.heap.size + 1, 6, none⟩ (.int .i64 (h : Int))) = W5 at *
  have q0 := hC.c0
  have q1 := hC.c1
  have q2 := hC.c2
  have q3 := hC.c3
  have q4 := hC.c4
  have q5 := hC.c5
  have q6 := hC.c6
  refine bodyPost_ret (by simp [results, Try.results13, go_sem, q0, q1, q2, q3, q4, q5, q6]; try rfl) rfl ?_
  refine ⟨a3, c3, rfl, ⟨vs ++ [.slice a2 m c2], ?_, ?_⟩, hBl⟩
  · have h3 : OwnS w3 (w.heap.size + 2) 27 a3 c3 (vs ++ [.slice a2 m c2]) := by simpa using ho3
    refine (h3.mono (by omega)).keep fun a ha => hOt _ ?_ ?_
    · have := (h3.inn a ha).1; omega
    · have := (h3.inn a ha).1; omega
  · have hby : By w3 V (.slice a2 m c2) bs := by
      have hA := HY2.out.below ((Below.refl _ _).alloc (Nat.le_refl _) (.cells #[.slice a2 m c2] 27))
      have hl0 : (([] : List Value) ++ vs).length = n := by simpa using HV.out
      have hX := ho1.below (below_step HB2.out ((Below.refl _ _).alloc (Nat.le_refl _) (.cells #[.slice a2 m c2] 27)))
      unfold OwnS at hX
      rw [hl0] at hX
      exact hA.grown hX (by decide) hg3
    have hall : Bys w3 V (vs ++ [.slice a2 m c2]) (L ++ [bs]) := ((HRS.out _ (HN.out _ HB3.out).2.2).2.1).snoc hby
    refine ⟨hall.len, fun i v b h1 h2 => (hall.each i v b h1 h2).keepx (by omega) fun k cs fr hk => hOt k ?_ ?_⟩
    · intro e
      rw [e, hR3.blk] at hk
      simp at hk
    · intro e
      rw [e, hZ3.blk] at hk
      simp at hk

end Go.Proofs.Ytgdlejeopdipiaa
