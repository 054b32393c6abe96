/- What the document's Packets of a link does, walked. -/
import Derived.Test.YtgdlejeopdipiaaR2
import Derived.Test.YtgdlejeopdipiaaL5
namespace Go.Proofs.Ytgdlejeopdipiaa
open Go.RowKit
set_option linter.unusedVariables false

theorem Pks.setOther {w : World} {base : Nat} {V : Nat → Prop} {v : Value} {Ps : List PkG} (h : Pks w base V v Ps) (b j : Nat) (u : Value) (hne : v.ownBlock ≠ some b) (hty : ∃ cs e fr, w.heap[b]? = some (.cells cs e fr) ∧ e ≠ 5) : Pks (w.setCell ⟨b, j, none⟩ u) base V v Ps := by
  obtain ⟨R, rfl, ho, hb⟩ := h
  refine ⟨R, rfl, ⟨ho.1, ?_⟩, fun r hr => (hb r hr).keepx (by simp [World.setCell]) fun k cs fr hk => Below.heap_setCell _ _ _ _ ?_⟩
  · rcases ho.2 with hv | ⟨g, cp, cur, hv, hg, hh, r⟩
    · exact .inl hv
    · refine .inr ⟨g, cp, cur, hv, hg, ?_, r⟩
      rw [Below.heap_setCell _ _ _ _ (by intro e; rw [hv] at hne; simp [Value.ownBlock] at hne; exact hne e)]
      exact hh
  · intro e
    obtain ⟨cs', e', fr', hh, hn⟩ := hty
    simp only at e
    rw [e, hh] at hk
    simp only [Option.some.injEq, Obj.cells.injEq] at hk
    exact hn hk.2.1

abbrev PkAt (w : World) (b : Nat) (I : LkI) (sq : Int) (h : Nat) (u : Value) : Prop := C7 w b 30 (.int .i64 I.cl) (.int .i64 I.ep) (.int .i64 I.bo) (.int .i64 sq) (.int .i64 (h : Int)) (.bool I.sv) u

theorem Pks.fresh (w : World) (base : Nat) (V : Nat → Prop) (hb : base ≤ w.heap.size) (q : Nat) (hq : w.heap.size = q) : Pks (w.alloc (.cells #[] 30)) base V (.slice (some ⟨q, 0, none⟩) 0 0) [] := by
  subst hq
  exact ⟨[], rfl, ⟨rfl, .inr ⟨w.heap.size, 0, #[], rfl, hb, heap_alloc_new w _, Nat.le_refl _, by simp, rfl, rfl⟩⟩, by simp⟩

theorem Pks.builtq (w : World) (base : Nat) (V : Nat → Prop) (P : PkG) (u : Value) (hb : base ≤ w.heap.size) (hy : By (w.alloc (pkO P u)) V u P.bs) (q : Nat) (hq : w.heap.size = q) : Pks (w.alloc (pkO P u)) base V (.slice (some ⟨q, 0, none⟩) 1 1) [P] := by
  subst hq
  exact Pks.built w base V P u hb hy

/-- Behind the two stores into the packet. -/
theorem rp_step {w wq : World} {V : Nat → Prop} {v : Value} {Ps : List PkG} {I : LkI} {ao : Option Addr} {n cap kn h : Nat} {sq q2 : Int} {u y : Value} {bs : List Nat} (hp : Pks wq (w.heap.size + 1) V v Ps) (hob : v.ownBlock ≠ some (w.heap.size + 1 + 1)) (hR : RfAt wq w.heap.size I (.slice ao n cap) kn h) (hP : PkAt wq (w.heap.size + 1 + 1) I sq h u) (hy : By wq V y bs) (hbel : Below w.heap.size w wq) :
    Pks ((wq.setCell ⟨w.heap.size + 1 + 1, 3, none⟩ (.int .i64 q2)).setCell ⟨w.heap.size + 1 + 1, 6, none⟩ y) (w.heap.size + 1) V v Ps ∧ RfAt ((wq.setCell ⟨w.heap.size + 1 + 1, 3, none⟩ (.int .i64 q2)).setCell ⟨w.heap.size + 1 + 1, 6, none⟩ y) w.heap.size I (.slice ao n cap) kn h ∧ PkAt ((wq.setCell ⟨w.heap.size + 1 + 1, 3, none⟩ (.int .i64 q2)).setCell ⟨w.heap.size + 1 + 1, 6, none⟩ y) (w.heap.size + 1 + 1) I q2 h y ∧ By ((wq.setCell ⟨w.heap.size + 1 + 1, 3, none⟩ (.int .i64 q2)).setCell ⟨w.heap.size + 1 + 1, 6, none⟩ y) V y bs ∧ Below w.heap.size w ((wq.setCell ⟨w.heap.size + 1 + 1, 3, none⟩ (.int .i64 q2)).setCell ⟨w.heap.size + 1 + 1, 6, none⟩ y) := by
  have hP3 := hP.put3 (.int .i64 q2)
  refine ⟨(hp.setOther _ 3 _ hob ⟨_, _, _, hP.blk, by decide⟩).setOther _ 6 _ hob ⟨_, _, _, hP3.blk, by decide⟩, ?_, hP3.put6 y, ?_, ?_⟩
  · exact (hR.keep (Below.heap_setCell _ _ _ _ (by simp; omega))).keep (Below.heap_setCell _ _ _ _ (by simp; omega))
  · have h1 : By (wq.setCell ⟨w.heap.size + 1 + 1, 3, none⟩ (.int .i64 q2)) V y bs := hy.keepx (by simp [World.setCell]) fun k cs fr hk => Below.heap_setCell _ _ _ _ (by intro e; simp only at e; rw [e, hP.blk] at hk; simp at hk)
    exact h1.keepx (by simp [World.setCell]) fun k cs fr hk => Below.heap_setCell _ _ _ _ (by intro e; simp only at e; rw [e, hP3.blk] at hk; simp at hk)
  · exact (hbel.setCell (p := ⟨w.heap.size + 1 + 1, 3, none⟩) (by simp; omega) _).setCell (p := ⟨w.heap.size + 1 + 1, 6, none⟩) (by simp; omega) _

/-- The rest of a list, one more. -/
theorem drop_take_succ (L : List (List Nat)) (kn k : Nat) (h1 : kn ≤ k) (h2 : k < L.length) : (L.take (k + 1)).drop kn = (L.take k).drop kn ++ [L[k]] := by
  rw [List.take_succ_eq_append_getElem h2, List.drop_append_of_le_length (by simp; omega)]

set_option maxHeartbeats 3200000 in
set_option maxRecDepth 100000 in
theorem rpackets_any (w : World) (B : Nat) (V : Nat → Prop) (I : LkI) (ao : Option Addr) (n cap kn h : Nat) (L : List (List Nat)) (H : RRow w B ao cap V L) (hl : L.length = n) (hkn : kn ≤ n) (hn : n ≤ 1000) :
    Calls Try.prog 18 #[rfV I (.slice ao n cap) kn h] w fun e w' => ∃ v, e = .returned v ∧ Pks w' w.heap.size V v (pksOf I (L.drop kn) n h) ∧ Below w.heap.size w w' := by
  obtain ⟨vs, ho, hbs⟩ := H
  have hvl : vs.length = n := hbs.len.trans hl
  have HB : Hid (∀ (k : Nat) (W : World), kn ≤ k → k < n → Below w.heap.size w W → ∃ r ax m cx bs, ao = some ⟨r, 0, none⟩ ∧ W.cell? ⟨r, k, none⟩ = some (.slice ax m cx) ∧ By W V (.slice ax m cx) bs ∧ r < w.heap.size ∧ pksFrom I h ((kn : Int) + 1) ((L.take k).drop kn) ++ [mkPk I h ((k : Int) + 1) bs] = pksFrom I h ((kn : Int) + 1) ((L.take (k + 1)).drop kn)) := by
    intro k W hk0 hk hb
    obtain ⟨r, rfl⟩ := ho.place (by omega)
    have hkL : k < L.length := by omega
    have hkv : k < vs.length := by omega
    have hy := (hbs.each k vs[k] L[k] (by simp) (by simp)).below hb
    have hy' := hy
    obtain ⟨ax, m, cx, e, hr, _, _⟩ := hy'
    have hc := World.ownsRow.cellAt (ho.below hb) k (by omega)
    refine ⟨r, ax, m, cx, L[k], rfl, ?_, by rw [← e]; exact hy, (ho.inn _ rfl).2, ?_⟩
    · rw [hc, ← e]; simp
    · rw [drop_take_succ L kn k hk0 hkL, pksFrom_snoc]
      have : (kn : Int) + 1 + (((L.take k).drop kn).length : Int) = (k : Int) + 1 := by simp; omega
      rw [this]
  have HPL : Hid (∀ k, kn ≤ k → k ≤ n → (pksFrom I h ((kn : Int) + 1) ((L.take k).drop kn)).length = k - kn) := by
    intro k h1 h2
    rw [pksFrom_length]; simp; omega
  have HE : Hid (kn = n → pksOf I (L.drop kn) n h = [mkPk I h 0 []]) := by
    intro e
    unfold pksOf
    rw [if_pos (List.eq_nil_of_length_eq_zero (by simp; omega))]
  have HF : Hid (kn < n → pksOf I (L.drop kn) n h = pksFrom I h ((kn : Int) + 1) ((L.take n).drop kn)) := by
    intro e
    unfold pksOf
    rw [if_neg (by intro e2; have := congrArg List.length e2; simp at this; omega), List.take_of_length_le (by omega)]
    have : (n : Int) - ((L.drop kn).length : Int) + 1 = (kn : Int) + 1 := by simp; omega
    rw [this]
  have HZ : Hid ((L.take kn).drop kn = []) := List.eq_nil_of_length_eq_zero (by simp)
  clear ho hbs hvl hl
  go_enter Try.func18, Try.ntmps18
  go_wp2
  go_loopw [3, 5] (fun v i wr => ∃ (k : Nat) (sq : Int) (u : Value), kn ≤ k ∧ k ≤ n ∧ i = .int .i64 k ∧ Pks wr (w.heap.size + 1) V v (pksFrom I h ((kn : Int) + 1) ((L.take k).drop kn)) ∧ v.ownBlock ≠ some (w.heap.size + 1 + 1) ∧ RfAt wr w.heap.size I (.slice ao n cap) kn h ∧ PkAt wr (w.heap.size + 1 + 1) I sq h u ∧ (k = kn → sq = 0 ∧ u = .slice none 0 0) ∧ Below w.heap.size w wr) (fun _ i _ => n - (intOf i).toNat)
  case atStart =>
    have hb1 : Below (w.alloc (rfO I (.slice ao n cap) kn h)).heap.size (w.alloc (rfO I (.slice ao n cap) kn h)) (((w.alloc (rfO I (.slice ao n cap) kn h)).alloc (.cells #[] 30)).alloc (pkO (mkPk I h 0 []) (.slice none 0 0))) := below_step ((Below.refl _ _).alloc (Nat.le_refl _) _) ((Below.refl _ _).alloc (Nat.le_refl _) _)
    refine ⟨kn, 0, .slice none 0 0, Nat.le_refl _, hkn, rfl, ?_, by simp [Value.ownBlock], (C7.new w 34 _ _ _ _ _ _ _).below hb1, ?_, fun _ => ⟨rfl, rfl⟩, below_alloc (hb1.mono (by simp))⟩
    · rw [HZ.out]
      exact (Pks.fresh (w.alloc (rfO I (.slice ao n cap) kn h)) (w.heap.size + 1) V (by simp) (w.heap.size + 1) (by simp)).below ((Below.refl _ _).alloc (Nat.le_refl _) _)
    · have := C7.new ((w.alloc (rfO I (.slice ao n cap) kn h)).alloc (.cells #[] 30)) 30 (.int .i64 I.cl) (.int .i64 I.ep) (.int .i64 I.bo) (.int .i64 0) (.int .i64 (h : Int)) (.bool I.sv) (.slice none 0 0)
      simpa using this
  case round =>
    obtain ⟨k, sq, u, hk0, hk, rfl, hp, hob, hR, hP, hz, hbel⟩ := hrel
    rename World => wq
    have r4 := hR.c4
    have c0 := hP.c0
    have c1 := hP.c1
    have c2 := hP.c2
    have c3 := hP.c3
    have c4 := hP.c4
    have c5 := hP.c5
    have c6 := hP.c6
    have f3 := hP.fz 3
    have f6 := hP.fz 6
    by_cases hlt : k < n
    · obtain ⟨r, ax, m, cx, bs, rfl, hc, hy, hrl, hsn⟩ := HB.out k _ hk0 hlt hbel
      have HSN : Hid (pksFrom I h ((kn : Int) + 1) ((L.take k).drop kn) ++ [mkPk I h ((k : Int) + 1) bs] = pksFrom I h ((kn : Int) + 1) ((L.take (k + 1)).drop kn)) := hsn
      have hlen := HPL.out k hk0 hk
      have HLN : Hid ((pksFrom I h ((kn : Int) + 1) ((L.take k).drop kn)).length = k - kn) := hlen
      have hw2 : IntKind.i64.wrap ((k : Int) + 1) = (k : Int) + 1 := by rw [IntKind.wrap_i64]; omega
      have hne1 : r ≠ w.heap.size + 1 + 1 := by omega
      have hst := rp_step (q2 := (k : Int) + 1) hp hob hR hP hy hbel
      obtain ⟨a1, cp, hv, -⟩ := hp.shape
      rw [HLN.out] at hv
      subst hv
      obtain ⟨hp2, hR2, hP2, hy2, hbel2⟩ := hst
      have hszq : ((wq.setCell ⟨w.heap.size + 1 + 1, 3, none⟩ (.int .i64 ((k : Int) + 1))).setCell ⟨w.heap.size + 1 + 1, 6, none⟩ (.slice ax m cx)).heap.size = wq.heap.size := by simp [World.setCell]
      have HSQ : Hid (((wq.setCell ⟨w.heap.size + 1 + 1, 3, none⟩ (.int .i64 ((k : Int) + 1))).setCell ⟨w.heap.size + 1 + 1, 6, none⟩ (.slice ax m cx)).heap.size = wq.heap.size) := hszq
      have hsz : w.heap.size + 1 ≤ wq.heap.size := by have := hP.lt; omega
      have hbA := (Below.refl _ ((wq.setCell ⟨w.heap.size + 1 + 1, 3, none⟩ (.int .i64 ((k : Int) + 1))).setCell ⟨w.heap.size + 1 + 1, 6, none⟩ (.slice ax m cx))).alloc (Nat.le_refl _) (pkO (mkPk I h ((k : Int) + 1) bs) (.slice ax m cx))
      have HPA : Hid (Pks (((wq.setCell ⟨w.heap.size + 1 + 1, 3, none⟩ (.int .i64 ((k : Int) + 1))).setCell ⟨w.heap.size + 1 + 1, 6, none⟩ (.slice ax m cx)).alloc (pkO (mkPk I h ((k : Int) + 1) bs) (.slice ax m cx))) (w.heap.size + 1) V (.slice a1 (k - kn) cp) (pksFrom I h ((kn : Int) + 1) ((L.take k).drop kn))) := hp2.below hbA
      have HBD : Hid (RdP (((wq.setCell ⟨w.heap.size + 1 + 1, 3, none⟩ (.int .i64 ((k : Int) + 1))).setCell ⟨w.heap.size + 1 + 1, 6, none⟩ (.slice ax m cx)).alloc (pkO (mkPk I h ((k : Int) + 1) bs) (.slice ax m cx))) V (.slice (some ⟨wq.heap.size, 0, none⟩) 1 1) [mkPk I h ((k : Int) + 1) bs]) := (Pks.builtq _ (w.heap.size + 1) V _ _ (by rw [hszq]; exact hsz) (hy2.below hbA) _ hszq).rd
      have HAS : Hid (w.heap.size + 1 ≤ (((wq.setCell ⟨w.heap.size + 1 + 1, 3, none⟩ (.int .i64 ((k : Int) + 1))).setCell ⟨w.heap.size + 1 + 1, 6, none⟩ (.slice ax m cx)).alloc (pkO (mkPk I h ((k : Int) + 1) bs) (.slice ax m cx))).heap.size) := by
        have h1 := hbA.size
        rw [hszq] at h1
        exact Nat.le_trans hsz h1
      have HFIN : Hid (∀ (v3 : Value) (w3 : World), (((wq.setCell ⟨w.heap.size + 1 + 1, 3, none⟩ (.int .i64 ((k : Int) + 1))).setCell ⟨w.heap.size + 1 + 1, 6, none⟩ (.slice ax m cx)).alloc (pkO (mkPk I h ((k : Int) + 1) bs) (.slice ax m cx))).grownBy w3 (Value.ownBlock (.slice a1 (k - kn) cp)) → (v3.ownBlock = (Value.slice a1 (k - kn) cp).ownBlock ∨ v3.ownBlock = some (((wq.setCell ⟨w.heap.size + 1 + 1, 3, none⟩ (.int .i64 ((k : Int) + 1))).setCell ⟨w.heap.size + 1 + 1, 6, none⟩ (.slice ax m cx)).alloc (pkO (mkPk I h ((k : Int) + 1) bs) (.slice ax m cx))).heap.size) → RfAt w3 w.heap.size I (.slice (some ⟨r, 0, none⟩) n cap) kn h ∧ PkAt w3 (w.heap.size + 1 + 1) I ((k : Int) + 1) h (.slice ax m cx) ∧ Below w.heap.size w w3 ∧ v3.ownBlock ≠ some (w.heap.size + 1 + 1)) := by
        intro v3 w3 hg hv3
        have hbb := HPA.out.grownBelow HAS.out hg
        have hRA := hR2.below hbA
        have hPA := hP2.below hbA
        refine ⟨hRA.keep (hbb.block _ (by omega)), hPA.keep (hg.block _ hPA.lt (fun e => hob e.symm)), (hbel2.alloc hbel2.size _).trans (hbb.mono (by omega)), ?_⟩
        rcases hv3 with e | e
        · rw [e]; exact hob
        · rw [e]
          have := hPA.lt
          simp only [ne_eq, Option.some.injEq]
          omega
      clear hp2 hR2 hP2 hy2 hP hR hsn hlen hszq
      go_wp2_with (first
        | (at_builtin; refine wpList_append_pks _ rfl _ _ rfl (w.heap.size + 1) rfl rfl HPA.out HBD.out (by rw [HLN.out]; simp; omega) HAS.out ?_; intro v3 w3 hp3 hg3 hv3; have HP3 := hp3; rw [HSN.out] at HP3; obtain ⟨kR, kP, kB, kO⟩ := HFIN.out v3 w3 hg3 hv3))
      go_roundw
      case rel => exact ⟨k + 1, _, _, by omega, by omega, by go_num, HP3, kO, kR, kP, fun e => by omega, kB⟩
      case measure => simp [intOf]; omega
    · obtain rfl : k = n := by omega
      have hlen := HPL.out k hk0 hk
      have HLN : Hid ((pksFrom I h ((kn : Int) + 1) ((L.take k).drop kn)).length = k - kn) := hlen
      clear hlen
      obtain ⟨a1, cp, hv, -⟩ := hp.shape
      rw [HLN.out] at hv
      subst hv
      by_cases hkk : kn = k
      · obtain ⟨rfl, rfl⟩ := hz hkk.symm
        have hd : (((k - kn : Nat) : Int) == 0) = true := by simp; omega
        have hempty : pksFrom I h ((kn : Int) + 1) ((L.take k).drop kn) = [] := List.eq_nil_of_length_eq_zero (by rw [HLN.out]; omega)
        have hbA := (Below.refl _ wq).alloc (Nat.le_refl _) (pkO (mkPk I h 0 []) (.slice none 0 0))
        have HPA : Hid (Pks (wq.alloc (pkO (mkPk I h 0 []) (.slice none 0 0))) (w.heap.size + 1) V (.slice a1 (k - kn) cp) []) := by rw [hempty] at hp; exact hp.below hbA
        have hsz : w.heap.size + 1 ≤ wq.heap.size := by have := hP.lt; omega
        have HBD : Hid (RdP (wq.alloc (pkO (mkPk I h 0 []) (.slice none 0 0))) V (.slice (some ⟨wq.heap.size, 0, none⟩) 1 1) [mkPk I h 0 []]) := (Pks.built wq (w.heap.size + 1) V _ _ hsz (By.nil _ _)).rd
        have HAS : Hid (w.heap.size + 1 ≤ (wq.alloc (pkO (mkPk I h 0 []) (.slice none 0 0))).heap.size) := Nat.le_trans hsz hbA.size
        have HKK : Hid (kn = k) := hkk
        clear hempty hkk hP hR hz
        go_wp2_with (first
          | (at_builtin; refine wpList_append_pks _ rfl _ _ rfl (w.heap.size + 1) rfl rfl HPA.out HBD.out (by simp) HAS.out ?_; intro v3 w3 hp3 hg3 hv3))
        go_ret
        exact ⟨_, rfl, by rw [HE.out HKK.out]; exact hp3.mono (by omega) (fun _ _ h => h), (hbel.alloc hbel.size _).trans ((HPA.out.grownBelow HAS.out hg3).mono (by omega))⟩
      · have hd : ((k - kn : Nat) : Int) ≠ 0 := by omega
        go_wp2
        go_ret
        exact ⟨_, rfl, by rw [HF.out (by omega)]; exact hp.mono (by omega) (fun _ _ h => h), hbel⟩

end Go.Proofs.Ytgdlejeopdipiaa
