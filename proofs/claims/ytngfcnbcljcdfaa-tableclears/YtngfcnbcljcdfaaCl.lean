/- Who is cleared has nothing, and is in nobody's way: the walk. -/
import Derived.Test.YtngfcnbcljcdfaaCm
import Derived.Deep.RegionWith
import Derived.Deep.WholeRow
namespace Go.Proofs.Ytngfcnbcljcdfaa
open Go.RowKit
set_option linter.unusedVariables false

theorem Off.dr {g : Nat} {a b : World} (h : Off g a b) : Off g a b.drew := ⟨h.os, h.tape, h.output, h.size, h.block⟩
theorem below_dr {B : Nat} {a b : World} (h : Below B a b) : Below B a b.drew := ⟨h.os, h.tape, h.output, h.size, h.block⟩
theorem Wa.dr {w : World} {q n : Nat} {V : Nat → Nat} (h : Wa w q n V) : Wa w.drew q n V := h.keep (Nat.le_refl _) rfl

abbrev Z24 : Obj := .cells #[.int .i64 0, .int .i64 0, .int .i64 0, .int .i64 0, .int .i64 0, .int .i64 0, .int .i64 0, .int .i64 0, .int .i64 0, .int .i64 0, .int .i64 0, .int .i64 0, .int .i64 0, .int .i64 0, .int .i64 0, .int .i64 0, .int .i64 0, .int .i64 0, .int .i64 0, .int .i64 0, .int .i64 0, .int .i64 0, .int .i64 0, .int .i64 0] 54
theorem wpList_store_new {ops : Array Oper} {rest : List Oper} {op : Oper} {a : Act} {Q : Exit → Act → World → Prop} (w0 : World) (t : TypeId) (c c' : Array Value) (hgd : op.guard = none) (x y : Operand) (ho : op.op = .store t x y)
    (hx : a.eval x = .pointer (some ⟨w0.heap.size, 0, none⟩)) (hy : a.eval y = .agg c') (hi : (Try.prog.info? t).map (·.size) = some c'.size) (hs : c.size = c'.size) (h1 : c'.all (·.oneCell') = true)
    (h : wpList Try.prog ops Q rest (a.put op.dst undef) (w0.alloc (.cells c' t))) : wpList Try.prog ops Q (op :: rest) a (w0.alloc (.cells c t)) := by
  refine wpList_plain hgd fun _ hK => ?_
  unfold Oper.wp execOp
  simp only [ho, hx, hy, Sem.run_bind, Sem.run_pure, Result.andThen_ok, run_storeAt_new (P := Try.prog) w0 t c c' hi hs h1]
  exact hK _ _ h
theorem Wa.new24 (w : World) : Wa (w.alloc Z24) w.heap.size 24 (fun _ => 0) := Wa.new w 24 54

theorem cT_nat {T : Nat → Nat} {c : Nat} (hc : c < 4) : cT T c = clT T c := by simp [cT, cl_nat hc]

set_option maxRecDepth 100000 in
set_option maxHeartbeats 6400000 in
theorem clears_main (a0 : Option Addr) (c0 n0 : Nat) (A : List ActG) (c1 o1 : Nat) (w : World) (hA : ActsAt w a0 A) (hn : A.length = n0) (t0 : ¬ ((60 : Int) < (n0 : Int))) (hc1 : c1 < 4) (ho1 : o1 < 4) (hco : ((c1 : Int) == (o1 : Int)) = false) :
    Calls Try.prog 7 #[.slice a0 n0 c0, .int .i64 (c1 : Int), .int .i64 (o1 : Int)] w fun e w' => e = .returned (.bool true) ∧ Below w.heap.size w w' := by
  have HA : Hid (ActsAt w a0 A ∧ A.length = n0) := ⟨hA, hn⟩
  clear hA hn
  have t1 : ¬ ((c1 : Int) < 0) := by omega
  have t2 : ¬ ((3 : Int) < (c1 : Int)) := by omega
  have t3 : ¬ ((o1 : Int) < 0) := by omega
  have t4 : ¬ ((3 : Int) < (o1 : Int)) := by omega
  have HC1 : Hid (c1 < 4 ∧ o1 < 4) := ⟨hc1, ho1⟩
  clear hc1 ho1
  go_enter Try.func7, Try.ntmps7
  go_wp2_with (first
    | (go_at_call 8; refine (new_any _).mono ?_; rintro e w2 ⟨rfl, H2, hb2⟩; have hB2 : Below w.heap.size w w2 := below_step hb1 hb2)
    | (go_at_call 9; refine (alive_any _).mono ?_; rintro e w1 ⟨rfl, hb1⟩))
  have hs1 := hb1.size
  have HT2 : Hid (Tb w2 w1.heap.size (fun _ => 0)) := H2
  clear H2
  go_loopw [46] (fun i wr => ∃ (k : Nat) (T : Nat → Nat), k ≤ n0 ∧ i = .int .i64 k ∧ Hid (Tb wr w1.heap.size T ∧ Sole T) ∧ Below w.heap.size w wr) (fun i _ => n0 - (intOf i).toNat)
  case atStart => exact ⟨0, _, Nat.zero_le _, rfl, ⟨HT2.out, Sole.new⟩, hB2⟩
  case round =>
    obtain ⟨k, T, hk, rfl, HI, hbel⟩ := hrel
    rename World => wr
    by_cases hlt : k < n0
    · obtain ⟨bk, off, rfl, -, hcA⟩ := (HA.out.1.below hbel) (by intro e; have := HA.out.2; rw [e] at this; simp at this; omega)
      obtain ⟨i0, i1, i2, i3, i4⟩ := hcA k (by have := HA.out.2; omega)
      clear hcA
      generalize A[k]'(by have := HA.out.2; omega) = x at *
      obtain ⟨kd, xc, xp, xa, xb⟩ := x
      simp only at i0 i1 i2 i3 i4
      have HBa : Hid (Below w.heap.size w (wr.alloc (.cells #[.int .i64 kd, .int .i64 xc, .int .i64 xp, .int .i64 xa, .int .i64 xb] 32))) := below_step hbel ((Below.refl _ _).alloc (Nat.le_refl _) _)
      have HTb : Hid (Tb (wr.alloc (.cells #[.int .i64 kd, .int .i64 xc, .int .i64 xp, .int .i64 xa, .int .i64 xb] 32)) w1.heap.size T) := HI.out.1.below ((Below.refl _ _).alloc (Nat.le_refl _) _)
      by_cases k0 : kd = 0
      · subst k0
        go_wp2_with (first
          | (go_at_call 10; refine (grant_any _ _ _ HTb.out xc xp xa xb _ rfl).mono ?_; rintro e w3 ⟨rfl, H3, o3⟩))
        go_roundw
        case rel => exact ⟨k + 1, _, by omega, by go_num, ⟨H3, HI.out.2.gT _ _ _ _⟩, HBa.out.trans (o3.below hs1 (by have := HBa.out.size; omega))⟩
        case measure => simp [intOf]; omega
      · have e0 : (kd == 0) = false := by simpa using k0
        clear k0
        go_wp2
        go_roundw
        case rel => exact ⟨k + 1, T, by omega, by go_num, ⟨HTb.out, HI.out.2⟩, HBa.out⟩
        case measure => simp [intOf]; omega
    · obtain ⟨wA, hwA⟩ : ∃ x, x = wr := ⟨wr, rfl⟩
      subst hwA
      have HWa : Hid (Wa (wA.alloc Z24) wA.heap.size 24 (had T 0)) := Wa.new24 wA
      have HTb : Hid (Tb (wA.alloc Z24) w1.heap.size T) := HI.out.1.below ((Below.refl _ _).alloc (Nat.le_refl _) _)
      have HBa : Hid (Below w.heap.size w (wA.alloc Z24)) := below_step hbel ((Below.refl _ _).alloc (Nat.le_refl _) _)
      have HQ : Hid (w1.heap.size < wA.heap.size) := HI.out.1.lt
      have HSo : Hid (Sole T) := HI.out.2
      have HQW : Hid (w.heap.size ≤ wA.heap.size) := hbel.size
      go_upto_region 12 with fail
      refine wp_region_lit ?_
      refine wpList_plain rfl fun K1 hK1 => ?_
      go_step
      refine hK1 _ _ ?_
      clear hK1 K1
      refine wpList_plain rfl fun K2 hK2 => ?_
      go_step
      refine hK2 _ _ ?_
      clear hK2 K2
      refine wpList_store_new wA 54 _ _ rfl _ _ rfl rfl rfl (by kernel_rfl) rfl (by kernel_rfl) ?_
      refine wpList_nil ?_
      go_wp2
      go_loopw [65] (fun i wq => ∃ c : Nat, c ≤ 4 ∧ i = .int .i64 c ∧ Hid (Tb wq w1.heap.size T ∧ Wa wq wA.heap.size 24 (had T (c * 6))) ∧ Below w.heap.size w wq) (fun i _ => 4 - (intOf i).toNat)
      case atStart => exact ⟨0, by omega, rfl, ⟨HTb.out, HWa.out⟩, HBa.out⟩
      case round =>
        clear HTb HWa HBa
        obtain ⟨c, hc, rfl, HTW, hbx⟩ := hrel
        by_cases hc4 : c < 4
        · have e4 : decide ((c : Int) < 4) = true := by simp; omega
          go_wp2
          go_loopw [68] (fun i wq => ∃ p : Nat, p ≤ 6 ∧ i = .int .i64 p ∧ Hid (Tb wq w1.heap.size T ∧ Wa wq wA.heap.size 24 (had T (c * 6 + p))) ∧ Below w.heap.size w wq) (fun i _ => 6 - (intOf i).toNat)
          case atStart => exact ⟨0, by omega, rfl, (show Tb _ _ _ ∧ Wa _ _ _ _ from ⟨HTW.out.1, HTW.out.2⟩), hbx⟩
          case round =>
            clear HTW hbx
            obtain ⟨p, hp, rfl, HTW, hbx⟩ := hrel
            rename World => wp
            by_cases hp6 : p < 6
            · have e6 : decide ((p : Int) < 6) = true := by simp; omega
              have HTd : Hid (Tb wp.drew w1.heap.size T) := HTW.out.1.keep (Nat.le_refl _) rfl
              have f0 := HTW.out.2.fz (c * 6 + p)
              have g0 := HTW.out.2.cell (c * 6 + p) (by omega)
              go_upto_region 19 with fail
              have hcI : (c : Int) < 4 := by omega
              have hpI : (p : Int) < 6 := by omega
              have hcJ : (0 : Int) ≤ (c : Int) := by omega
              have hpJ : (0 : Int) ≤ (p : Int) := by omega
              clear e4 e6
              go_region_with (go_at_call 19; refine (copies_is _ _ _ HTd.out c p _ (cpn hc4 hp6)).mono ?_; rintro e wy ⟨rfl, hw⟩; subst wy)
              all_goals
                go_wp2
                go_roundw
                case rel => exact ⟨p + 1, by omega, by go_num, (show Tb _ _ _ ∧ Wa _ _ _ _ from ⟨HTW.out.1.off (q := wA.heap.size) ((Off.refl wA.heap.size wp).set _ _).dr (by have := HQ.out; omega), by have h9 := HTW.out.2.put (v := cp T c p) (i := c * 6 + p) (by omega); rw [had_put T c p hp6] at h9; exact h9.dr⟩), below_dr (below_set hbx (p := ⟨wA.heap.size, c * 6 + p, none⟩) HQW.out _)⟩
                case measure => simp [intOf]; omega
            · obtain rfl : p = 6 := by omega
              go_wp2
              go_roundw
              case rel => exact ⟨c + 1, by omega, by go_num, (show Tb _ _ _ ∧ Wa _ _ _ _ from ⟨HTW.out.1, (show (c + 1) * 6 = c * 6 + 6 from by omega) ▸ HTW.out.2⟩), hbx⟩
              case measure => simp [intOf]; omega
        · obtain rfl : c = 4 := by omega
          have hc1 := HC1.out.1
          go_wp2_with (first
            | (go_at_call 17; refine (clear_any _ _ _ HTW.out.1 c1).mono ?_; rw [cT_nat HC1.out.1]; rintro e w5 ⟨rfl, H5, o5⟩))
          have HS5 : Hid (Sole (clT T c1)) := HSo.out.cl
          have HW5 : Hid (Wa w5 wA.heap.size 24 (had T 24)) := HTW.out.2.off o5 (by have := HQ.out; omega)
          have HB5 : Hid (Below w.heap.size w w5) := hbx.trans (o5.below hs1 (by have := hbx.size; omega))
          have HT5 : Hid (Tb w5 w1.heap.size (clT T c1)) := H5
          clear H5 o5 hc1
          go_loopw [13] (fun i wq => ∃ (p : Nat) (T2 : Nat → Nat), p ≤ 6 ∧ i = .int .i64 p ∧ Hid (Tb wq w1.heap.size T2 ∧ Sole T2 ∧ Wa wq wA.heap.size 24 (had T 24) ∧ ∀ d r, d < 4 → p ≤ r → r < 6 → cp T2 d r = cp (clT T c1) d r ∧ ow T2 d r = ow (clT T c1) d r) ∧ Below w.heap.size w wq) (fun i _ => 6 - (intOf i).toNat)
          case atStart => exact ⟨0, _, by omega, rfl, ⟨HT5.out, HS5.out, HW5.out, fun _ _ _ _ _ => ⟨rfl, rfl⟩⟩, HB5.out⟩
          case round =>
            clear HT5 HS5 HW5 HB5 HTW hbx
            obtain ⟨p, T2, hp, rfl, HP, hbx⟩ := hrel
            by_cases hp6 : p < 6
            · have e6 : decide ((p : Int) < 6) = true := by simp; omega
              have HE : Hid (∀ d, d < 4 → cp T2 d p = (if d = c1 then 0 else cp T d p) ∧ ow T2 d p = (if d = c1 then 0 else ow T d p)) := fun d hd => by
                obtain ⟨h1, h2⟩ := HP.out.2.2.2 d p hd (Nat.le_refl _) hp6
                rw [h1, h2, cp_cl hp6, ow_cl hp6]
                exact ⟨rfl, rfl⟩
              have HR : Hid (Sole T2 ∧ ∀ d r, d < 4 → p ≤ r → r < 6 → cp T2 d r = cp (clT T c1) d r ∧ ow T2 d r = ow (clT T c1) d r) := ⟨HP.out.2.1, HP.out.2.2.2⟩
              go_wp2
              go_loopw [14] (fun i wq => ∃ d : Nat, d ≤ 4 ∧ i = .int .i64 d ∧ Hid (Tb wq w1.heap.size T2 ∧ Wa wq wA.heap.size 24 (had T 24)) ∧ Below w.heap.size w wq) (fun i _ => 4 - (intOf i).toNat)
              case atStart => exact ⟨0, by omega, rfl, ⟨HP.out.1, HP.out.2.2.1⟩, hbx⟩
              case round =>
                clear HP hbx
                obtain ⟨d, hd, rfl, HD, hbx⟩ := hrel
                rename World => wd
                by_cases hd4 : d < 4
                · have e4 : decide ((d : Int) < 4) = true := by simp; omega
                  have HTd : Hid (∀ W : World, W.heap = wd.heap → Tb W w1.heap.size T2) := fun W hW => HD.out.1.keep (by rw [hW]; exact Nat.le_refl _) (by rw [hW])
                  by_cases hdc : d = c1
                  · have e1 : ((d : Int) == (c1 : Int)) = true := by simp; omega
                    have e2 : ((d : Int) != (c1 : Int)) = false := by simp; omega
                    have v1 : ((cpI T2 d p : Nat) : Int) = 0 := by rw [cpI_nat hd4 hp6, (HE.out d hd4).1, if_pos hdc]; rfl
                    have v2 : ((owI T2 d p : Nat) : Int) = 0 := by rw [owI_nat hd4 hp6, (HE.out d hd4).2, if_pos hdc]; rfl
                    have V1 : Hid (((cpI T2 d p : Nat) : Int) = 0 ∧ ((owI T2 d p : Nat) : Int) = 0) := ⟨v1, v2⟩
                    have b0 : bits .or .i64 0 0 = 0 := by rfl
                    clear v1 v2 hdc
                    go_upto_region 29 with fail
                    go_quiet ((first
                      | (go_at_call 19; refine (copies_is _ _ _ (HTd.out _ ?_) d p 0 V1.out.1).mono ?_; rfl; rintro e w9 ⟨rfl, hw⟩; subst w9; exact ⟨rfl, _, rfl⟩)
                      | (go_at_call 21; refine (own_is _ _ _ (HTd.out _ ?_) d p 0 V1.out.2).mono ?_; rfl; rintro e w9 ⟨rfl, hw⟩; subst w9; exact ⟨rfl, _, rfl⟩)))
                    go_wp2
                    go_roundw
                    case rel => exact ⟨d + 1, by omega, by go_num, (show Tb _ _ _ ∧ Wa _ _ _ _ from ⟨HTd.out _ rfl, HD.out.2.keep (Nat.le_refl _) rfl⟩), ⟨hbx.os, hbx.tape, hbx.output, hbx.size, hbx.block⟩⟩
                    case measure => simp [intOf]; omega
                  · have e1 : ((d : Int) == (c1 : Int)) = false := by simp; omega
                    have e2 : ((d : Int) != (c1 : Int)) = true := by simp; omega
                    obtain ⟨X, hX⟩ : ∃ X, cp T d p = X := ⟨_, rfl⟩
                    have V1 : Hid (((cpI T2 d p : Nat) : Int) = (X : Int)) := by unfold Hid; rw [cpI_nat hd4 hp6, (HE.out d hd4).1, if_neg hdc, hX]
                    have g0 := HD.out.2.cell (d * 6 + p) (by omega)
                    rw [had_at T d p hd4 hp6, hX] at g0
                    clear hdc hX
                    go_upto_region 29 with fail
                    go_quiet ((first
                      | (go_at_call 19; refine (copies_is _ _ _ (HTd.out _ ?_) d p X V1.out).mono ?_; rfl; rintro e w9 ⟨rfl, hw⟩; subst w9; exact ⟨rfl, _, rfl⟩)))
                    go_wp2
                    go_roundw
                    case rel => exact ⟨d + 1, by omega, by go_num, (show Tb _ _ _ ∧ Wa _ _ _ _ from ⟨HTd.out _ rfl, HD.out.2.keep (Nat.le_refl _) rfl⟩), ⟨hbx.os, hbx.tape, hbx.output, hbx.size, hbx.block⟩⟩
                    case measure => simp [intOf]; omega
                · go_wp2
                  go_loopw [15] (fun i wq => ∃ (o : Nat) (T3 : Nat → Nat), o ≤ 4 ∧ i = .int .i64 o ∧ Hid (Tb wq w1.heap.size T3 ∧ Sole T3 ∧ Wa wq wA.heap.size 24 (had T 24) ∧ ∀ d r, d < 4 → p + 1 ≤ r → r < 6 → cp T3 d r = cp (clT T c1) d r ∧ ow T3 d r = ow (clT T c1) d r) ∧ Below w.heap.size w wq) (fun i _ => 4 - (intOf i).toNat)
                  case atStart => exact ⟨0, T2, by omega, rfl, ⟨HD.out.1, HR.out.1, HD.out.2, fun d r h1 h2 h3 => HR.out.2 d r h1 (by omega) h3⟩, hbx⟩
                  case round =>
                    clear HD hbx
                    obtain ⟨o, T3, ho, rfl, HO, hbx⟩ := hrel
                    rename World => wo
                    by_cases ho4 : o < 4
                    · have e5 : decide ((o : Int) < 4) = true := by simp; omega
                      obtain ⟨n, hn⟩ : ∃ n, (hol T3 o1 p o true 4).length = n := ⟨_, rfl⟩
                      have hsh : IntKind.i64.wrap ((2 : Int) ^ o) = (2 : Int) ^ o := by
                        match o, ho4 with
                        | 0, _ | 1, _ | 2, _ | 3, _ => rfl
                      have HG : Hid (hoI T3 o1 p o true = hol T3 o1 p o true 4 ∧ (hol T3 o1 p o true 4).length = n ∧ gOk T3 o1 p 0 ((2 : Int) ^ o) = (n == 0)) := ⟨hoI_nat HC1.out.2 hp6 ho4 true, hn, by rw [may_own HO.out.2.1 HC1.out.2 hp6 ho4, hn]⟩
                      have HNX : Hid (∀ d r, d < 4 → p + 1 ≤ r → r < 6 → cp (gT T3 o1 p 0 ((2 : Int) ^ o)) d r = cp (clT T c1) d r ∧ ow (gT T3 o1 p 0 ((2 : Int) ^ o)) d r = ow (clT T c1) d r) := fun d r h1 h2 h3 => by
                        obtain ⟨h4, h5⟩ := gT_else (T := T3) (c := o1) (p := p) (a := 0) (b := (2 : Int) ^ o) h1 h3 (.inl (by omega))
                        obtain ⟨h6, h7⟩ := HO.out.2.2.2 d r h1 h2 h3
                        exact ⟨h4.trans h6, h5.trans h7⟩
                      clear hn
                      by_cases hn0 : n = 0
                      · have en : ((n : Int) == 0) = true := by simp; omega
                        have HB : Hid (gOk T3 o1 p 0 ((2 : Int) ^ o) = true) := by unfold Hid; rw [HG.out.2.2, hn0]; rfl
                        clear hn0
                        go_wp2_with (first
                          | (go_at_call 10; refine (grant_any _ _ _ H6 o1 p 0 ((2 : Int) ^ o) true HB.out).mono ?_; rintro e w7 ⟨rfl, H7, o7⟩)
                          | (go_at_call 13; refine (holders_is _ _ _ HO.out.1 o1 p o true _ n HG.out.1 HG.out.2.1).mono ?_; rintro e w6 ⟨ax, cx, rfl, -, hb6⟩; have H6 := HO.out.1.below hb6; have W6 := HO.out.2.2.1.below hb6; have B6 := below_step hbx hb6))
                        go_roundw
                        case rel => exact ⟨o + 1, _, by omega, by go_num, ⟨H7, HO.out.2.1.gT _ _ _ _, W6.off o7 (by have := HQ.out; omega), HNX.out⟩, B6.trans (o7.below hs1 (by have := B6.size; omega))⟩
                        case measure => simp [intOf]; omega
                      · have en : ((n : Int) == 0) = false := by simp; omega
                        have HB : Hid (gOk T3 o1 p 0 ((2 : Int) ^ o) = false) := by unfold Hid; rw [HG.out.2.2]; simpa using hn0
                        clear hn0
                        go_wp2_with (first
                          | (go_at_call 10; refine (grant_any _ _ _ H6 o1 p 0 ((2 : Int) ^ o) false HB.out).mono ?_; rintro e w7 ⟨rfl, H7, o7⟩)
                          | (go_at_call 13; refine (holders_is _ _ _ HO.out.1 o1 p o true _ n HG.out.1 HG.out.2.1).mono ?_; rintro e w6 ⟨ax, cx, rfl, -, hb6⟩; have H6 := HO.out.1.below hb6; have W6 := HO.out.2.2.1.below hb6; have B6 := below_step hbx hb6))
                        go_roundw
                        case rel => exact ⟨o + 1, _, by omega, by go_num, ⟨H7, HO.out.2.1.gT _ _ _ _, W6.off o7 (by have := HQ.out; omega), HNX.out⟩, B6.trans (o7.below hs1 (by have := B6.size; omega))⟩
                        case measure => simp [intOf]; omega
                    · go_wp2
                      go_roundw
                      case rel => exact ⟨p + 1, T3, by omega, by go_num, HO, hbx⟩
                      case measure => simp [intOf]; omega
            · go_wp2
              go_ret
              exact ⟨rfl, hbx⟩

end Go.Proofs.Ytngfcnbcljcdfaa
