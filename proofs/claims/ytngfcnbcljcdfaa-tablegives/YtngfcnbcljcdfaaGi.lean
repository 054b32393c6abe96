/- What is free may be had: the walk. -/
import Derived.Test.YtngfcnbcljcdfaaGm
import Derived.Test.YtngfcnbcljcdfaaI2
import Derived.Deep.RegionWith
namespace Go.Proofs.Ytngfcnbcljcdfaa
open Go.RowKit
set_option linter.unusedVariables false

abbrev plO (x y : Int) : Obj := .cells #[.int .i64 x, .int .i64 y] 50

theorem plc0 {w w1 : World} (x y : Int) (h : Below (w.alloc (plO x y)).heap.size (w.alloc (plO x y)) w1) : w1.cell? ⟨w.heap.size, 0, none⟩ = some (.int .i64 x) :=
  (h.cell (p := ⟨w.heap.size, 0, none⟩) (by simp)).trans (by rw [cell_of_row _ _ _ _ _ _ (heap_alloc_new w (plO x y))]; rfl)
theorem plc1 {w w1 : World} (x y : Int) (h : Below (w.alloc (plO x y)).heap.size (w.alloc (plO x y)) w1) : w1.cell? ⟨w.heap.size, 1, none⟩ = some (.int .i64 y) :=
  (h.cell (p := ⟨w.heap.size, 1, none⟩) (by simp)).trans (by rw [cell_of_row _ _ _ _ _ _ (heap_alloc_new w (plO x y))]; rfl)

theorem below_al {w w1 : World} {o : Obj} (h : Below (w.alloc o).heap.size (w.alloc o) w1) : Below w.heap.size w w1 := below_step ((Below.refl _ _).alloc (Nat.le_refl _) o) h

theorem below_drN {B : Nat} {a b : World} (h : Below B a b) (n : Nat) : Below B a (b.drewN n) := ⟨h.os, h.tape, h.output, h.size, h.block⟩

theorem OwnI.off {w w' : World} {base g : Nat} {e : TypeId} {k : IntKind} {ao : Option Addr} {cap : Nat} {zs : List Int} (h : OwnI w base e k ao cap zs) (ho : Off g w w') (hg : g < base) : OwnI w' base e k ao cap zs := by
  obtain ⟨h1, h2⟩ := h
  refine ⟨h1, ?_⟩
  rcases h2 with h2 | ⟨b, cp, cur, hv, hb, hh, r⟩
  · exact .inl h2
  · exact .inr ⟨b, cp, cur, hv, hb, (ho.block b (Array.getElem?_eq_some_iff.1 hh).1 (by omega)).trans hh, r⟩

set_option maxRecDepth 100000 in
set_option maxHeartbeats 6400000 in
theorem gives_main (a0 : Option Addr) (c0 n0 : Nat) (A : List ActG) (c p o : Nat) (w : World) (hA : ActsAt w a0 A) (hn : A.length = n0) (t0 : ¬ ((60 : Int) < (n0 : Int))) (hc : c < 4) (hp : p < 6) (ho : o < 4) :
    Calls Try.prog 6 #[.slice a0 n0 c0, .int .i64 (c : Int), .agg #[.int .i64 (p : Int), .int .i64 (o : Int)]] w fun e w' => e = .returned (.bool true) ∧ Below w.heap.size w w' := by
  have HA : Hid (ActsAt w a0 A ∧ A.length = n0) := ⟨hA, hn⟩
  clear hA hn
  have t1 : ¬ ((c : Int) < 0) := by omega
  have t2 : ¬ ((3 : Int) < (c : Int)) := by omega
  have t3 : ¬ ((p : Int) < 0) := by omega
  have t4 : ¬ ((5 : Int) < (p : Int)) := by omega
  have t5 : ¬ ((o : Int) < 0) := by omega
  have t6 : ¬ ((3 : Int) < (o : Int)) := by omega
  have hsh : IntKind.i64.wrap ((2 : Int) ^ o) = (2 : Int) ^ o := by
    match o, ho with
    | 0, _ | 1, _ | 2, _ | 3, _ => rfl
  go_enter Try.func6, Try.ntmps6
  go_upto_region 3 with (first
    | (go_at_call 9; refine (alive_any _).mono ?_; rintro e w1 ⟨rfl, hb1⟩; have p0 := plc0 _ _ hb1; have p1 := plc1 _ _ hb1; have hB1 := below_al hb1))
  go_quiet (fail)
  have hB1' := below_drN hB1 nq
  generalize w1.drewN nq = w1d at *
  go_wp2_with (first
    | (go_at_call 8; refine (new_any _).mono ?_; rintro e w2 ⟨rfl, H2, hb2⟩; have hB2 : Below w.heap.size w w2 := below_step hB1' hb2))
  have hs1 := hB1'.size
  have HT2 : Hid (Tb w2 w1d.heap.size (fun _ => 0)) := H2
  clear H2
  go_loopw [54] (fun i wr => ∃ (k : Nat) (T : Nat → Nat), k ≤ n0 ∧ i = .int .i64 k ∧ Hid (Tb wr w1d.heap.size T ∧ Sole T) ∧ Below w.heap.size w wr) (fun i _ => n0 - (intOf i).toNat)
  case atStart => exact ⟨0, _, Nat.zero_le _, rfl, ⟨HT2.out, Sole.new⟩, hB2⟩
  case round =>
    obtain ⟨k, T, hk, rfl, HI, hbel⟩ := hrel
    rename World => wr
    by_cases hlt : k < n0
    · obtain ⟨bk, off, rfl, -, hcA⟩ := (HA.out.1.below hbel) (by intro e; have := HA.out.2; rw [e] at this; simp at this; omega)
      obtain ⟨i0, i1, i2, i3, i4⟩ := hcA k (by have := HA.out.2; omega)
      clear hcA
      generalize A[k]'(by have := HA.out.2; omega) = x at *
      obtain ⟨kd, xc, xp, xa, xb⟩ := x
      simp only at i0 i1 i2 i3 i4
      have HBa : Hid (Below w.heap.size w (wr.alloc (.cells #[.int .i64 kd, .int .i64 xc, .int .i64 xp, .int .i64 xa, .int .i64 xb] 32))) := below_step hbel ((Below.refl _ _).alloc (Nat.le_refl _) _)
      have HTb : Hid (Tb (wr.alloc (.cells #[.int .i64 kd, .int .i64 xc, .int .i64 xp, .int .i64 xa, .int .i64 xb] 32)) w1d.heap.size T) := HI.out.1.below ((Below.refl _ _).alloc (Nat.le_refl _) _)
      by_cases k0 : kd = 0
      · subst k0
        go_wp2_with (first
          | (go_at_call 10; refine (grant_any _ _ _ HTb.out xc xp xa xb _ rfl).mono ?_; rintro e w3 ⟨rfl, H3, o3⟩))
        go_roundw
        case rel => exact ⟨k + 1, _, by omega, by go_num, ⟨H3, HI.out.2.gT _ _ _ _⟩, HBa.out.trans (o3.below hs1 (by have := HBa.out.size; omega))⟩
        case measure => simp [intOf]; omega
      · have e0 : (kd == 0) = false := by simpa using k0
        clear k0
        go_wp2
        go_roundw
        case rel => exact ⟨k + 1, T, by omega, by go_num, ⟨HTb.out, HI.out.2⟩, HBa.out⟩
        case measure => simp [intOf]; omega
    · obtain ⟨wA, hwA⟩ : ∃ x, x = wr := ⟨wr, rfl⟩
      subst hwA
      have HWa : Hid (Wa (wA.alloc (.cells #[.int .i64 0, .int .i64 0, .int .i64 0, .int .i64 0] 51)) wA.heap.size 4 (fun i => if i < 0 then cp T i p else 0)) := Wa.new wA 4 51
      have HTb : Hid (Tb (wA.alloc (.cells #[.int .i64 0, .int .i64 0, .int .i64 0, .int .i64 0] 51)) w1d.heap.size T) := HI.out.1.below ((Below.refl _ _).alloc (Nat.le_refl _) _)
      have HBa : Hid (Below w.heap.size w (wA.alloc (.cells #[.int .i64 0, .int .i64 0, .int .i64 0, .int .i64 0] 51))) := below_step hbel ((Below.refl _ _).alloc (Nat.le_refl _) _)
      have HQ : Hid (w1d.heap.size < wA.heap.size) := HI.out.1.lt
      have HQW : Hid (w.heap.size ≤ wA.heap.size) := hbel.size
      have HSo : Hid (Sole T ∧ ∀ i, T i < 16) := ⟨HI.out.2, HI.out.1.le⟩
      go_wp2
      go_loopw [73] (fun i wq => ∃ d : Nat, d ≤ 4 ∧ i = .int .i64 d ∧ Hid (Tb wq w1d.heap.size T ∧ Wa wq wA.heap.size 4 (fun i => if i < d then cp T i p else 0)) ∧ Below w.heap.size w wq) (fun i _ => 4 - (intOf i).toNat)
      case atStart => exact ⟨0, by omega, rfl, ⟨HTb.out, HWa.out⟩, HBa.out⟩
      case round =>
        clear HTb HWa HBa
        obtain ⟨d, hd, rfl, HTW, hbx⟩ := hrel
        rename World => wp
        by_cases hd4 : d < 4
        · have f0 := HTW.out.2.fz d
          have g0 := HTW.out.2.cell d hd4
          go_wp2_with (first
            | (go_at_call 19; refine (copies_is _ _ _ HTW.out.1 d p _ (cpn hd4 hp)).mono ?_; rintro e wy ⟨rfl, hw⟩; subst wy))
          go_roundw
          case rel =>
            refine ⟨d + 1, by omega, by go_num, (show Tb _ _ _ ∧ Wa _ _ _ _ from ⟨HTW.out.1.off (q := wA.heap.size) ((Off.refl wA.heap.size wp).set _ _) (by have := HQ.out; omega), ?_⟩), below_set hbx (p := ⟨wA.heap.size, d, none⟩) HQW.out _⟩
            have h9 := HTW.out.2.put (v := cp T d p) (i := d) hd4
            have e9 : put (fun i => if i < d then cp T i p else 0) d (cp T d p) = (fun i => if i < d + 1 then cp T i p else 0) := by
              funext j
              show (if j = d then cp T d p else if j < d then cp T j p else 0) = if j < d + 1 then cp T j p else 0
              by_cases e : j = d
              · subst e; rw [if_pos rfl, if_pos (by omega)]
              · rw [if_neg e]
                by_cases h : j < d
                · rw [if_pos h, if_pos (by omega)]
                · rw [if_neg h, if_neg (by omega)]
            rw [e9] at h9
            exact h9
          case measure => simp [intOf]; omega
        · obtain rfl : d = 4 := by omega
          obtain ⟨L, hL⟩ : ∃ L, hol T c p o true 4 = L := ⟨_, rfl⟩
          obtain ⟨n, hn⟩ : ∃ n, L.length = n := ⟨_, rfl⟩
          have hn4 : n ≤ 4 := by rw [← hn, ← hL]; exact hol_len _ _ _ _ _ _
          obtain ⟨F, hF⟩ : ∃ F : Int, ((frI T c p : Nat) : Int) = F := ⟨_, rfl⟩
          obtain ⟨T1, hT1⟩ : ∃ T1, gT T c p F 0 = T1 := ⟨_, rfl⟩
          obtain ⟨T2, hT2⟩ : ∃ T2, gT T1 c p 0 ((2 : Int) ^ o) = T2 := ⟨_, rfl⟩
          have hE1 : ∀ d, d < 4 → d ≠ c → cp T1 d p = cp T d p := fun d hd hne => by rw [← hT1]; exact (gT_else hd hp (.inr (by omega))).1
          have hE2 : ∀ d, d < 4 → d ≠ c → cp T2 d p = cp T d p := fun d hd hne => by rw [← hT2, (gT_else hd hp (.inr (by omega))).1]; exact hE1 d hd hne
          have hS1 : Sole T1 := by rw [← hT1]; exact HSo.out.1.gT _ _ _ _
          have hS2 : Sole T2 := by rw [← hT2]; exact hS1.gT _ _ _ _
          obtain ⟨B, hB⟩ : ∃ B, (n == 0) = B := ⟨_, rfl⟩
          have HG : Hid (gOk T c p F 0 = true ∧ gOk T1 c p 0 ((2 : Int) ^ o) = B ∧ hoI T c p o true = L ∧ L.length = n ∧ ((frI T c p : Nat) : Int) = F ∧ gT T c p F 0 = T1 ∧ gT T1 c p 0 ((2 : Int) ^ o) = T2 ∧ Sole T2 ∧ (∀ d, d < 4 → d ≠ c → cp T2 d p = cp T d p) ∧ Rem T2 c p o L ∧ ∀ x ∈ L, ∃ d : Nat, d < 4 ∧ x = d) := by
            refine ⟨by rw [← hF]; exact may_copy HSo.out.2 hc hp, ?_, (hoI_nat hc hp ho true).trans hL, hn, hF, hT1, hT2, hS2, hE2, by rw [← hL]; exact Rem.start hE2, ?_⟩
            · rw [may_own hS1 hc hp ho, hol_congr hE1 4 (Nat.le_refl _), hL, hn, hB]
            · intro x hx
              rw [← hL] at hx
              obtain ⟨d, h1, _, _, h4⟩ := (hol_mem x 4).1 hx
              exact ⟨d, h1, h4⟩
          have hBn : (!(B == ((n : Int) == 0))) = false := by
            have e9 : ((n : Int) == 0) = (n == 0) := by
              rw [Bool.eq_iff_iff, beq_iff_eq, beq_iff_eq]
              omega
            rw [e9, hB]
            cases B <;> rfl
          have HBn : Hid ((n == 0) = B) := hB
          clear hL hn hF hT1 hT2 hE1 hE2 hS1 hS2 hB
          go_wp2_with (first
            | (go_at_call 10; refine (grant_any _ _ _ H5 c p 0 ((2 : Int) ^ o) B HG.out.2.1).mono ?_; rw [HG.out.2.2.2.2.2.2.1]; rintro e w6 ⟨rfl, H6, o6⟩)
            | (go_at_call 10; refine (grant_any _ _ _ H4 c p F 0 true HG.out.1).mono ?_; rw [HG.out.2.2.2.2.2.1]; rintro e w5 ⟨rfl, H5, o5⟩)
            | (go_at_call 11; refine (free_is _ _ _ H3 c p F HG.out.2.2.2.2.1).mono ?_; rintro e w4 ⟨rfl, hb4⟩; have H4 := H3.below hb4)
            | (go_at_call 13; refine (holders_is _ _ _ HTW.out.1 c p o true L n HG.out.2.2.1 HG.out.2.2.2.1).mono ?_; rintro e w3 ⟨al, cl, rfl, hO3, hb3⟩; have H3 := HTW.out.1.below hb3))
          have HBs : Hid (w1d.heap.size < wp.heap.size) := HTW.out.1.lt
          have W3 := HTW.out.2.below hb3
          have W4 := W3.below hb4
          have W5 := W4.off o5 (by have := HQ.out; omega)
          have W6 := W5.off o6 (by have := HQ.out; omega)
          have B4 : Below w.heap.size w w4 := below_step (below_step hbx hb3) hb4
          have B6 : Below w.heap.size w w6 := (B4.trans (o5.below hs1 (by have := B4.size; omega))).trans (o6.below hs1 (by have := B4.size; have := o5.size; omega))
          have O6 := ((hO3.below hb4).off o5 HBs.out).off o6 HBs.out
          have HS6 : Hid (Tb w6 w1d.heap.size T2 ∧ Wa w6 wA.heap.size 4 (fun i => if i < 4 then cp T i p else 0) ∧ OwnI w6 wp.heap.size 3 .i64 al cl L) := ⟨H6, W6, O6⟩
          clear hO3 H3 H4 H5 o5 H6 o6 W3 W4 W5 W6 O6 hb3 hb4 B4
          obtain ⟨wB, hwB⟩ : ∃ x, x = wp := ⟨wp, rfl⟩
          subst hwB
          go_loopw [109] (fun i wq => ∃ d : Nat, d ≤ 4 ∧ i = .int .i64 d ∧ Hid (Tb wq w1d.heap.size T2 ∧ Wa wq wA.heap.size 4 (fun i => if i < 4 then cp T i p else 0) ∧ OwnI wq wB.heap.size 3 .i64 al cl L) ∧ Below w.heap.size w wq) (fun i _ => 4 - (intOf i).toNat)
          case atStart => exact ⟨0, by omega, rfl, HS6, B6⟩
          case round =>
            clear HS6 B6 hbx HTW
            obtain ⟨d, hd, rfl, HD, hbx⟩ := hrel
            rename World => wd
            by_cases hd4 : d < 4
            · have HTd : Hid (∀ W : World, W.heap = wd.heap → Tb W w1d.heap.size T2) := fun W hW => HD.out.1.keep (by rw [hW]; exact Nat.le_refl _) (by rw [hW])
              have HR : Hid (∀ n, Tb (wd.drewN n) w1d.heap.size T2 ∧ Wa (wd.drewN n) wA.heap.size 4 (fun i => if i < 4 then cp T i p else 0) ∧ OwnI (wd.drewN n) wB.heap.size 3 .i64 al cl L) := fun n => ⟨HD.out.1.keep (Nat.le_refl _) rfl, HD.out.2.1.keep (Nat.le_refl _) rfl, HD.out.2.2⟩
              by_cases hdc : d = c
              · have e1 : ((d : Int) != (c : Int)) = false := by simp; omega
                clear hdc
                go_upto_region 25 with fail
                go_quiet (fail)
                go_wp2
                go_roundw
                case rel => exact ⟨d + 1, by omega, by go_num, HR.out _, below_drN hbx _⟩
                case measure => simp [intOf]; omega
              · have e1 : ((d : Int) != (c : Int)) = true := by simp; omega
                obtain ⟨X, hX⟩ : ∃ X, cp T d p = X := ⟨_, rfl⟩
                have V1 : Hid (((cpI T2 d p : Nat) : Int) = (X : Int)) := by unfold Hid; rw [cpI_nat hd4 hp, HG.out.2.2.2.2.2.2.2.2.1 d hd4 hdc, hX]
                have g0 : wd.cell? ⟨wA.heap.size, d, none⟩ = some (.int .i64 (X : Int)) := by
                  have := HD.out.2.1.cell d hd4
                  rw [if_pos hd4, hX] at this
                  exact this
                clear hdc hX
                go_upto_region 25 with fail
                go_quiet ((first
                  | (go_at_call 19; refine (copies_is _ _ _ (HTd.out _ ?_) d p X V1.out).mono ?_; rfl; rintro e w9 ⟨rfl, hw⟩; subst w9; exact ⟨rfl, _, rfl⟩)))
                go_wp2
                go_roundw
                case rel => exact ⟨d + 1, by omega, by go_num, HR.out _, below_drN hbx _⟩
                case measure => simp [intOf]; omega
            · go_wp2
              go_loopw [128] (fun i wq => ∃ (j : Nat) (T3 : Nat → Nat), j ≤ n ∧ i = .int .i64 j ∧ Hid (Tb wq w1d.heap.size T3 ∧ Sole T3 ∧ Rem T3 c p o (L.drop j) ∧ OwnI wq wB.heap.size 3 .i64 al cl L) ∧ Below w.heap.size w wq) (fun i _ => n - (intOf i).toNat)
              case atStart => exact ⟨0, T2, by omega, rfl, ⟨HD.out.1, HG.out.2.2.2.2.2.2.2.1, HG.out.2.2.2.2.2.2.2.2.2.1, HD.out.2.2⟩, hbx⟩
              case round =>
                clear HD hbx
                obtain ⟨j, T3, hj, rfl, HJ, hbx⟩ := hrel
                rename World => wj
                by_cases hjn : j < n
                · have hjL : j < L.length := by have := HG.out.2.2.2.1; omega
                  obtain ⟨bL, oL, rfl, -, hcL⟩ := HJ.out.2.2.2.rd.at hjL
                  have hcl := hcL j hjL
                  obtain ⟨d0, hd0, hx0⟩ := HG.out.2.2.2.2.2.2.2.2.2.2 L[j] (List.getElem_mem _)
                  rw [hx0] at hcl
                  have HD0 : Hid (d0 < 4 ∧ Rem T3 c p o (((d0 : Nat) : Int) :: L.drop (j + 1))) := ⟨hd0, by rw [← hx0, ← List.drop_eq_getElem_cons hjL]; exact HJ.out.2.2.1⟩
                  clear hcL hx0 hd0 hjL
                  go_wp2_with (first
                    | (go_at_call 15; refine (drop_any _ _ _ HJ.out.1 d0 p ((2 : Int) ^ o) 0).mono ?_; rintro e w7 ⟨rfl, H7, o7⟩))
                  go_roundw
                  case rel => exact ⟨j + 1, _, by omega, by go_num, ⟨H7, HJ.out.2.1.dT _ _ _ _, HD0.out.2.step HD0.out.1 hp ho, HJ.out.2.2.2.off o7 HBs.out⟩, hbx.trans (o7.below hs1 (by have := hbx.size; omega))⟩
                  case measure => simp [intOf]; omega
                · have hR0 : Rem T3 c p o [] := by
                    have := HJ.out.2.2.1
                    rw [List.drop_of_length_le (by have := HG.out.2.2.2.1; omega)] at this
                    exact this
                  have hh0 := hR0.done
                  obtain ⟨T4, hT4⟩ : ∃ T4, gT T3 c p 0 ((2 : Int) ^ o) = T4 := ⟨_, rfl⟩
                  obtain ⟨V, hV⟩ : ∃ V, owI T4 c p = V := ⟨_, rfl⟩
                  have hg4 : gOk T3 c p 0 ((2 : Int) ^ o) = true := by rw [may_own HJ.out.2.1 hc hp ho, hh0]; rfl
                  have hVb : V.testBit o = true := by rw [← hV, ← hT4]; exact owns_now hc hp hg4
                  have hE4 : hoI T4 c p o true = [] := by
                    rw [hoI_nat hc hp ho, ← hT4, hol_congr (fun d hd hne => (gT_else hd hp (.inr (by omega))).1) 4 (Nat.le_refl _)]
                    exact List.eq_nil_of_length_eq_zero hh0
                  have HF : Hid (gOk T3 c p 0 ((2 : Int) ^ o) = true ∧ gT T3 c p 0 ((2 : Int) ^ o) = T4 ∧ ((owI T4 c p : Nat) : Int) = (V : Int) ∧ hoI T4 c p o true = [] ∧ V.testBit o = true) := ⟨hg4, hT4, by rw [hV], hE4, hVb⟩
                  clear hR0 hh0 hT4 hV hg4 hVb hE4
                  go_wp2_with (first
                    | (go_at_call 13; refine (holders_is _ _ _ H8 c p o true [] 0 HF.out.2.2.2.1 rfl).mono ?_; rintro e w9 ⟨ax, cx, rfl, -, hb9⟩)
                    | (go_at_call 21; refine (own_is _ _ _ H8 c p V HF.out.2.2.1).mono ?_; rintro e wz ⟨rfl, hw⟩; subst wz)
                    | (go_at_call 10; refine (grant_any _ _ _ HJ.out.1 c p 0 ((2 : Int) ^ o) true HF.out.1).mono ?_; rw [HF.out.2.1]; rintro e w8 ⟨rfl, H8, o8⟩; have hV16 : V < 16 := (by have h1 := HF.out.2.2.1; have h2 := H8.le (c * 12 + p * 2 + 1); rw [owI_nat hc hp] at h1; unfold ow at h1; omega); have hsr := shr16 V hV16 o ho HF.out.2.2.2.2))
                  go_ret
                  exact ⟨rfl, below_step (hbx.trans (o8.below hs1 (by have := hbx.size; omega))) hb9⟩

end Go.Proofs.Ytngfcnbcljcdfaa
