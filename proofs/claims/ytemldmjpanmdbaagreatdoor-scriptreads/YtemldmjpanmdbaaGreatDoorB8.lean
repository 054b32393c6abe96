/- The document's answer for scripts: which scripts are right, walked. The document's answer for scripts: their bytes, walked. -/
import Derived.Test.YtemldmjpanmdbaaGreatDoorT2
import Derived.Test.YtemldmjpanmdbaaGreatDoorA5
namespace Go.Proofs.YtemldmjpanmdbaaGreatDoor
open Go.RowKit
set_option linter.unusedVariables false

theorem refright_any (s : Sg) (hv : wordB s.v) (w : World) : Calls Tryz.prog 66 #[sgV s] w fun x w' => x = .returned (.bool (rightS s)) ∧ Below w.heap.size w w' := by
  obtain ⟨k, c, l, n, a, m, ok, op, oo, v⟩ := s
  by_cases h : (0 ≤ k ∧ k ≤ 14) ∧ (0 ≤ c ∧ c ≤ 3) ∧ (0 ≤ l ∧ l ≤ 7) ∧ (-1 ≤ n ∧ n ≤ 65535) ∧ (-1 ≤ a ∧ a ≤ 65535)
  · exact refright_in k c l n a m ok op oo v hv w h.1 h.2.1 h.2.2.1 h.2.2.2.1 h.2.2.2.2
  · have hr : rightS ⟨k, c, l, n, a, m, ok, op, oo, v⟩ = false := by
      cases hh : rightS ⟨k, c, l, n, a, m, ok, op, oo, v⟩ with
      | false => rfl
      | true =>
        simp only [rightS, withinS, Bool.and_eq_true, bw_iff] at hh
        obtain ⟨⟨h1, ⟨⟨⟨⟨⟨⟨h2, h3⟩, h4⟩, h5⟩, h6⟩, h7⟩, h8⟩⟩, h9⟩ := hh
        exact absurd ⟨h1, h2, h3, h4, h5⟩ h
    rw [hr]
    exact refright_out k c l n a m ok op oo v w h

set_option maxHeartbeats 1600000 in
theorem refRight_any (c f m p r : Int) (ss : List Sg) (ao : Option Addr) (n cap : Nat) (w : World) (h : RdR stC w ao cap ss) (hn : ss.length = n) (hw : ∀ s ∈ ss, wordB s.v) :
    Calls Tryz.prog 42 #[scV ⟨c, f, m, p, r, ss⟩ ao n cap] w fun x w' => x = .returned (.bool (rightSc ⟨c, f, m, p, r, ss⟩)) ∧ Below w.heap.size w w' := by
  have hst := fun (ad : Addr) (re im : Nat) (W : World) => run_store Tryz.prog W ad (.complex .f64 re im) .plain rfl
  have hB0 : Below w.heap.size w (w.alloc (scO ⟨c, f, m, p, r, ss⟩ ao n cap)) := below_box _ _
  have hle := h.le
  have hmx := h.mx
  have h1 : RdR stC (w.alloc (scO ⟨c, f, m, p, r, ss⟩ ao n cap)) ao cap ss := h.below hB0
  have hs := ScAt.new w ⟨c, f, m, p, r, ss⟩ ao n cap
  have hsz : w.heap.size ≤ (w.alloc (scO ⟨c, f, m, p, r, ss⟩ ao n cap)).heap.size := by simp
  have hC := fun W => refCan_any c f m p r W
  have HWD : Hid (∀ s ∈ ss, wordB s.v) := hw
  unfold cfV at hC
  clear hw
  have HRS : Hid (rightSc ⟨c, f, m, p, r, ss⟩ = (decide (ss.length ≤ 500) && ss.all rightS && rightSc.canC c f m p r)) := rfl
  go_enter Tryz.func42, Tryz.ntmps42
  go_upto_region 1 with fail
  generalize w.alloc (scO ⟨c, f, m, p, r, ss⟩ ao n cap) = W0 at *
  have HS : Hid (ScAt W0 w.heap.size ⟨c, f, m, p, r, ss⟩ ao n cap) := hs
  have H1 : Hid (RdR stC W0 ao cap ss) := h1
  have HB0 : Hid (Below w.heap.size w W0) := hB0
  obtain ⟨a0, a1, a2, a3, a4, a5⟩ := hs.cells
  simp only at a0 a1 a2 a3 a4 a5
  clear hs h1 hB0 h
  cases hc : rightSc.canC c f m p r
  · rw [hc] at hC
    go_wp2_with (first
      | (go_at_call 65; refine (hC _).mono ?_; rintro x w1 ⟨rfl, hb1⟩))
    go_ret
    exact ⟨ret_bool (by rw [HRS.out, hc]; simp), HB0.out.trans (hb1.mono HB0.out.size)⟩
  · rw [hc] at hC
    go_upto_region 1 with fail
    by_cases h5 : 500 < n
    · go_wp2_with (first
        | (go_at_call 65; refine (hC _).mono ?_; rintro x w1 ⟨rfl, hb1⟩
           obtain ⟨b0, b1, b2, b3, b4, b5⟩ := (HS.out.below hb1).cells
           simp only at b0 b1 b2 b3 b4 b5))
      go_ret
      exact ⟨ret_bool (by rw [HRS.out, hc, decide_eq_false (by omega)]; rfl), HB0.out.trans (hb1.mono HB0.out.size)⟩
    · go_upto_region 3 with (first
        | (go_at_call 65; refine (hC _).mono ?_; rintro x W ⟨rfl, hb1⟩
           obtain ⟨b0, b1, b2, b3, b4, b5⟩ := (HS.out.below hb1).cells
           simp only at b0 b1 b2 b3 b4 b5))
      have H2 : Hid (RdR stC W ao cap ss) := H1.out.below hb1
      have HBW : Hid (Below w.heap.size w W) := HB0.out.trans (hb1.mono HB0.out.size)
      clear hb1 hC a0 a1 a2 a3 a4 a5
      go_wp2
      go_loopw [18] (fun i wr => ∃ k : Nat, k ≤ n ∧ i = .int .i64 k ∧ ss.all rightS = (ss.drop k).all rightS ∧ Below W.heap.size W wr) (fun i _ => n - (intOf i).toNat)
      case atStart => exact ⟨0, Nat.zero_le _, rfl, by simp, Below.refl _ _⟩
      case round =>
        obtain ⟨k, hk, rfl, hall, hbel⟩ := hrel
        have hsw := hbel.size
        by_cases hlt : k < n
        · have hsw0 := HWD.out ss[k] (List.getElem_mem _)
          obtain ⟨b, off, rfl, hb, hq⟩ := (H2.out.below hbel).at stE (t := k) (by omega)
          rw [List.drop_eq_getElem_cons (by omega), List.all_cons] at hall
          generalize ss[k] = s at *
          obtain ⟨sk, sc, sl, sn, sa, sm, sok, sop, soo, vx, vy⟩ := s
          obtain ⟨q0, q1, q2, q3, q4, q5, q6, q7, q8, q9⟩ := stIn _ _ _ _ hq
          simp only at q0 q1 q2 q3 q4 q5 q6 q7 q8 q9
          clear hq
          have HA : Hid (ss.all rightS = (rightS ⟨sk, sc, sl, sn, sa, sm, sok, sop, soo, vx, vy⟩ && (ss.drop (k + 1)).all rightS)) := hall
          clear hall
          have HBL : Hid (Below W.heap.size W wr) := hbel
          clear hbel
          have hR := fun W => refright_any ⟨sk, sc, sl, sn, sa, sm, sok, sop, soo, vx, vy⟩ hsw0 W
          clear hsw0
          cases hr : rightS ⟨sk, sc, sl, sn, sa, sm, sok, sop, soo, vx, vy⟩
          · rw [hr] at hR
            go_wp2_with (first
              | (go_at_call 66; refine (hR _).mono ?_; rintro x w1 ⟨rfl, hb1⟩))
            go_ret
            exact ⟨ret_bool (by rw [HRS.out, HA.out, hr]; simp), HBW.out.trans (((HBL.out.alloc hsw _).trans (hb1.mono (by simp; omega))).mono HBW.out.size)⟩
          · rw [hr] at hR
            go_wp2_with (first
              | (go_at_call 66; refine (hR _).mono ?_; rintro x w1 ⟨rfl, hb1⟩))
            go_roundw
            case rel => exact ⟨k + 1, by omega, by go_num, by rw [HA.out, hr, Bool.true_and], (HBL.out.alloc hsw _).trans (hb1.mono (by simp; omega))⟩
            case measure => simp [intOf]; omega
        · have hk2 : k = n := by omega
          subst hk2
          have hd : ss.all rightS = true := by rw [hall, List.drop_of_length_le (by omega)]; rfl
          have HD : Hid (ss.all rightS = true) := hd
          have HBL : Hid (Below W.heap.size W wr) := hbel
          clear hd hall hbel
          go_wp2
          go_ret
          exact ⟨ret_bool (by rw [HRS.out, HD.out, hc, decide_eq_true (by omega)]; rfl), HBW.out.trans (HBL.out.mono HBW.out.size)⟩
end Go.Proofs.YtemldmjpanmdbaaGreatDoor

namespace Go.Proofs.YtemldmjpanmdbaaGreatDoor
open Go.RowKit
set_option linter.unusedVariables false

theorem refNums_at (W : World) (g m q : Nat) (hg : W.heap.size = g) (xs : Array Value) (zs : List Int) (hx : xs.toList = zs.map (Value.int .i64)) (hm : zs.length = m) (hq : q = 3 * m) (hz : ∀ z ∈ zs, 0 ≤ z ∧ z ≤ 16777215) (hs : m ≤ 1000) :
    Calls Tryz.prog 43 #[.slice (some ⟨g, 0, none⟩) m m] (W.alloc (.cells xs 3)) fun e w' => ∃ ao cap, e = .returned (.tuple #[.slice ao q cap, .int .i64 0]) ∧
      OwnI w' W.heap.size 5 .u8 ao cap (formsN zs) ∧ Below W.heap.size W w' := by
  subst hg hq
  have hr := RdI.built W 3 .i64 xs m zs hx hm (by unfold maxLen; omega)
  refine (refNums_good _ m m zs _ hr hm (by omega) hz).mono ?_
  rintro e w2 ⟨ao2, cap2, rfl, ho2, hb2⟩
  have hs3 : (W.alloc (.cells xs 3)).heap.size = W.heap.size + 1 := by simp
  rw [hs3] at ho2 hb2
  exact ⟨_, _, rfl, ho2.mono (by omega), (below_box W _).trans (hb2.mono (by omega))⟩

/-- The numbers of a step that is right can be written. -/
theorem stN_bd {s : Sg} (h : rightS s = true) (hm : 0 ≤ s.m ∧ s.m ≤ 65535) : ∀ z ∈ stN s, 0 ≤ z ∧ z ≤ 16777215 := by
  simp only [rightS, withinS, Bool.and_eq_true, bw_iff] at h
  obtain ⟨⟨h1, ⟨⟨⟨⟨⟨⟨h2, h3⟩, h4⟩, h5⟩, h6⟩, h7⟩, h8⟩⟩, h9⟩ := h
  intro z hz
  simp only [stN, List.mem_cons, List.not_mem_nil, or_false] at hz
  rcases hz with rfl | rfl | rfl | rfl | rfl | rfl | rfl | rfl | rfl <;> omega

theorem refBytes_wrong (c f m p r : Int) (ss : List Sg) (ao : Option Addr) (n cap : Nat) (w : World) (h : RdR stC w ao cap ss) (hn : ss.length = n) (hw : ∀ s ∈ ss, wordB s.v) (hr : rightSc ⟨c, f, m, p, r, ss⟩ = false) :
    Calls Tryz.prog 20 #[scV ⟨c, f, m, p, r, ss⟩ ao n cap] w fun x w' => x = .returned (.tuple #[.slice none 0 0, .int .i64 231]) ∧ Below w.heap.size w w' := by
  have hB0 : Below w.heap.size w (w.alloc (scO ⟨c, f, m, p, r, ss⟩ ao n cap)) := below_box _ _
  have hR := refRight_any c f m p r ss ao n cap _ (h.below hB0) hn hw
  rw [hr] at hR
  have HB0 : Hid (Below w.heap.size w (w.alloc (scO ⟨c, f, m, p, r, ss⟩ ao n cap))) := hB0
  clear h hw hr hB0
  go_enter Tryz.func20, Tryz.ntmps20
  go_wp2_with (first
    | (go_at_call 42; refine hR.mono ?_; rintro x w1 ⟨rfl, hb1⟩))
  go_ret2
  exact ⟨rfl, HB0.out.trans (hb1.mono HB0.out.size)⟩

set_option maxHeartbeats 3200000 in
set_option maxRecDepth 100000 in
theorem refBytes_right (c f m p r : Int) (ss : List Sg) (ao : Option Addr) (n cap : Nat) (w : World) (h : RdR stC w ao cap ss) (hn : ss.length = n) (hw : ∀ s ∈ ss, wordB s.v) (hm : ∀ s ∈ ss, 0 ≤ s.m ∧ s.m ≤ 65535) (hr : rightSc ⟨c, f, m, p, r, ss⟩ = true) :
    Calls Tryz.prog 20 #[scV ⟨c, f, m, p, r, ss⟩ ao n cap] w fun x w' => (∃ a2 c2, x = .returned (.tuple #[.slice a2 (18 + 43 * n) c2, .int .i64 0]) ∧ OwnI w' w.heap.size 5 .u8 a2 c2 (scZ ⟨c, f, m, p, r, ss⟩)) ∧ Below w.heap.size w w' := by
  have hst := fun (ad : Addr) (re im : Nat) (W : World) => run_store Tryz.prog W ad (.complex .f64 re im) .plain rfl
  have hB0 : Below w.heap.size w (w.alloc (scO ⟨c, f, m, p, r, ss⟩ ao n cap)) := below_box _ _
  have hR := refRight_any c f m p r ss ao n cap _ (h.below hB0) hn hw
  rw [hr] at hR
  have hs := ScAt.new w ⟨c, f, m, p, r, ss⟩ ao n cap
  have hrd := h.below hB0
  have hle := h.le
  have hrr := hr
  simp only [rightSc, rightSc.canC, Bool.and_eq_true, decide_eq_true_eq, bw_iff, List.all_eq_true] at hrr
  obtain ⟨⟨h500, hall⟩, ⟨⟨⟨hc, hf⟩, hmm⟩, hp⟩, hrb⟩ := hrr
  have HZ : Hid (∀ z ∈ [c, f, m, p, r, (n : Int)], 0 ≤ z ∧ z ≤ 16777215) := by
    intro z hz
    simp only [List.mem_cons, List.not_mem_nil, or_false] at hz
    rcases hz with rfl | rfl | rfl | rfl | rfl | rfl <;> omega
  have HAL : Hid ((∀ s ∈ ss, rightS s = true) ∧ (∀ s ∈ ss, wordB s.v) ∧ (∀ s ∈ ss, 0 ≤ s.m ∧ s.m ≤ 65535) ∧ ss.length ≤ 500) := ⟨hall, hw, hm, h500⟩
  clear hall hw hm h hr hc hf hmm hp hrb
  go_enter Tryz.func20, Tryz.ntmps20
  go_upto_region 1 with fail
  generalize w.alloc (scO ⟨c, f, m, p, r, ss⟩ ao n cap) = W0 at *
  have HS : Hid (ScAt W0 w.heap.size ⟨c, f, m, p, r, ss⟩ ao n cap) := hs
  have HB0 : Hid (Below w.heap.size w W0) := hB0
  have HRD : Hid (RdR stC W0 ao cap ss) := hrd
  obtain ⟨a0, a1, a2, a3, a4, a5⟩ := hs.cells
  simp only at a0 a1 a2 a3 a4 a5
  clear hs hB0 hrd
  go_upto_region 4 with (first
    | (go_at_call 42; refine hR.mono ?_; rintro x w1 ⟨rfl, hb1⟩
       obtain ⟨b0, b1, b2, b3, b4, b5⟩ := (HS.out.below hb1).cells
       simp only at b0 b1 b2 b3 b4 b5))
  have hb2 : Below W0.heap.size W0 (w1.alloc (.cells #[.int .i64 c, .int .i64 f, .int .i64 m, .int .i64 p, .int .i64 r] 25)) := hb1.alloc hb1.size _
  have hnew := heap_alloc_new w1 (.cells #[.int .i64 c, .int .i64 f, .int .i64 m, .int .i64 p, .int .i64 r] 25)
  generalize w1.alloc (.cells #[.int .i64 c, .int .i64 f, .int .i64 m, .int .i64 p, .int .i64 r] 25) = W at *
  generalize w1.heap.size = g4 at *
  have d0 : W.cell? ⟨g4, 0, none⟩ = some (.int .i64 c) := by rw [cell_of_row _ _ _ _ _ _ hnew]; rfl
  have d1 : W.cell? ⟨g4, 1, none⟩ = some (.int .i64 f) := by rw [cell_of_row _ _ _ _ _ _ hnew]; rfl
  have d2 : W.cell? ⟨g4, 2, none⟩ = some (.int .i64 m) := by rw [cell_of_row _ _ _ _ _ _ hnew]; rfl
  have d3 : W.cell? ⟨g4, 3, none⟩ = some (.int .i64 p) := by rw [cell_of_row _ _ _ _ _ _ hnew]; rfl
  have d4 : W.cell? ⟨g4, 4, none⟩ = some (.int .i64 r) := by rw [cell_of_row _ _ _ _ _ _ hnew]; rfl
  have hsW := HS.out.below hb2
  obtain ⟨e0, e1, e2, e3, e4, e5⟩ := hsW.cells
  simp only at e0 e1 e2 e3 e4 e5
  have HSW : Hid (ScAt W w.heap.size ⟨c, f, m, p, r, ss⟩ ao n cap) := hsW
  have HBW : Hid (Below w.heap.size w W) := HB0.out.trans (hb2.mono HB0.out.size)
  have HRW : Hid (RdR stC W ao cap ss) := HRD.out.below hb2
  clear hsW hb1 hb2 hnew a0 a1 a2 a3 a4 a5 b0 b1 b2 b3 b4 b5 hR
  go_upto_region 5 with (first
    | (go_at_call 43; refine (refNums_at W _ 6 18 rfl _ [c, f, m, p, r, (n : Int)] rfl rfl rfl HZ.out (by omega)).mono ?_; rintro x w2 ⟨ao2, cap2, rfl, ho2, hb2⟩))
  obtain ⟨y0, y1, y2, y3, y4, y5⟩ := (HSW.out.below hb2).cells
  simp only at y0 y1 y2 y3 y4 y5
  have ho2' : OwnI w2 W.heap.size 5 .u8 ao2 cap2 (formsN [c, f, m, p, r, (n : Int)] ++ stsZ (ss.take 0)) := by simpa [stsZ] using ho2
  clear ho2 d0 d1 d2 d3 d4 e0 e1 e2 e3 e4 e5
  go_wp2
  go_loopw [5, 37] (fun s i wr => ∃ (k : Nat) (a : Option Addr) (cc : Nat), k ≤ n ∧ i = .int .i64 k ∧ s = .slice a (18 + 43 * k) cc ∧ OwnI wr W.heap.size 5 .u8 a cc (formsN [c, f, m, p, r, (n : Int)] ++ stsZ (ss.take k)) ∧ Below W.heap.size W wr) (fun _ i _ => n - (intOf i).toNat)
  case atStart => exact ⟨0, _, _, Nat.zero_le _, rfl, rfl, ho2', hb2⟩
  case round =>
    obtain ⟨k, a, cc, hk, rfl, rfl, ho, hbel⟩ := hrel
    clear ho2' hb2 y0 y1 y2 y3 y4 y5
    have hsz := hbel.size
    by_cases hlt : k < n
    · have hkl : k < ss.length := by omega
      obtain ⟨b, off, rfl, hb, hq⟩ := (HRW.out.below hbel).at stE hkl
      have hrs := HAL.out.1 ss[k] (List.getElem_mem _)
      have hws := HAL.out.2.1 ss[k] (List.getElem_mem _)
      have hms := HAL.out.2.2.1 ss[k] (List.getElem_mem _)
      have hSn : formsN [c, f, m, p, r, (n : Int)] ++ stsZ (ss.take k) ++ formsN (stN ss[k]) ++ valN ss[k].v.1 ss[k].v.2 = formsN [c, f, m, p, r, (n : Int)] ++ stsZ (ss.take (k + 1)) := by
        rw [List.take_succ_eq_append_getElem hkl]
        simp only [stsZ, List.flatMap_append, List.flatMap_cons, List.flatMap_nil, List.append_nil, stZ, List.append_assoc]
      have hLn : (formsN [c, f, m, p, r, (n : Int)] ++ stsZ (ss.take k)).length = 18 + 43 * k := by
        rw [List.length_append, formsN_length, stsZ_length, List.length_take, Nat.min_eq_left (by omega)]; rfl
      generalize ss[k] = s at *
      obtain ⟨sk, sc, sl, sn, sa, sm, sok, sop, soo, vx, vy⟩ := s
      obtain ⟨q0, q1, q2, q3, q4, q5, q6, q7, q8, q9⟩ := stIn _ _ _ _ hq
      simp only at q0 q1 q2 q3 q4 q5 q6 q7 q8 q9
      have HST : Hid (∀ z ∈ stN ⟨sk, sc, sl, sn, sa, sm, sok, sop, soo, vx, vy⟩, 0 ≤ z ∧ z ≤ 16777215) := stN_bd hrs hms
      have hb3 := HST.out (sn + 1) (by simp [stN])
      have hb4 := HST.out (sa + 1) (by simp [stN])
      have hw1 : IntKind.i64.wrap (sn + 1) = sn + 1 := by rw [IntKind.wrap_i64]; omega
      have hw2 : IntKind.i64.wrap (sa + 1) = sa + 1 := by rw [IntKind.wrap_i64]; omega
      have hw3 : IntKind.i64.wrap sm = sm := by rw [IntKind.wrap_i64]; simp only at hms; omega
      have HF : Hid (vx < 18446744073709551616 ∧ vy < 18446744073709551616) := hws
      have HSn : Hid _ := hSn
      have HLn : Hid ((formsN [c, f, m, p, r, (n : Int)] ++ stsZ (ss.take k)).length = 18 + 43 * k) := hLn
      have HBL : Hid (∀ y, a = some y → W.heap.size ≤ y.block ∧ y.block < wr.heap.size) := ho.blk
      have HO : Hid (OwnI wr W.heap.size 5 .u8 a cc (formsN [c, f, m, p, r, (n : Int)] ++ stsZ (ss.take k)) ∧ Below W.heap.size W wr) := ⟨ho, hbel⟩
      clear hq hrs hws hSn hLn hb3 hb4 ho hbel hms
      go_upto_region 8 with fail
      have h8 := SgAt.new wr ⟨sk, sc, sl, sn, sa, sm, sok, sop, soo, vx, vy⟩
      have hbx := below_box wr (sgO ⟨sk, sc, sl, sn, sa, sm, sok, sop, soo, vx, vy⟩)
      have hW3s : wr.heap.size < (wr.alloc (sgO ⟨sk, sc, sl, sn, sa, sm, sok, sop, soo, vx, vy⟩)).heap.size := by simp
      generalize wr.alloc (sgO ⟨sk, sc, sl, sn, sa, sm, sok, sop, soo, vx, vy⟩) = W3 at *
      obtain ⟨t0, t1, t2, t3, t4, t5, t6, t7, t8, t9⟩ := h8.cells
      simp only at t0 t1 t2 t3 t4 t5 t6 t7 t8 t9
      have H8 : Hid (SgAt W3 wr.heap.size ⟨sk, sc, sl, sn, sa, sm, sok, sop, soo, vx, vy⟩ ∧ Below wr.heap.size wr W3) := ⟨h8, hbx⟩
      clear h8 hbx q0 q1 q2 q3 q4 q5 q6 q7 q8 q9
      have HBW3 : Hid (Below W.heap.size W W3) := HO.out.2.trans (H8.out.2.mono HO.out.2.size)
      have hW3 := HBW3.out.size
      go_wp2_with (first
        | (at_builtin; refine wpList_append_rdI _ rfl (.tmp 73) (.tmp 77) 29 rfl W.heap.size 5 .u8 (.int .u8 0) 1 Tryz.underlying29 info5 rfl rfl rfl (ho5.below hb6) ho6.rd (by rw [List.length_append, HLn.out]; rfl) (valN_length _ _) (by omega) (by unfold maxLen; omega) HB6.out.size ?_
           intro ao7 cap7 w7 ho7 hb7)
        | (go_at_call 44; refine (refValue_any _ _ _ HF.out.1 HF.out.2).mono ?_; rintro x w6 ⟨ao6, cap6, rfl, ho6, hb6⟩
           have HB6 : Hid (Below W.heap.size W w6) := HB5.out.trans (hb6.mono HB5.out.size))
        | (at_builtin; refine wpList_append_at _ rfl (.tmp 70) (.tmp 71) 29 rfl W.heap.size 5 .u8 (.int .u8 0) 1 Tryz.underlying29 info5 rfl rfl rfl ((HO.out.1.below H8.out.2).below hb4) ho4.rd HLn.out rfl (by omega) (by unfold maxLen; omega) HB4.out.size ?_
           intro ao5 cap5 w5 ho5 hg5 _
           have HB5 : Hid (Below W.heap.size W w5) := HB4.out.trans (grown_below hg5 (fun y hy => (HBL.out y hy).1) HB4.out.size)
           have h85 : SgAt w5 wr.heap.size ⟨sk, sc, sl, sn, sa, sm, sok, sop, soo, vx, vy⟩ := (grown_block hg5 (H8.out.1.below hb4).lt (fun y hy => by have := (HBL.out y hy).2; omega)).trans (H8.out.1.below hb4)
           obtain ⟨v0, v1, v2, v3, v4, v5, v6, v7, v8, v9⟩ := h85.cells
           simp only at v0 v1 v2 v3 v4 v5 v6 v7 v8 v9)
        | (go_at_call 43; refine (refNums_at W3 _ 9 27 rfl _ [sk, sc, sl, sn + 1, sa + 1, sm, sok, sop, soo] rfl rfl rfl HST.out (by omega)).mono ?_; rintro x w4 ⟨ao4, cap4, rfl, ho4, hb4⟩
           have HB4 : Hid (Below W.heap.size W w4) := HBW3.out.trans (hb4.mono HBW3.out.size))
        | (fail))
      rw [show formsN [c, f, m, p, r, (n : Int)] ++ stsZ (ss.take k) ++ formsN [sk, sc, sl, sn + 1, sa + 1, sm, sok, sop, soo] ++ valN vx vy = formsN [c, f, m, p, r, (n : Int)] ++ stsZ (ss.take (k + 1)) from HSn.out] at ho7
      go_roundw
      case rel => exact ⟨k + 1, ao7, cap7, by omega, by go_num, by rw [show 18 + 43 * (k + 1) = 18 + 43 * k + 27 + 16 by omega], ho7, HB6.out.trans hb7⟩
      case measure => simp [intOf]; omega
    · obtain rfl : k = n := by omega
      have HFin : Hid (OwnI wr W.heap.size 5 .u8 a cc (scZ ⟨c, f, m, p, r, ss⟩) ∧ Below W.heap.size W wr) := by
        refine ⟨?_, hbel⟩
        rw [List.take_of_length_le (by omega)] at ho
        unfold scZ hdN
        simp only
        rw [hn]
        exact ho
      clear ho hbel
      go_wp2
      go_ret2
      exact ⟨⟨a, cc, rfl, HFin.out.1.mono HBW.out.size⟩, HBW.out.trans (HFin.out.2.mono HBW.out.size)⟩
end Go.Proofs.YtemldmjpanmdbaaGreatDoor
