/- What the document's answer for messages does, walked: Read (more than 25 puts). -/
import Derived.Test.YtgeoeaadeemmcaaNw
namespace Go.Proofs.Ytgeoeaadeemmcaa
open Go.RowKit
set_option linter.unusedVariables false

set_option maxHeartbeats 40000000 in
set_option maxRecDepth 100000 in
theorem refRead_many (ao : Option Addr) (cap n : Nat) (zs : List Int) (w : World) (HRt : ∀ (M : Mg) (ao : Option Addr) (n cap : Nat) (W : World), RdP W ao n cap M.ps → n ≤ 1000 → Wd M → Calls Try.prog 53 #[msV M ao n cap] W fun x w' => x = .returned (.bool (rightB M)) ∧ Below W.heap.size W w') (hrd : RdI w .u8 ao cap zs) (hn : zs.length = n) (hb : ∀ z ∈ zs, 0 ≤ z ∧ z < 256) (h24 : 24 ≤ n) (hlen : n ≤ 140737488355328) (h7c : 25 < nAt zs 7) :
    Calls Try.prog 9 #[.slice ao n cap] w (ReadR zs w) := by
  have hst := fun (ad : Addr) (re im : Nat) (W : World) => run_store Try.prog W ad (.complex .f64 re im) .plain rfl
  have hr0 := hrd.alloc (msO mgZ none 0 0)
  have hM0 := MgAt.new w mgZ none 0 0
  have HB : Hid (∀ z ∈ zs, 0 ≤ z ∧ z < 256) := hb
  have HBD : Hid (∀ z ∈ zs.drop 24, 0 ≤ z ∧ z < 256) := fun z hz => hb z (List.mem_of_mem_drop hz)
  have HDL : Hid ((zs.drop 24).length = n - 24) := by simp [Hid, hn]
  have HRD : Hid (RdI w .u8 ao cap zs) := hrd
  have HRT : Hid _ := HRt
  have h7a : 0 ≤ nAt zs 7 := (nAt_bd zs 7 hb).1
  have h7b : nAt zs 7 ≤ 16777215 := (nAt_bd zs 7 hb).2
  clear hb hrd HRt
  go_enter Try.func9, Try.ntmps9
  go_upto_region 4 with (first
    | (go_at_call 26; refine (refGet_eight _ _ _ (n - 24) zs _ hr0 hn HB.out h24 rfl hlen).mono ?_; rintro x w1 ⟨b, f, c1, a2, c2, rfl, hbl, p0, p1, p2, p3, p4, p5, p6, p7, ho, hb1⟩; have HN7 : Hid ((w1.alloc (.cells #[.int .i64 (nAt zs 0), .int .i64 (nAt zs 1), .int .i64 (nAt zs 2), .int .i64 (nAt zs 3), .int .i64 (nAt zs 4), .int .i64 (nAt zs 5), .bool (nAt zs 6 != 0), .slice none 0 0, .complex .f64 0 0, .complex .f64 0 0, .complex .f64 0 0, .complex .f64 0 0] 30)).drew.cell? ⟨b, f + 7, none⟩ = some (.int .i64 (nAt zs 7))) := ((below_box w1 (.cells #[.int .i64 (nAt zs 0), .int .i64 (nAt zs 1), .int .i64 (nAt zs 2), .int .i64 (nAt zs 3), .int .i64 (nAt zs 4), .int .i64 (nAt zs 5), .bool (nAt zs 6 != 0), .slice none 0 0, .complex .f64 0 0, .complex .f64 0 0, .complex .f64 0 0, .complex .f64 0 0] 30)).cell (p := ⟨b, f + 7, none⟩) hbl.2).trans p7; have HMZ : Hid (MgAt (w1.alloc (.cells #[.int .i64 (nAt zs 0), .int .i64 (nAt zs 1), .int .i64 (nAt zs 2), .int .i64 (nAt zs 3), .int .i64 (nAt zs 4), .int .i64 (nAt zs 5), .bool (nAt zs 6 != 0), .slice none 0 0, .complex .f64 0 0, .complex .f64 0 0, .complex .f64 0 0, .complex .f64 0 0] 30)).drew w.heap.size mgZ none 0 0) := ((hM0.below hb1).below (below_box w1 (.cells #[.int .i64 (nAt zs 0), .int .i64 (nAt zs 1), .int .i64 (nAt zs 2), .int .i64 (nAt zs 3), .int .i64 (nAt zs 4), .int .i64 (nAt zs 5), .bool (nAt zs 6 != 0), .slice none 0 0, .complex .f64 0 0, .complex .f64 0 0, .complex .f64 0 0, .complex .f64 0 0] 30))).below (Below.refl _ _).drew; have HM : Hid (MgAt (w1.alloc (.cells #[.int .i64 (nAt zs 0), .int .i64 (nAt zs 1), .int .i64 (nAt zs 2), .int .i64 (nAt zs 3), .int .i64 (nAt zs 4), .int .i64 (nAt zs 5), .bool (nAt zs 6 != 0), .slice none 0 0, .complex .f64 0 0, .complex .f64 0 0, .complex .f64 0 0, .complex .f64 0 0] 30)).drew w1.heap.size (mgw zs [] z2 z2 z2 z2) none 0 0) := (MgAt.new w1 (mgw zs [] z2 z2 z2 z2) none 0 0).below (Below.refl _ _).drew; have HB1 : Hid (Below w.heap.size w (w1.alloc (.cells #[.int .i64 (nAt zs 0), .int .i64 (nAt zs 1), .int .i64 (nAt zs 2), .int .i64 (nAt zs 3), .int .i64 (nAt zs 4), .int .i64 (nAt zs 5), .bool (nAt zs 6 != 0), .slice none 0 0, .complex .f64 0 0, .complex .f64 0 0, .complex .f64 0 0, .complex .f64 0 0] 30)).drew) := (below_step (below_alloc (hb1.mono (by simp))) (below_box _ _)).drew; have HG : Hid (w.heap.size < w1.heap.size) := (hM0.below hb1).lt; have HO : Hid (RdI (w1.alloc (.cells #[.int .i64 (nAt zs 0), .int .i64 (nAt zs 1), .int .i64 (nAt zs 2), .int .i64 (nAt zs 3), .int .i64 (nAt zs 4), .int .i64 (nAt zs 5), .bool (nAt zs 6 != 0), .slice none 0 0, .complex .f64 0 0, .complex .f64 0 0, .complex .f64 0 0, .complex .f64 0 0] 30)).drew .u8 a2 c2 (zs.drop 24)) := (ho.rd.alloc _).drew; have HOB : Hid (∀ y, a2 = some y → y.block ≠ w1.heap.size) := fun y hy => Nat.ne_of_lt (ho.blk y hy).2; clear hb1 ho)
    | (fail))
  have HS : Hid (∀ W, Below w1.heap.size w1 W → (W.cell? ⟨b, f, none⟩ = some (.int .i64 (nAt zs 0)) ∧ W.cell? ⟨b, f + 1, none⟩ = some (.int .i64 (nAt zs 1)) ∧ W.cell? ⟨b, f + 2, none⟩ = some (.int .i64 (nAt zs 2)) ∧ W.cell? ⟨b, f + 3, none⟩ = some (.int .i64 (nAt zs 3)) ∧ W.cell? ⟨b, f + 4, none⟩ = some (.int .i64 (nAt zs 4)) ∧ W.cell? ⟨b, f + 5, none⟩ = some (.int .i64 (nAt zs 5)) ∧ W.cell? ⟨b, f + 6, none⟩ = some (.int .i64 (nAt zs 6)))) := fun W hW => ⟨(hW.cell (p := ⟨b, f, none⟩) hbl.2).trans p0, (hW.cell (p := ⟨b, f + 1, none⟩) hbl.2).trans p1, (hW.cell (p := ⟨b, f + 2, none⟩) hbl.2).trans p2, (hW.cell (p := ⟨b, f + 3, none⟩) hbl.2).trans p3, (hW.cell (p := ⟨b, f + 4, none⟩) hbl.2).trans p4, (hW.cell (p := ⟨b, f + 5, none⟩) hbl.2).trans p5, (hW.cell (p := ⟨b, f + 6, none⟩) hbl.2).trans p6⟩
  clear p0 p1 p2 p3 p4 p5 p6 p7
  first
    | go_region_held (fun W => W.cell? ⟨b, f, none⟩ = some (.int .i64 (nAt zs 0)) ∧ W.cell? ⟨b, f + 1, none⟩ = some (.int .i64 (nAt zs 1)) ∧ W.cell? ⟨b, f + 2, none⟩ = some (.int .i64 (nAt zs 2)) ∧ W.cell? ⟨b, f + 3, none⟩ = some (.int .i64 (nAt zs 3)) ∧ W.cell? ⟨b, f + 4, none⟩ = some (.int .i64 (nAt zs 4)) ∧ W.cell? ⟨b, f + 5, none⟩ = some (.int .i64 (nAt zs 5)) ∧ W.cell? ⟨b, f + 6, none⟩ = some (.int .i64 (nAt zs 6)))
      (first | exact HS.out _ (Below.refl _ _) | exact HS.out _ (Below.refl _ _).drew | exact HS.out _ ((Below.refl _ _).drew.alloc (Nat.le_refl _) _) | exact HS.out _ ((Below.refl _ _).alloc (Nat.le_refl _) _).drew | fail)
      (fail)
    | fail
  have hbg : b < w1.heap.size := hbl.2
  clear HS hbl
  generalize (w1.alloc (.cells #[.int .i64 (nAt zs 0), .int .i64 (nAt zs 1), .int .i64 (nAt zs 2), .int .i64 (nAt zs 3), .int .i64 (nAt zs 4), .int .i64 (nAt zs 5), .bool (nAt zs 6 != 0), .slice none 0 0, .complex .f64 0 0, .complex .f64 0 0, .complex .f64 0 0, .complex .f64 0 0] 30)).drew = W1 at *
  generalize w1.heap.size = g at *
  have hgW : g < W1.heap.size := HM.out.lt
  obtain ⟨q, hq⟩ : ∃ q, qOf (nAt zs 7) = q := ⟨_, rfl⟩
  have HQ : Hid (qOf (nAt zs 7) = q) := hq
  have hq7 : (q : Int) ≤ nAt zs 7 := by rw [← hq]; unfold qOf; omega
  have hq25 : q ≤ 25 := by rw [← hq]; unfold qOf; omega
  have HQE : Hid ((q : Int) < nAt zs 7 → q = 25) := fun h => by rw [← hq] at h ⊢; unfold qOf at h ⊢; omega
  clear hq
  go_wp2
  go_loopw [5, 8] (fun l i wr => ∃ (k : Nat) (ps : List PutG) (r : List Int) (a a3 : Option Addr) (c c3 : Nat), k ≤ q ∧ i = .int .i64 k ∧ l = .slice a3 r.length c3 ∧ takeP k (zs.drop 24) = some (ps, r) ∧ MgAt wr g (mgw zs ps z2 z2 z2 z2) a k c ∧ OwnR wr (g + 1) a c ps ∧ RdI wr .u8 a3 c3 r ∧ (∀ y, a3 = some y → y.block ≠ g) ∧ Below g W1 wr) (fun _ i _ => q - (intOf i).toNat)
  case atStart => exact ⟨0, [], zs.drop 24, none, a2, 0, c2, Nat.zero_le _, rfl, by rw [HDL.out], rfl, HM.out, OwnR.nil _ _, HO.out, HOB.out, Below.refl _ _⟩
  case round =>
    obtain ⟨k, ps, r, a, a3, c, c3, hk, rfl, rfl, htp, tM, ho, hr, hne, hbel⟩ := hrel
    obtain ⟨t1, t2, t3, t4⟩ := takeP_some k HBD.out htp
    have hrl : r.length ≤ n := by
      have e := congrArg List.length t1
      rw [List.length_append, List.length_drop] at e
      omega
    have HT : Hid (takeP k (zs.drop 24) = some (ps, r)) := htp
    have HBr : Hid (∀ z ∈ r, 0 ≤ z ∧ z < 256) := t4
    have HL : Hid (ps.length = k) := t2
    have HTM : Hid (MgAt wr g (mgw zs ps z2 z2 z2 z2) a k c) := tM
    have HNE : Hid (∀ y, a3 = some y → y.block ≠ g) := hne
    have HOP : Hid (OwnR wr (g + 1) a c ps) := ho
    have hgr : g < wr.heap.size := tM.lt
    have n7 := below_cell hbel hbg HN7.out
    have HBw : Hid (Below w.heap.size w wr) := HB1.out.trans (hbel.mono (Nat.le_of_lt HG.out))
    have HTZ : Hid (MgAt wr w.heap.size mgZ none 0 0) := HMZ.out.under hbel HG.out
    have le := Nat.le_refl w.heap.size
    clear t1 t3 t4 htp t2 tM hne ho
    by_cases hlt : k < q
    · have hk1 : (k : Int) < nAt zs 7 := by omega
      have hk2 : (k : Int) < 25 := by omega
      by_cases h6 : 6 ≤ r.length
      · obtain ⟨pg, ob, hpg, hob⟩ : ∃ pg ob : Nat, (pg : Int) = rdN (r.take 3) ∧ (ob : Int) = rdN ((r.drop 3).take 3) := by
          have q0 := (part3_bd r 0 HBr.out).1
          have q1 := (part3_bd r 3 HBr.out).1
          simp only [List.drop_zero] at q0
          exact ⟨(rdN (r.take 3)).toNat, (rdN ((r.drop 3).take 3)).toNat, by omega, by omega⟩
        have HP : Hid ((pg : Int) = rdN (r.take 3) ∧ (ob : Int) = rdN ((r.drop 3).take 3)) := ⟨hpg, hob⟩
        have HPN : Hid ((rdN (r.take 3)).toNat = pg ∧ (rdN ((r.drop 3).take 3)).toNat = ob) := ⟨by omega, by omega⟩
        have HD : Hid (∀ z ∈ r.drop 6, 0 ≤ z ∧ z < 256) := fun z hz => HBr.out z (List.mem_of_mem_drop hz)
        have HDr : Hid ((r.drop 6).length = r.length - 6) := by simp [Hid]
        clear hpg hob
        cases hv : val1 (r.drop 6) with
        | none =>
          have HN : Hid (parse zs = none) := parse_P HB.out (by
            rw [HQ.out]
            refine takeP_more (k := k + 1) ?_ q (by omega)
            simp only [takeP, HT.out, put1, if_pos h6, hv])
          have HV : Hid (val1 (r.drop 6) = none) := hv
          clear hv
          go_wp2_with (first
            | (go_at_call 26; refine (refGet_two _ _ _ (r.length - 6) pg ob r _ hr rfl HBr.out h6 rfl (by omega) HP.out.1 HP.out.2).mono ?_; rintro x w2 ⟨a4, c4, a5, c5, rfl, ho4, ho5, hb2⟩)
            | (go_at_call 27; refine (refTake_none _ _ _ (r.drop 6) _ ho5.rd HDr.out HD.out (by omega) HV.out).mono ?_; rintro x w3 ⟨rfl, hb3⟩; have tZ := (HTZ.out.below hb2).below hb3; have z0 : w3.cell? ⟨w.heap.size, 0, none⟩ = some (.int .i64 0) := tZ.c0; have z1 : w3.cell? ⟨w.heap.size, 1, none⟩ = some (.int .i64 0) := tZ.c1; have z2 : w3.cell? ⟨w.heap.size, 2, none⟩ = some (.int .i64 0) := tZ.c2; have z3 : w3.cell? ⟨w.heap.size, 3, none⟩ = some (.int .i64 0) := tZ.c3; have z4 : w3.cell? ⟨w.heap.size, 4, none⟩ = some (.int .i64 0) := tZ.c4; have z5 : w3.cell? ⟨w.heap.size, 5, none⟩ = some (.int .i64 0) := tZ.c5; have z6 : w3.cell? ⟨w.heap.size, 6, none⟩ = some (.bool false) := tZ.c6; have z7 : w3.cell? ⟨w.heap.size, 7, none⟩ = some (.slice none 0 0) := tZ.c7; have z8 : w3.cell? ⟨w.heap.size, 8, none⟩ = some (.complex .f64 0 0) := tZ.c8; have z9 : w3.cell? ⟨w.heap.size, 9, none⟩ = some (.complex .f64 0 0) := tZ.c9; have z10 : w3.cell? ⟨w.heap.size, 10, none⟩ = some (.complex .f64 0 0) := tZ.cA; have z11 : w3.cell? ⟨w.heap.size, 11, none⟩ = some (.complex .f64 0 0) := tZ.cB; have yz := tZ.fz; have hB3 : Below w.heap.size w w3 := below_step (below_step HBw.out hb2) hb3; clear tZ hb2 hb3)
            | (fail))
          refine bodyPost_ret (by simp [results, Try.results9, go_sem, z0, z1, z2, z3, z4, z5, z6, z7, z8, z9, z10, z11]; try rfl) rfl ?_
          exact readR_none HN.out rfl ((((((((((((hB3.setCell le _).setCell le _).setCell le _).setCell le _).setCell le _).setCell le _).setCell le _).setCell le _).setCell le _).setCell le _).setCell le _).setCell le _)
        | some y =>
          obtain ⟨cc, s⟩ := y
          have HV : Hid (val1 (r.drop 6) = some (cc, s)) := hv
          have HSs : Hid (takeP (k + 1) (zs.drop 24) = some (ps ++ [⟨pg, ob, cc⟩], s)) := by
            have e := HPN.out
            simp only [Hid, takeP, HT.out, put1, if_pos h6, hv, e.1, e.2]
          clear hv
          have HBL : Hid (∀ y, a = some y → g + 1 ≤ y.block ∧ y.block < wr.heap.size) := HOP.out.blk
          go_upto_region 15 with (first
            | (go_at_call 26; refine (refGet_two _ _ _ (r.length - 6) pg ob r _ hr rfl HBr.out h6 rfl (by omega) HP.out.1 HP.out.2).mono ?_; rintro x w2 ⟨a4, c4, a5, c5, rfl, ho4, ho5, hb2⟩)
            | (go_at_call 27; refine (refTake_some _ _ _ s.length (r.drop 6) s cc _ ho5.rd HDr.out HD.out (by omega) HV.out rfl).mono ?_; rintro x w3 ⟨a6, c6, rfl, hs3, hb3⟩)
            | (fail))
          have hb23 : Below wr.heap.size wr w3 := below_step hb2 hb3
          obtain ⟨b1, f1, rfl, hlt1, hc⟩ := (ho4.below hb3).rd.at (t := 0) (by simp)
          have p0 := hc 0 (by simp)
          have p1 := hc 1 (by simp)
          simp only [List.getElem_cons_zero, List.getElem_cons_succ, Nat.add_zero] at p0 p1
          have tM3 := HTM.out.below hb23
          have m7 := tM3.c7
          have y7 := tM3.fz 7
          have HO3 : Hid (OwnR w3 (g + 1) a c ps) := HOP.out.below hb23
          have HS3 : Hid (OwnI w3 w2.heap.size 5 .u8 a6 c6 s) := hs3
          have HBL3 : Hid (∀ y, a = some y → g + 1 ≤ y.block ∧ y.block < w2.heap.size) := fun y hy => ⟨(HBL.out y hy).1, Nat.lt_of_lt_of_le (HBL.out y hy).2 hb2.size⟩
          have HTM3 : Hid (MgAt w3 g (mgw zs ps z2 z2 z2 z2) a k c) := tM3
          have HB3 : Hid (Below g W1 w3) := hbel.trans (hb23.mono (by omega))
          have hg3 : g < w3.heap.size := tM3.lt
          have hg2 : g < w2.heap.size := Nat.lt_of_lt_of_le hgr hb2.size
          have HPUT : Hid ((w3.alloc (wputO ⟨pg, ob, cc⟩)).heap[w3.heap.size]? = some (wputO ⟨pg, ob, cc⟩)) := heap_alloc_new _ _
          have m7' : (w3.alloc (wputO ⟨pg, ob, cc⟩)).cell? ⟨g, 7, none⟩ = some (.slice a k c) := ((below_box w3 (wputO ⟨pg, ob, cc⟩)).cell (p := ⟨g, 7, none⟩) hg3).trans m7
          have HO4 : Hid (OwnR (w3.alloc (wputO ⟨pg, ob, cc⟩)) (g + 1) a c ps) := HO3.out.below (below_box _ _)
          have HSZ4 : Hid (g + 1 ≤ (w3.alloc (wputO ⟨pg, ob, cc⟩)).heap.size) := by simp [Hid]; omega
          have HTM4 : Hid (MgAt (w3.alloc (wputO ⟨pg, ob, cc⟩)) g (mgw zs ps z2 z2 z2 z2) a k c) := HTM3.out.below (below_box _ _)
          have HLT4 : Hid (g < (w3.alloc (wputO ⟨pg, ob, cc⟩)).heap.size) := HTM4.out.lt
          have HS4 : Hid (OwnI (w3.alloc (wputO ⟨pg, ob, cc⟩)) w2.heap.size 5 .u8 a6 c6 s) := HS3.out.alloc _
          have HB4 : Hid (Below g W1 (w3.alloc (wputO ⟨pg, ob, cc⟩))) := HB3.out.alloc (by omega) _
          have HBL4 : Hid (∀ y, a = some y → g + 1 ≤ y.block) := fun y hy => (HBL3.out y hy).1
          clear hc tM3 hs3 ho4 ho5 hb2 hb3 hb23 HN7 HMZ HM n7 HBw HTZ hr hlt1
          go_region_law (refine step_append_put _ (by rfl) _ _ (by rfl) (g + 1) a k c ps ⟨pg, ob, cc⟩ w3.heap.size ?_ (by rfl) (by rfl) ?_ HL.out (by omega) ?_ ?_; exact HPUT.out; exact HO4.out; exact HSZ4.out; intro a7 c7 w5 ho5 hg5; have tM5 := put_after hg5 HTM4.out HBL4.out rfl; have m5 := tM5.c7; have y5 := tM5.fz 7)
          all_goals
            have hs5 : OwnI w5 w2.heap.size 5 .u8 a6 c6 s := own_after hg5 HS4.out (fun z hz => (HBL3.out z hz).2) rfl
            have HS6 : Hid (OwnI (w5.setCell ⟨g, 7, none⟩ (.slice a7 (k + 1) c7)) w2.heap.size 5 .u8 a6 c6 s) := hs5.other ⟨g, 7, none⟩ _ hg2
            have HM6 : Hid (MgAt (w5.setCell ⟨g, 7, none⟩ (.slice a7 (k + 1) c7)) g (mgw zs (ps ++ [⟨pg, ob, cc⟩]) z2 z2 z2 z2) a7 (k + 1) c7) := tM5.put7 a7 (k + 1) c7 _
            have HO6 : Hid (OwnR (w5.setCell ⟨g, 7, none⟩ (.slice a7 (k + 1) c7)) (g + 1) a7 c7 (ps ++ [⟨pg, ob, cc⟩])) := ho5.off (fun j hj => Below.heap_setCell _ _ _ _ (show j ≠ g by omega))
            have hB5 : Below g (w3.alloc (wputO ⟨pg, ob, cc⟩)) w5 := by
              have h := grown_below (B := g) hg5 (fun y hy => by have := (HBL3.out y hy).1; omega) (Nat.le_of_lt HLT4.out)
              exact ⟨h.os, h.tape, h.output, h.size, h.block⟩
            have HB6 : Hid (Below g W1 (w5.setCell ⟨g, 7, none⟩ (.slice a7 (k + 1) c7))) := (HB4.out.trans hB5).setCell (Nat.le_refl g) _
            clear hs5 hB5 tM5 ho5 hg5 HS4 HO4 HSZ4 HTM4 HLT4 HB4 HPUT m7 m7' y7
          all_goals
            go_wp2
            go_roundw
            case rel => exact ⟨k + 1, ps ++ [⟨pg, ob, cc⟩], s, a7, a6, c7, c6, by omega, by go_num, rfl, HSs.out, HM6.out, HO6.out, HS6.out.rd, fun y hy => (by have := (HS6.out.blk y hy).1; omega), HB6.out⟩
            case measure => simp [intOf]; omega
      · have HN : Hid (parse zs = none) := parse_P HB.out (by
          rw [HQ.out]
          refine takeP_more (k := k + 1) ?_ q (by omega)
          simp only [takeP, HT.out, put1, if_neg h6])
        have tZ := HTZ.out
        have z0 : wr.cell? ⟨w.heap.size, 0, none⟩ = some (.int .i64 0) := tZ.c0
        have z1 : wr.cell? ⟨w.heap.size, 1, none⟩ = some (.int .i64 0) := tZ.c1
        have z2 : wr.cell? ⟨w.heap.size, 2, none⟩ = some (.int .i64 0) := tZ.c2
        have z3 : wr.cell? ⟨w.heap.size, 3, none⟩ = some (.int .i64 0) := tZ.c3
        have z4 : wr.cell? ⟨w.heap.size, 4, none⟩ = some (.int .i64 0) := tZ.c4
        have z5 : wr.cell? ⟨w.heap.size, 5, none⟩ = some (.int .i64 0) := tZ.c5
        have z6 : wr.cell? ⟨w.heap.size, 6, none⟩ = some (.bool false) := tZ.c6
        have z7 : wr.cell? ⟨w.heap.size, 7, none⟩ = some (.slice none 0 0) := tZ.c7
        have z8 : wr.cell? ⟨w.heap.size, 8, none⟩ = some (.complex .f64 0 0) := tZ.c8
        have z9 : wr.cell? ⟨w.heap.size, 9, none⟩ = some (.complex .f64 0 0) := tZ.c9
        have z10 : wr.cell? ⟨w.heap.size, 10, none⟩ = some (.complex .f64 0 0) := tZ.cA
        have z11 : wr.cell? ⟨w.heap.size, 11, none⟩ = some (.complex .f64 0 0) := tZ.cB
        have yz := tZ.fz
        clear tZ
        go_wp2_with (first
          | (go_at_call 26; refine (refGet_bad _ _ _ _ _ (by omega) (by omega)).mono ?_; rintro x w2 ⟨rfl, hw⟩; subst w2)
          | (fail))
        refine bodyPost_ret (by simp [results, Try.results9, go_sem, z0, z1, z2, z3, z4, z5, z6, z7, z8, z9, z10, z11]; try rfl) rfl ?_
        have hB3 := HBw.out
        exact readR_none HN.out rfl ((((((((((((hB3.setCell le _).setCell le _).setCell le _).setCell le _).setCell le _).setCell le _).setCell le _).setCell le _).setCell le _).setCell le _).setCell le _).setCell le _)
    · have hkq : k = q := by omega
      subst hkq
      have HGP : Hid (takeP (qOf (nAt zs 7)) (zs.drop 24) = some (ps, r)) := by rw [Hid, HQ.out]; exact HT.out
      clear hlt
      have hk1 : (k : Int) < nAt zs 7 := by omega
      have hk2 : ¬ (k : Int) < 25 := by have := HQE.out hk1; omega
      clear HTZ HBw
      go_wp2
      go_loopw [5, 15] (fun l i wr => ∃ (j : Nat) (vs : List (Nat × Nat)) (s : List Int) (a5 : Option Addr) (c5 : Nat), (j ≤ 4 ∧ (nAt zs 0 = 5 ∨ j = 0)) ∧ i = .int .i64 j ∧ l = .slice a5 s.length c5 ∧ takeV j r = some (vs, s) ∧ MgAt wr g (mgl zs ps (fillV vs)) a k c ∧ OwnR wr (g + 1) a c ps ∧ RdI wr .u8 a5 c5 s ∧ (∀ y, a5 = some y → y.block ≠ g) ∧ Below g W1 wr) (fun _ i _ => 4 - (intOf i).toNat)
      case atStart => exact ⟨0, [], r, a3, c3, ⟨by omega, .inr rfl⟩, rfl, rfl, rfl, HTM.out, HOP.out, hr, HNE.out, hbel⟩
      case round =>
        clear HTM HOP HNE hr hbel hgr n7
        obtain ⟨j, vs, s, a5, c5, hj, rfl, rfl, htv, tM, ho, hr5, hne5, hbel5⟩ := hrel
        obtain ⟨u1, u2, u3, u4⟩ := takeV_some j HBr.out htv
        have hsl : s.length ≤ n := by
          have e := congrArg List.length u1
          rw [List.length_append] at e
          omega
        have HTV : Hid (takeV j r = some (vs, s)) := htv
        have HBs : Hid (∀ z ∈ s, 0 ≤ z ∧ z < 256) := u4
        have HVL : Hid (vs.length = j) := u2
        have HTM2 : Hid (MgAt wr g (mgl zs ps (fillV vs)) a k c) := tM
        have HOP2 : Hid (OwnR wr (g + 1) a c ps) := ho
        have HBw2 : Hid (Below w.heap.size w wr) := HB1.out.trans (hbel5.mono (Nat.le_of_lt HG.out))
        have HTZ2 : Hid (MgAt wr w.heap.size mgZ none 0 0) := HMZ.out.under hbel5 HG.out
        have HBE : Hid (Below g W1 wr) := hbel5
        have hgr2 : g < wr.heap.size := tM.lt
        have m0 : wr.cell? ⟨g, 0, none⟩ = some (.int .i64 (nAt zs 0)) := tM.c0
        have hj4 : j ≤ 4 := hj.1
        have HJ : Hid (nAt zs 0 = 5 ∨ j = 0) := hj.2
        clear u1 u3 u4 u2 htv tM ho hne5 hbel5 hj
        have le := Nat.le_refl w.heap.size
        by_cases hgo : j < 4 ∧ nAt zs 0 = 5
        · obtain ⟨hlt4, h5⟩ := hgo
          rw [h5] at m0
          have H5 : Hid (nAt zs 0 = 5) := h5
          clear h5
          cases hv : val1 s with
          | none =>
            have HN : Hid (parse zs = none) := parse_V HB.out HGP.out H5.out (takeV_more (k := j + 1) (by simp only [takeV, HTV.out, hv]) 4 (by omega))
            have HV : Hid (val1 s = none) := hv
            clear hv
            go_wp2_with (first
              | (go_at_call 27; refine (refTake_none _ _ _ s _ hr5 rfl HBs.out (by omega) HV.out).mono ?_; rintro x w3 ⟨rfl, hb3⟩; have tZ := HTZ2.out.below hb3; have z0 : w3.cell? ⟨w.heap.size, 0, none⟩ = some (.int .i64 0) := tZ.c0; have z1 : w3.cell? ⟨w.heap.size, 1, none⟩ = some (.int .i64 0) := tZ.c1; have z2 : w3.cell? ⟨w.heap.size, 2, none⟩ = some (.int .i64 0) := tZ.c2; have z3 : w3.cell? ⟨w.heap.size, 3, none⟩ = some (.int .i64 0) := tZ.c3; have z4 : w3.cell? ⟨w.heap.size, 4, none⟩ = some (.int .i64 0) := tZ.c4; have z5 : w3.cell? ⟨w.heap.size, 5, none⟩ = some (.int .i64 0) := tZ.c5; have z6 : w3.cell? ⟨w.heap.size, 6, none⟩ = some (.bool false) := tZ.c6; have z7 : w3.cell? ⟨w.heap.size, 7, none⟩ = some (.slice none 0 0) := tZ.c7; have z8 : w3.cell? ⟨w.heap.size, 8, none⟩ = some (.complex .f64 0 0) := tZ.c8; have z9 : w3.cell? ⟨w.heap.size, 9, none⟩ = some (.complex .f64 0 0) := tZ.c9; have z10 : w3.cell? ⟨w.heap.size, 10, none⟩ = some (.complex .f64 0 0) := tZ.cA; have z11 : w3.cell? ⟨w.heap.size, 11, none⟩ = some (.complex .f64 0 0) := tZ.cB; have yz := tZ.fz; have hB3 : Below w.heap.size w w3 := below_step HBw2.out hb3; clear tZ hb3)
              | (fail))
            refine bodyPost_ret (by simp [results, Try.results9, go_sem, z0, z1, z2, z3, z4, z5, z6, z7, z8, z9, z10, z11]; try rfl) rfl ?_
            exact readR_none HN.out rfl ((((((((((((hB3.setCell le _).setCell le _).setCell le _).setCell le _).setCell le _).setCell le _).setCell le _).setCell le _).setCell le _).setCell le _).setCell le _).setCell le _)
          | some y =>
            obtain ⟨cc, s2⟩ := y
            have HV : Hid (val1 s = some (cc, s2)) := hv
            have HSs : Hid (takeV (j + 1) r = some (vs ++ [cc], s2)) := by simp only [Hid, takeV, HTV.out, hv]
            clear hv
            go_wp2_with (first
              | (go_at_call 27; refine (refTake_some _ _ _ s2.length s s2 cc _ hr5 rfl HBs.out (by omega) HV.out rfl).mono ?_; rintro x w3 ⟨a6, c6, rfl, hs3, hb3⟩; have tM3 := HTM2.out.below hb3; have m8 := tM3.val j hlt4; have y8 := tM3.fz (8 + j); have HTM3 : Hid (MgAt w3 g (mgl zs ps (fillV vs)) a k c) := tM3; have HS3 : Hid (OwnI w3 wr.heap.size 5 .u8 a6 c6 s2) := hs3; have HB3 : Hid (Below wr.heap.size wr w3) := hb3; clear tM3 hs3 hb3)
              | (fail))
            have e5 : (fillV vs).set j cc = fillV (vs ++ [cc]) := by have := HVL.out; subst this; exact fillV_set vs cc (by omega)
            have hM4 := HTM3.out.putVal (fillV_length vs (by have := HVL.out; omega)) j hlt4 cc
            rw [e5] at hM4
            have hs4 := HS3.out.other ⟨g, 8 + j, none⟩ (.complex .f64 cc.1 cc.2) hgr2
            have hO4 : OwnR (w3.setCell ⟨g, 8 + j, none⟩ (.complex .f64 cc.1 cc.2)) (g + 1) a c ps := (HOP2.out.below HB3.out).off (fun jj hj => Below.heap_setCell _ _ _ _ (show jj ≠ g by omega))
            have hB4 : Below g W1 (w3.setCell ⟨g, 8 + j, none⟩ (.complex .f64 cc.1 cc.2)) := (HBE.out.trans (HB3.out.mono (Nat.le_of_lt hgr2))).setCell (Nat.le_refl g) _
            go_roundw
            case rel => exact ⟨j + 1, vs ++ [cc], s2, a6, c6, ⟨by omega, .inl H5.out⟩, by go_num, rfl, HSs.out, hM4, hO4, hs4.rd, fun y hy => (by have := (hs4.blk y hy).1; omega), hB4⟩
            case measure => simp [intOf]; omega
        · obtain ⟨v0, v1, v2, v3, HGT, HM7⟩ : ∃ v0 v1 v2 v3 : Nat × Nat, Hid (Got zs ps v0 v1 v2 v3 r s) ∧ Hid (MgAt wr g (mgw zs ps v0 v1 v2 v3) a k c) := by
            by_cases h5 : nAt zs 0 = 5
            · have hj' : j = 4 := by
                have : ¬ j < 4 := fun h => hgo ⟨h, h5⟩
                omega
              obtain ⟨v0, v1, v2, v3, e⟩ := list4 (HVL.out.trans hj')
              have h1 := HTV.out
              have h2 := HTM2.out
              rw [e, hj'] at h1
              rw [e] at h2
              exact ⟨v0, v1, v2, v3, ⟨HGP.out, .inl ⟨h5, h1⟩⟩, h2⟩
            · have hj' : j = 0 := HJ.out.resolve_left h5
              have h1 := HTV.out
              have h2 := HTM2.out
              rw [hj'] at h1
              simp only [takeV, Option.some.injEq, Prod.mk.injEq] at h1
              rw [← h1.1] at h2
              exact ⟨z2, z2, z2, z2, ⟨HGP.out, .inr ⟨h5, rfl, rfl, rfl, rfl, h1.2.symm⟩⟩, h2⟩
          clear m0
          have hWx := HGT.out.bytes HB.out (by omega)
          have HWd : Hid (Wd (mgw zs ps v0 v1 v2 v3)) := ⟨hWx.2.2.1, hWx.2.2.2.1, hWx.2.2.2.2.1, hWx.2.2.2.2.2.1, hWx.2.2.2.2.2.2⟩
          have HRP : Hid (RdP wr a k c (mgw zs ps v0 v1 v2 v3).ps) := HOP2.out.rdn HL.out
          have tZ0 := HTZ2.out
          have tQ0 := HM7.out
          have z0 : wr.cell? ⟨w.heap.size, 0, none⟩ = some (.int .i64 0) := tZ0.c0
          have z1 : wr.cell? ⟨w.heap.size, 1, none⟩ = some (.int .i64 0) := tZ0.c1
          have z2 : wr.cell? ⟨w.heap.size, 2, none⟩ = some (.int .i64 0) := tZ0.c2
          have z3 : wr.cell? ⟨w.heap.size, 3, none⟩ = some (.int .i64 0) := tZ0.c3
          have z4 : wr.cell? ⟨w.heap.size, 4, none⟩ = some (.int .i64 0) := tZ0.c4
          have z5 : wr.cell? ⟨w.heap.size, 5, none⟩ = some (.int .i64 0) := tZ0.c5
          have z6 : wr.cell? ⟨w.heap.size, 6, none⟩ = some (.bool false) := tZ0.c6
          have z7 : wr.cell? ⟨w.heap.size, 7, none⟩ = some (.slice none 0 0) := tZ0.c7
          have z8 : wr.cell? ⟨w.heap.size, 8, none⟩ = some (.complex .f64 0 0) := tZ0.c8
          have z9 : wr.cell? ⟨w.heap.size, 9, none⟩ = some (.complex .f64 0 0) := tZ0.c9
          have z10 : wr.cell? ⟨w.heap.size, 10, none⟩ = some (.complex .f64 0 0) := tZ0.cA
          have z11 : wr.cell? ⟨w.heap.size, 11, none⟩ = some (.complex .f64 0 0) := tZ0.cB
          have yz := tZ0.fz
          have q0 : wr.cell? ⟨g, 0, none⟩ = some (.int .i64 (nAt zs 0)) := tQ0.c0
          have q1 : wr.cell? ⟨g, 1, none⟩ = some (.int .i64 (nAt zs 1)) := tQ0.c1
          have q2 : wr.cell? ⟨g, 2, none⟩ = some (.int .i64 (nAt zs 2)) := tQ0.c2
          have q3 : wr.cell? ⟨g, 3, none⟩ = some (.int .i64 (nAt zs 3)) := tQ0.c3
          have q4 : wr.cell? ⟨g, 4, none⟩ = some (.int .i64 (nAt zs 4)) := tQ0.c4
          have q5 : wr.cell? ⟨g, 5, none⟩ = some (.int .i64 (nAt zs 5)) := tQ0.c5
          have q6 : wr.cell? ⟨g, 6, none⟩ = some (.bool (nAt zs 6 != 0)) := tQ0.c6
          have q7 : wr.cell? ⟨g, 7, none⟩ = some (.slice a k c) := tQ0.c7
          have q8 : wr.cell? ⟨g, 8, none⟩ = some (.complex .f64 v0.1 v0.2) := tQ0.c8
          have q9 : wr.cell? ⟨g, 9, none⟩ = some (.complex .f64 v1.1 v1.2) := tQ0.c9
          have q10 : wr.cell? ⟨g, 10, none⟩ = some (.complex .f64 v2.1 v2.2) := tQ0.cA
          have q11 : wr.cell? ⟨g, 11, none⟩ = some (.complex .f64 v3.1 v3.2) := tQ0.cB
          have yq := tQ0.fz
          have hgn : g ≠ w.heap.size := by have := HG.out; omega
          clear hWx tZ0 tQ0
          have hex : j = 4 ∨ (j = 0 ∧ ¬ nAt zs 0 = 5) := by
            by_cases h5 : nAt zs 0 = 5
            · have : ¬ j < 4 := fun h => hgo ⟨h, h5⟩
              omega
            · exact .inr ⟨HJ.out.resolve_left h5, h5⟩
          clear hgo
          rcases hex with hj' | ⟨hj', h5⟩
          · subst hj'
            cases hR : rightB (mgw zs ps v0 v1 v2 v3) with
            | false =>
              have HN : Hid (parse zs = none) := HGT.out.wrong HB.out (by omega) hR
              have HRi : Hid (rightB (mgw zs ps v0 v1 v2 v3) = false) := hR
              clear hR
              go_wp2_with (first
                | (go_at_call 28; refine (refBytes_bad (mgw zs ps v0 v1 v2 v3) a k c _ (fun W h => HRT.out (mgw zs ps v0 v1 v2 v3) a k c W h (by omega) HWd.out) HRP.out (by omega) HRi.out).mono ?_; rintro x w3 ⟨rfl, hb3⟩; clear z0 z1 z2 z3 z4 z5 z6 z7 z8 z9 z10 z11 q0 q1 q2 q3 q4 q5 q6 q7 q8 q9 q10 q11 yq yz; have tZ := HTZ2.out.below hb3; have z0 : w3.cell? ⟨w.heap.size, 0, none⟩ = some (.int .i64 0) := tZ.c0; have z1 : w3.cell? ⟨w.heap.size, 1, none⟩ = some (.int .i64 0) := tZ.c1; have z2 : w3.cell? ⟨w.heap.size, 2, none⟩ = some (.int .i64 0) := tZ.c2; have z3 : w3.cell? ⟨w.heap.size, 3, none⟩ = some (.int .i64 0) := tZ.c3; have z4 : w3.cell? ⟨w.heap.size, 4, none⟩ = some (.int .i64 0) := tZ.c4; have z5 : w3.cell? ⟨w.heap.size, 5, none⟩ = some (.int .i64 0) := tZ.c5; have z6 : w3.cell? ⟨w.heap.size, 6, none⟩ = some (.bool false) := tZ.c6; have z7 : w3.cell? ⟨w.heap.size, 7, none⟩ = some (.slice none 0 0) := tZ.c7; have z8 : w3.cell? ⟨w.heap.size, 8, none⟩ = some (.complex .f64 0 0) := tZ.c8; have z9 : w3.cell? ⟨w.heap.size, 9, none⟩ = some (.complex .f64 0 0) := tZ.c9; have z10 : w3.cell? ⟨w.heap.size, 10, none⟩ = some (.complex .f64 0 0) := tZ.cA; have z11 : w3.cell? ⟨w.heap.size, 11, none⟩ = some (.complex .f64 0 0) := tZ.cB; have yz := tZ.fz; have hB3 : Below w.heap.size w w3 := below_step HBw2.out hb3; clear tZ hb3)
                | (fail))
              refine bodyPost_ret (by simp [results, Try.results9, go_sem, z0, z1, z2, z3, z4, z5, z6, z7, z8, z9, z10, z11]; try rfl) rfl ?_
              exact readR_none HN.out rfl ((((((((((((hB3.setCell le _).setCell le _).setCell le _).setCell le _).setCell le _).setCell le _).setCell le _).setCell le _).setCell le _).setCell le _).setCell le _).setCell le _)
            | true =>
              have HRi : Hid (rightB (mgw zs ps v0 v1 v2 v3) = true) := hR
              clear hR
              by_cases heq : msgZ (mgw zs ps v0 v1 v2 v3) = zs
              · have HN : Hid (parse zs = some (mgw zs ps v0 v1 v2 v3)) := (HGT.out.again HB.out (by omega) HRi.out).1 heq
                have HEQ : Hid (msgZ (mgw zs ps v0 v1 v2 v3) = zs) := heq
                clear heq
                go_wp2_with (first
                  | (go_at_call 28; refine (refBytes_ok (mgw zs ps v0 v1 v2 v3) a k c _ (fun W h => HRT.out (mgw zs ps v0 v1 v2 v3) a k c W h (by omega) HWd.out) HRP.out HRi.out HWd.out).mono ?_; rw [HEQ.out]; rintro x w3 ⟨a7, c7, rfl, ho7, hb3⟩; clear z0 z1 z2 z3 z4 z5 z6 z7 z8 z9 z10 z11 q0 q1 q2 q3 q4 q5 q6 q7 q8 q9 q10 q11 yq yz; have tZ := HTZ2.out.below hb3; have z0 : w3.cell? ⟨w.heap.size, 0, none⟩ = some (.int .i64 0) := tZ.c0; have z1 : w3.cell? ⟨w.heap.size, 1, none⟩ = some (.int .i64 0) := tZ.c1; have z2 : w3.cell? ⟨w.heap.size, 2, none⟩ = some (.int .i64 0) := tZ.c2; have z3 : w3.cell? ⟨w.heap.size, 3, none⟩ = some (.int .i64 0) := tZ.c3; have z4 : w3.cell? ⟨w.heap.size, 4, none⟩ = some (.int .i64 0) := tZ.c4; have z5 : w3.cell? ⟨w.heap.size, 5, none⟩ = some (.int .i64 0) := tZ.c5; have z6 : w3.cell? ⟨w.heap.size, 6, none⟩ = some (.bool false) := tZ.c6; have z7 : w3.cell? ⟨w.heap.size, 7, none⟩ = some (.slice none 0 0) := tZ.c7; have z8 : w3.cell? ⟨w.heap.size, 8, none⟩ = some (.complex .f64 0 0) := tZ.c8; have z9 : w3.cell? ⟨w.heap.size, 9, none⟩ = some (.complex .f64 0 0) := tZ.c9; have z10 : w3.cell? ⟨w.heap.size, 10, none⟩ = some (.complex .f64 0 0) := tZ.cA; have z11 : w3.cell? ⟨w.heap.size, 11, none⟩ = some (.complex .f64 0 0) := tZ.cB; have yz := tZ.fz; have tQ := HM7.out.below hb3; have q0 : w3.cell? ⟨g, 0, none⟩ = some (.int .i64 (nAt zs 0)) := tQ.c0; have q1 : w3.cell? ⟨g, 1, none⟩ = some (.int .i64 (nAt zs 1)) := tQ.c1; have q2 : w3.cell? ⟨g, 2, none⟩ = some (.int .i64 (nAt zs 2)) := tQ.c2; have q3 : w3.cell? ⟨g, 3, none⟩ = some (.int .i64 (nAt zs 3)) := tQ.c3; have q4 : w3.cell? ⟨g, 4, none⟩ = some (.int .i64 (nAt zs 4)) := tQ.c4; have q5 : w3.cell? ⟨g, 5, none⟩ = some (.int .i64 (nAt zs 5)) := tQ.c5; have q6 : w3.cell? ⟨g, 6, none⟩ = some (.bool (nAt zs 6 != 0)) := tQ.c6; have q7 : w3.cell? ⟨g, 7, none⟩ = some (.slice a k c) := tQ.c7; have q8 : w3.cell? ⟨g, 8, none⟩ = some (.complex .f64 v0.1 v0.2) := tQ.c8; have q9 : w3.cell? ⟨g, 9, none⟩ = some (.complex .f64 v1.1 v1.2) := tQ.c9; have q10 : w3.cell? ⟨g, 10, none⟩ = some (.complex .f64 v2.1 v2.2) := tQ.cA; have q11 : w3.cell? ⟨g, 11, none⟩ = some (.complex .f64 v3.1 v3.2) := tQ.cB; have yq := tQ.fz; have hB3 : Below w.heap.size w w3 := below_step HBw2.out hb3; have s1 := strI ho7.rd hn; have s2 := strI (HRD.out.below hB3) hn; have HO7 : Hid (OwnR w3 (g + 1) a c ps) := HOP2.out.below hb3; clear tZ tQ ho7 hb3)
                  | (fail))
                refine bodyPost_ret (by simp [results, Try.results9, go_sem, z0, z1, z2, z3, z4, z5, z6, z7, z8, z9, z10, z11]; try rfl) rfl ?_
                refine readR_some HN.out rfl ?_ ((((((((((((hB3.setCell le _).setCell le _).setCell le _).setCell le _).setCell le _).setCell le _).setCell le _).setCell le _).setCell le _).setCell le _).setCell le _).setCell le _)
                exact (HO7.out.off (fun j hj => by
                  have hne : j ≠ w.heap.size := by have := HG.out; omega
                  simp only [Below.heap_setCell _ _ _ _ (show j ≠ (⟨w.heap.size, _, none⟩ : Addr).block from hne)])).rdn HL.out
              · have HN : Hid (parse zs = none) := (HGT.out.again HB.out (by omega) HRi.out).2 heq
                have hcmp := str_neI (msgZ_bd (mgw zs ps v0 v1 v2 v3)) HB.out heq
                clear heq
                generalize hZ : msgZ (mgw zs ps v0 v1 v2 v3) = ys at hcmp
                have HZ : Hid (msgZ (mgw zs ps v0 v1 v2 v3) = ys) := hZ
                clear hZ
                go_wp2_with (first
                  | (go_at_call 28; refine (refBytes_ok (mgw zs ps v0 v1 v2 v3) a k c _ (fun W h => HRT.out (mgw zs ps v0 v1 v2 v3) a k c W h (by omega) HWd.out) HRP.out HRi.out HWd.out).mono ?_; rw [HZ.out]; rintro x w3 ⟨a7, c7, rfl, ho7, hb3⟩; clear z0 z1 z2 z3 z4 z5 z6 z7 z8 z9 z10 z11 q0 q1 q2 q3 q4 q5 q6 q7 q8 q9 q10 q11 yq yz; have tZ := HTZ2.out.below hb3; have z0 : w3.cell? ⟨w.heap.size, 0, none⟩ = some (.int .i64 0) := tZ.c0; have z1 : w3.cell? ⟨w.heap.size, 1, none⟩ = some (.int .i64 0) := tZ.c1; have z2 : w3.cell? ⟨w.heap.size, 2, none⟩ = some (.int .i64 0) := tZ.c2; have z3 : w3.cell? ⟨w.heap.size, 3, none⟩ = some (.int .i64 0) := tZ.c3; have z4 : w3.cell? ⟨w.heap.size, 4, none⟩ = some (.int .i64 0) := tZ.c4; have z5 : w3.cell? ⟨w.heap.size, 5, none⟩ = some (.int .i64 0) := tZ.c5; have z6 : w3.cell? ⟨w.heap.size, 6, none⟩ = some (.bool false) := tZ.c6; have z7 : w3.cell? ⟨w.heap.size, 7, none⟩ = some (.slice none 0 0) := tZ.c7; have z8 : w3.cell? ⟨w.heap.size, 8, none⟩ = some (.complex .f64 0 0) := tZ.c8; have z9 : w3.cell? ⟨w.heap.size, 9, none⟩ = some (.complex .f64 0 0) := tZ.c9; have z10 : w3.cell? ⟨w.heap.size, 10, none⟩ = some (.complex .f64 0 0) := tZ.cA; have z11 : w3.cell? ⟨w.heap.size, 11, none⟩ = some (.complex .f64 0 0) := tZ.cB; have yz := tZ.fz; have hB3 : Below w.heap.size w w3 := below_step HBw2.out hb3; have s1 := strI ho7.rd rfl; have s2 := strI (HRD.out.below hB3) hn; clear tZ ho7 hb3)
                  | (fail))
                refine bodyPost_ret (by simp [results, Try.results9, go_sem, z0, z1, z2, z3, z4, z5, z6, z7, z8, z9, z10, z11]; try rfl) rfl ?_
                exact readR_none HN.out rfl ((((((((((((hB3.setCell le _).setCell le _).setCell le _).setCell le _).setCell le _).setCell le _).setCell le _).setCell le _).setCell le _).setCell le _).setCell le _).setCell le _)
          · subst hj'
            cases hR : rightB (mgw zs ps v0 v1 v2 v3) with
            | false =>
              have HN : Hid (parse zs = none) := HGT.out.wrong HB.out (by omega) hR
              have HRi : Hid (rightB (mgw zs ps v0 v1 v2 v3) = false) := hR
              clear hR
              go_wp2_with (first
                | (go_at_call 28; refine (refBytes_bad (mgw zs ps v0 v1 v2 v3) a k c _ (fun W h => HRT.out (mgw zs ps v0 v1 v2 v3) a k c W h (by omega) HWd.out) HRP.out (by omega) HRi.out).mono ?_; rintro x w3 ⟨rfl, hb3⟩; clear z0 z1 z2 z3 z4 z5 z6 z7 z8 z9 z10 z11 q0 q1 q2 q3 q4 q5 q6 q7 q8 q9 q10 q11 yq yz; have tZ := HTZ2.out.below hb3; have z0 : w3.cell? ⟨w.heap.size, 0, none⟩ = some (.int .i64 0) := tZ.c0; have z1 : w3.cell? ⟨w.heap.size, 1, none⟩ = some (.int .i64 0) := tZ.c1; have z2 : w3.cell? ⟨w.heap.size, 2, none⟩ = some (.int .i64 0) := tZ.c2; have z3 : w3.cell? ⟨w.heap.size, 3, none⟩ = some (.int .i64 0) := tZ.c3; have z4 : w3.cell? ⟨w.heap.size, 4, none⟩ = some (.int .i64 0) := tZ.c4; have z5 : w3.cell? ⟨w.heap.size, 5, none⟩ = some (.int .i64 0) := tZ.c5; have z6 : w3.cell? ⟨w.heap.size, 6, none⟩ = some (.bool false) := tZ.c6; have z7 : w3.cell? ⟨w.heap.size, 7, none⟩ = some (.slice none 0 0) := tZ.c7; have z8 : w3.cell? ⟨w.heap.size, 8, none⟩ = some (.complex .f64 0 0) := tZ.c8; have z9 : w3.cell? ⟨w.heap.size, 9, none⟩ = some (.complex .f64 0 0) := tZ.c9; have z10 : w3.cell? ⟨w.heap.size, 10, none⟩ = some (.complex .f64 0 0) := tZ.cA; have z11 : w3.cell? ⟨w.heap.size, 11, none⟩ = some (.complex .f64 0 0) := tZ.cB; have yz := tZ.fz; have hB3 : Below w.heap.size w w3 := below_step HBw2.out hb3; clear tZ hb3)
                | (fail))
              refine bodyPost_ret (by simp [results, Try.results9, go_sem, z0, z1, z2, z3, z4, z5, z6, z7, z8, z9, z10, z11]; try rfl) rfl ?_
              exact readR_none HN.out rfl ((((((((((((hB3.setCell le _).setCell le _).setCell le _).setCell le _).setCell le _).setCell le _).setCell le _).setCell le _).setCell le _).setCell le _).setCell le _).setCell le _)
            | true =>
              have HRi : Hid (rightB (mgw zs ps v0 v1 v2 v3) = true) := hR
              clear hR
              by_cases heq : msgZ (mgw zs ps v0 v1 v2 v3) = zs
              · have HN : Hid (parse zs = some (mgw zs ps v0 v1 v2 v3)) := (HGT.out.again HB.out (by omega) HRi.out).1 heq
                have HEQ : Hid (msgZ (mgw zs ps v0 v1 v2 v3) = zs) := heq
                clear heq
                go_wp2_with (first
                  | (go_at_call 28; refine (refBytes_ok (mgw zs ps v0 v1 v2 v3) a k c _ (fun W h => HRT.out (mgw zs ps v0 v1 v2 v3) a k c W h (by omega) HWd.out) HRP.out HRi.out HWd.out).mono ?_; rw [HEQ.out]; rintro x w3 ⟨a7, c7, rfl, ho7, hb3⟩; clear z0 z1 z2 z3 z4 z5 z6 z7 z8 z9 z10 z11 q0 q1 q2 q3 q4 q5 q6 q7 q8 q9 q10 q11 yq yz; have tZ := HTZ2.out.below hb3; have z0 : w3.cell? ⟨w.heap.size, 0, none⟩ = some (.int .i64 0) := tZ.c0; have z1 : w3.cell? ⟨w.heap.size, 1, none⟩ = some (.int .i64 0) := tZ.c1; have z2 : w3.cell? ⟨w.heap.size, 2, none⟩ = some (.int .i64 0) := tZ.c2; have z3 : w3.cell? ⟨w.heap.size, 3, none⟩ = some (.int .i64 0) := tZ.c3; have z4 : w3.cell? ⟨w.heap.size, 4, none⟩ = some (.int .i64 0) := tZ.c4; have z5 : w3.cell? ⟨w.heap.size, 5, none⟩ = some (.int .i64 0) := tZ.c5; have z6 : w3.cell? ⟨w.heap.size, 6, none⟩ = some (.bool false) := tZ.c6; have z7 : w3.cell? ⟨w.heap.size, 7, none⟩ = some (.slice none 0 0) := tZ.c7; have z8 : w3.cell? ⟨w.heap.size, 8, none⟩ = some (.complex .f64 0 0) := tZ.c8; have z9 : w3.cell? ⟨w.heap.size, 9, none⟩ = some (.complex .f64 0 0) := tZ.c9; have z10 : w3.cell? ⟨w.heap.size, 10, none⟩ = some (.complex .f64 0 0) := tZ.cA; have z11 : w3.cell? ⟨w.heap.size, 11, none⟩ = some (.complex .f64 0 0) := tZ.cB; have yz := tZ.fz; have tQ := HM7.out.below hb3; have q0 : w3.cell? ⟨g, 0, none⟩ = some (.int .i64 (nAt zs 0)) := tQ.c0; have q1 : w3.cell? ⟨g, 1, none⟩ = some (.int .i64 (nAt zs 1)) := tQ.c1; have q2 : w3.cell? ⟨g, 2, none⟩ = some (.int .i64 (nAt zs 2)) := tQ.c2; have q3 : w3.cell? ⟨g, 3, none⟩ = some (.int .i64 (nAt zs 3)) := tQ.c3; have q4 : w3.cell? ⟨g, 4, none⟩ = some (.int .i64 (nAt zs 4)) := tQ.c4; have q5 : w3.cell? ⟨g, 5, none⟩ = some (.int .i64 (nAt zs 5)) := tQ.c5; have q6 : w3.cell? ⟨g, 6, none⟩ = some (.bool (nAt zs 6 != 0)) := tQ.c6; have q7 : w3.cell? ⟨g, 7, none⟩ = some (.slice a k c) := tQ.c7; have q8 : w3.cell? ⟨g, 8, none⟩ = some (.complex .f64 v0.1 v0.2) := tQ.c8; have q9 : w3.cell? ⟨g, 9, none⟩ = some (.complex .f64 v1.1 v1.2) := tQ.c9; have q10 : w3.cell? ⟨g, 10, none⟩ = some (.complex .f64 v2.1 v2.2) := tQ.cA; have q11 : w3.cell? ⟨g, 11, none⟩ = some (.complex .f64 v3.1 v3.2) := tQ.cB; have yq := tQ.fz; have hB3 : Below w.heap.size w w3 := below_step HBw2.out hb3; have s1 := strI ho7.rd hn; have s2 := strI (HRD.out.below hB3) hn; have HO7 : Hid (OwnR w3 (g + 1) a c ps) := HOP2.out.below hb3; clear tZ tQ ho7 hb3)
                  | (fail))
                refine bodyPost_ret (by simp [results, Try.results9, go_sem, z0, z1, z2, z3, z4, z5, z6, z7, z8, z9, z10, z11]; try rfl) rfl ?_
                refine readR_some HN.out rfl ?_ ((((((((((((hB3.setCell le _).setCell le _).setCell le _).setCell le _).setCell le _).setCell le _).setCell le _).setCell le _).setCell le _).setCell le _).setCell le _).setCell le _)
                exact (HO7.out.off (fun j hj => by
                  have hne : j ≠ w.heap.size := by have := HG.out; omega
                  simp only [Below.heap_setCell _ _ _ _ (show j ≠ (⟨w.heap.size, _, none⟩ : Addr).block from hne)])).rdn HL.out
              · have HN : Hid (parse zs = none) := (HGT.out.again HB.out (by omega) HRi.out).2 heq
                have hcmp := str_neI (msgZ_bd (mgw zs ps v0 v1 v2 v3)) HB.out heq
                clear heq
                generalize hZ : msgZ (mgw zs ps v0 v1 v2 v3) = ys at hcmp
                have HZ : Hid (msgZ (mgw zs ps v0 v1 v2 v3) = ys) := hZ
                clear hZ
                go_wp2_with (first
                  | (go_at_call 28; refine (refBytes_ok (mgw zs ps v0 v1 v2 v3) a k c _ (fun W h => HRT.out (mgw zs ps v0 v1 v2 v3) a k c W h (by omega) HWd.out) HRP.out HRi.out HWd.out).mono ?_; rw [HZ.out]; rintro x w3 ⟨a7, c7, rfl, ho7, hb3⟩; clear z0 z1 z2 z3 z4 z5 z6 z7 z8 z9 z10 z11 q0 q1 q2 q3 q4 q5 q6 q7 q8 q9 q10 q11 yq yz; have tZ := HTZ2.out.below hb3; have z0 : w3.cell? ⟨w.heap.size, 0, none⟩ = some (.int .i64 0) := tZ.c0; have z1 : w3.cell? ⟨w.heap.size, 1, none⟩ = some (.int .i64 0) := tZ.c1; have z2 : w3.cell? ⟨w.heap.size, 2, none⟩ = some (.int .i64 0) := tZ.c2; have z3 : w3.cell? ⟨w.heap.size, 3, none⟩ = some (.int .i64 0) := tZ.c3; have z4 : w3.cell? ⟨w.heap.size, 4, none⟩ = some (.int .i64 0) := tZ.c4; have z5 : w3.cell? ⟨w.heap.size, 5, none⟩ = some (.int .i64 0) := tZ.c5; have z6 : w3.cell? ⟨w.heap.size, 6, none⟩ = some (.bool false) := tZ.c6; have z7 : w3.cell? ⟨w.heap.size, 7, none⟩ = some (.slice none 0 0) := tZ.c7; have z8 : w3.cell? ⟨w.heap.size, 8, none⟩ = some (.complex .f64 0 0) := tZ.c8; have z9 : w3.cell? ⟨w.heap.size, 9, none⟩ = some (.complex .f64 0 0) := tZ.c9; have z10 : w3.cell? ⟨w.heap.size, 10, none⟩ = some (.complex .f64 0 0) := tZ.cA; have z11 : w3.cell? ⟨w.heap.size, 11, none⟩ = some (.complex .f64 0 0) := tZ.cB; have yz := tZ.fz; have hB3 : Below w.heap.size w w3 := below_step HBw2.out hb3; have s1 := strI ho7.rd rfl; have s2 := strI (HRD.out.below hB3) hn; clear tZ ho7 hb3)
                  | (fail))
                refine bodyPost_ret (by simp [results, Try.results9, go_sem, z0, z1, z2, z3, z4, z5, z6, z7, z8, z9, z10, z11]; try rfl) rfl ?_
                exact readR_none HN.out rfl ((((((((((((hB3.setCell le _).setCell le _).setCell le _).setCell le _).setCell le _).setCell le _).setCell le _).setCell le _).setCell le _).setCell le _).setCell le _).setCell le _)
end Go.Proofs.Ytgeoeaadeemmcaa
