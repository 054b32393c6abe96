/- What Open of package msg does, walked (on). -/
import Derived.Test.YtgeoeaadeemmcaaPb
namespace Go.Proofs.Ytgeoeaadeemmcaa
open Go.RowKit
set_option linter.unusedVariables false

set_option maxHeartbeats 800000 in
set_option maxRecDepth 100000 in
theorem open_4 (ao : Option Addr) (n cap m : Nat) (fs bs : List Nat) (zs : List Int) (w : World) (h : Rd8 w ao n cap fs) (hn : n ≤ 140737488355328) (hn2 : n = m + 2) (hok : okB fs = true) (hbs : fs.take m = bs) (hzs : zs = ci bs) (h18 : 18 ≤ m) (hf : isFlg (nAt zs 5) = true) (hR : packB ⟨nAt zs 0, nAt zs 1, nAt zs 2, nAt zs 3, nAt zs 4, nAt zs 5 == 1, bs.drop 18⟩ (m - 18) = false) :
    Calls Try.prog 13 #[.slice ao n cap] w (OpenR fs w) := by
  have h2 := h.alloc (pkO pkN none 0 0)
  have hM0 := PkAt.new w pkN none 0 0
  have hlf := h.len
  have HOK : Hid (okN fs) := (okB_iff fs).1 hok
  have HBS : Hid (fs.take m = bs) := hbs
  have HOP : Hid (openP fs = pkOf bs) := by rw [Hid, openP, if_neg (by omega), if_neg (by rw [hok]; simp), show fs.length - 2 = m by omega, hbs]
  have HZB : Hid (∀ z ∈ zs, 0 ≤ z ∧ z < 256) := by
    rw [Hid, hzs]
    refine ci_bd fun x hx => h.byte x ?_
    rw [← hbs] at hx
    exact List.mem_of_mem_take hx
  have HZS : Hid (zs = ci bs) := hzs
  have HE0 : Hid (pk0 bs = ⟨nAt zs 0, nAt zs 1, nAt zs 2, nAt zs 3, nAt zs 4, nAt zs 5 == 1, bs.drop 18⟩) := by rw [Hid, hzs]; rfl
  have hbl : bs.length = m := by rw [← hbs, List.length_take]; omega
  have HBL : Hid (bs.length = m) := hbl
  have HZL : Hid (zs.length = m) := by rw [Hid, hzs, ci_length]; exact hbl
  have HN2 : Hid (n = m + 2) := hn2
  clear h hok hbs hzs hn2 hlf hbl
  have HP : Hid (openP fs = none) := by rw [Hid, HOP.out, pkOf, if_neg (by have := HBL.out; omega), if_neg (by rw [← HZS.out, hf]; simp), HBL.out, HE0.out, if_neg (by rw [hR]; simp)]
  go_enter Try.func13, Try.ntmps13
  go_upto_region 7 with (first
    | (go_at_call 37; refine (open_ok _ m n _ fs _ h2 HN2.out hn HOK.out).mono ?_; rintro x w1 ⟨ao1, cap1, rfl, ho1', hb1⟩; rw [HBS.out] at ho1'; have ho1 : RdI w1 .u8 ao1 cap1 zs := (by rw [HZS.out]; exact ho1'.rd.rd); have tZ1 := hM0.below hb1; have HB1 : Hid (Below w.heap.size w w1) := below_alloc (hb1.mono (by simp)); have z0 : w1.cell? ⟨w.heap.size, 0, none⟩ = some (.int .i64 0) := tZ1.c0; have z1 : w1.cell? ⟨w.heap.size, 1, none⟩ = some (.int .i64 0) := tZ1.c1; have z2 : w1.cell? ⟨w.heap.size, 2, none⟩ = some (.int .i64 0) := tZ1.c2; have z3 : w1.cell? ⟨w.heap.size, 3, none⟩ = some (.int .i64 0) := tZ1.c3; have z4 : w1.cell? ⟨w.heap.size, 4, none⟩ = some (.int .i64 0) := tZ1.c4; have z5 : w1.cell? ⟨w.heap.size, 5, none⟩ = some (.bool false) := tZ1.c5; have z6 : w1.cell? ⟨w.heap.size, 6, none⟩ = some (.slice none 0 0) := tZ1.c6; have yz := tZ1.fz; have hlt1 : Hid (w.heap.size < w1.heap.size) := tZ1.lt; clear ho1' hb1)
    | (go_at_call 22; refine (get_six _ _ m (m - 18) zs _ ho1 HZL.out HZB.out h18 rfl (by have := HN2.out; omega)).mono ?_; rintro x w2 ⟨b, f, c1, a2, c2, rfl, hbl, p0, p1, p2, p3, p4, p5, ho, hb2⟩; have tZ2 := tZ1.below hb2; clear z0 z1 z2 z3 z4 z5 z6 yz; have z0 : w2.cell? ⟨w.heap.size, 0, none⟩ = some (.int .i64 0) := tZ2.c0; have z1 : w2.cell? ⟨w.heap.size, 1, none⟩ = some (.int .i64 0) := tZ2.c1; have z2 : w2.cell? ⟨w.heap.size, 2, none⟩ = some (.int .i64 0) := tZ2.c2; have z3 : w2.cell? ⟨w.heap.size, 3, none⟩ = some (.int .i64 0) := tZ2.c3; have z4 : w2.cell? ⟨w.heap.size, 4, none⟩ = some (.int .i64 0) := tZ2.c4; have z5 : w2.cell? ⟨w.heap.size, 5, none⟩ = some (.bool false) := tZ2.c5; have z6 : w2.cell? ⟨w.heap.size, 6, none⟩ = some (.slice none 0 0) := tZ2.c6; have yz := tZ2.fz; have HB2 : Hid (Below w.heap.size w w2) := below_step HB1.out hb2; clear tZ1 hb2)
    | (go_at_call 23; refine (isFlag_any _ _).mono ?_; rw [hf]; rintro x w0 ⟨rfl, hw⟩; subst w0)
    | (fail))
  have HS : Hid (∀ W, Below w2.heap.size w2 W → (W.cell? ⟨b, f, none⟩ = some (.int .i64 (nAt zs 0)) ∧ W.cell? ⟨b, f + 1, none⟩ = some (.int .i64 (nAt zs 1)) ∧ W.cell? ⟨b, f + 2, none⟩ = some (.int .i64 (nAt zs 2)) ∧ W.cell? ⟨b, f + 3, none⟩ = some (.int .i64 (nAt zs 3)) ∧ W.cell? ⟨b, f + 4, none⟩ = some (.int .i64 (nAt zs 4)) ∧ W.cell? ⟨b, f + 5, none⟩ = some (.int .i64 (nAt zs 5)))) := fun W hW => ⟨(hW.cell (p := ⟨b, f, none⟩) hbl.2).trans p0, (hW.cell (p := ⟨b, f + 1, none⟩) hbl.2).trans p1, (hW.cell (p := ⟨b, f + 2, none⟩) hbl.2).trans p2, (hW.cell (p := ⟨b, f + 3, none⟩) hbl.2).trans p3, (hW.cell (p := ⟨b, f + 4, none⟩) hbl.2).trans p4, (hW.cell (p := ⟨b, f + 5, none⟩) hbl.2).trans p5⟩
  clear p0 p1 p2 p3 p4 p5 z0 z1 z2 z3 z4 z5 z6 yz ho1
  first
    | go_region_held (fun W => W.cell? ⟨b, f, none⟩ = some (.int .i64 (nAt zs 0)) ∧ W.cell? ⟨b, f + 1, none⟩ = some (.int .i64 (nAt zs 1)) ∧ W.cell? ⟨b, f + 2, none⟩ = some (.int .i64 (nAt zs 2)) ∧ W.cell? ⟨b, f + 3, none⟩ = some (.int .i64 (nAt zs 3)) ∧ W.cell? ⟨b, f + 4, none⟩ = some (.int .i64 (nAt zs 4)) ∧ W.cell? ⟨b, f + 5, none⟩ = some (.int .i64 (nAt zs 5)))
      (first | exact HS.out _ (Below.refl _ _) | exact HS.out _ (Below.refl _ _).drew | exact HS.out _ ((Below.refl _ _).drew.alloc (Nat.le_refl _) _) | exact HS.out _ ((Below.refl _ _).alloc (Nat.le_refl _) _).drew | fail)
      (fail)
    | fail
  have HP3 : Hid (PkAt (w2.alloc (.cells #[.int .i64 (nAt zs 0), .int .i64 (nAt zs 1), .int .i64 (nAt zs 2), .int .i64 (nAt zs 3), .int .i64 (nAt zs 4), .bool (nAt zs 5 == 1), .slice a2 (m - 18) c2] 39)).drew w2.heap.size ⟨nAt zs 0, nAt zs 1, nAt zs 2, nAt zs 3, nAt zs 4, nAt zs 5 == 1, bs.drop 18⟩ a2 (m - 18) c2) := (PkAt.new w2 ⟨nAt zs 0, nAt zs 1, nAt zs 2, nAt zs 3, nAt zs 4, nAt zs 5 == 1, bs.drop 18⟩ a2 (m - 18) c2).below (Below.refl _ _).drew
  have HZ3 : Hid (PkAt (w2.alloc (.cells #[.int .i64 (nAt zs 0), .int .i64 (nAt zs 1), .int .i64 (nAt zs 2), .int .i64 (nAt zs 3), .int .i64 (nAt zs 4), .bool (nAt zs 5 == 1), .slice a2 (m - 18) c2] 39)).drew w.heap.size pkN none 0 0) := (tZ2.below (below_box _ _)).below (Below.refl _ _).drew
  have HB3 : Hid (Below w.heap.size w (w2.alloc (.cells #[.int .i64 (nAt zs 0), .int .i64 (nAt zs 1), .int .i64 (nAt zs 2), .int .i64 (nAt zs 3), .int .i64 (nAt zs 4), .bool (nAt zs 5 == 1), .slice a2 (m - 18) c2] 39)).drew) := (below_step HB2.out (below_box _ _)).drew
  have HO3 : Hid (OwnI (w2.alloc (.cells #[.int .i64 (nAt zs 0), .int .i64 (nAt zs 1), .int .i64 (nAt zs 2), .int .i64 (nAt zs 3), .int .i64 (nAt zs 4), .bool (nAt zs 5 == 1), .slice a2 (m - 18) c2] 39)).drew (w.heap.size + 1) 5 .u8 a2 c2 (zs.drop 18)) := ((ho.mono (show w.heap.size + 1 ≤ w1.heap.size from hlt1.out)).alloc _).below (Below.refl _ _).drew
  clear HS hbl tZ2 ho
  generalize (w2.alloc (.cells #[.int .i64 (nAt zs 0), .int .i64 (nAt zs 1), .int .i64 (nAt zs 2), .int .i64 (nAt zs 3), .int .i64 (nAt zs 4), .bool (nAt zs 5 == 1), .slice a2 (m - 18) c2] 39)).drew = W3 at *
  generalize w2.heap.size = g at *
  have hP3 := HP3.out
  have u0 : W3.cell? ⟨g, 0, none⟩ = some (.int .i64 (nAt zs 0)) := hP3.c0
  have u1 : W3.cell? ⟨g, 1, none⟩ = some (.int .i64 (nAt zs 1)) := hP3.c1
  have u2 : W3.cell? ⟨g, 2, none⟩ = some (.int .i64 (nAt zs 2)) := hP3.c2
  have u3 : W3.cell? ⟨g, 3, none⟩ = some (.int .i64 (nAt zs 3)) := hP3.c3
  have u4 : W3.cell? ⟨g, 4, none⟩ = some (.int .i64 (nAt zs 4)) := hP3.c4
  have u5 : W3.cell? ⟨g, 5, none⟩ = some (.bool (nAt zs 5 == 1)) := hP3.c5
  have u6 : W3.cell? ⟨g, 6, none⟩ = some (.slice a2 (m - 18) c2) := hP3.c6
  clear hP3
  go_wp2_with (first
    | (go_at_call 31; refine (rightPacket_any ⟨nAt zs 0, nAt zs 1, nAt zs 2, nAt zs 3, nAt zs 4, nAt zs 5 == 1, bs.drop 18⟩ a2 (m - 18) c2 _).mono ?_; rw [hR]; rintro x w4 ⟨rfl, hb4⟩; have tP4 := HP3.out.below hb4; have tZ4 := HZ3.out.below hb4; have q0 : w4.cell? ⟨g, 0, none⟩ = some (.int .i64 (nAt zs 0)) := tP4.c0; have q1 : w4.cell? ⟨g, 1, none⟩ = some (.int .i64 (nAt zs 1)) := tP4.c1; have q2 : w4.cell? ⟨g, 2, none⟩ = some (.int .i64 (nAt zs 2)) := tP4.c2; have q3 : w4.cell? ⟨g, 3, none⟩ = some (.int .i64 (nAt zs 3)) := tP4.c3; have q4 : w4.cell? ⟨g, 4, none⟩ = some (.int .i64 (nAt zs 4)) := tP4.c4; have q5 : w4.cell? ⟨g, 5, none⟩ = some (.bool (nAt zs 5 == 1)) := tP4.c5; have q6 : w4.cell? ⟨g, 6, none⟩ = some (.slice a2 (m - 18) c2) := tP4.c6; have z0 : w4.cell? ⟨w.heap.size, 0, none⟩ = some (.int .i64 0) := tZ4.c0; have z1 : w4.cell? ⟨w.heap.size, 1, none⟩ = some (.int .i64 0) := tZ4.c1; have z2 : w4.cell? ⟨w.heap.size, 2, none⟩ = some (.int .i64 0) := tZ4.c2; have z3 : w4.cell? ⟨w.heap.size, 3, none⟩ = some (.int .i64 0) := tZ4.c3; have z4 : w4.cell? ⟨w.heap.size, 4, none⟩ = some (.int .i64 0) := tZ4.c4; have z5 : w4.cell? ⟨w.heap.size, 5, none⟩ = some (.bool false) := tZ4.c5; have z6 : w4.cell? ⟨w.heap.size, 6, none⟩ = some (.slice none 0 0) := tZ4.c6; have yz := tZ4.fz; have hB4 : Below w.heap.size w w4 := below_step HB3.out hb4; clear tP4 tZ4)
    | (fail))
  refine bodyPost_ret (by simp [results, Try.results13, go_sem, z0, z1, z2, z3, z4, z5, z6]; try rfl) rfl ?_
  have le := Nat.le_refl w.heap.size
  exact openR_none HP.out rfl (((((((hB4.setCell le _).setCell le _).setCell le _).setCell le _).setCell le _).setCell le _).setCell le _)

set_option maxHeartbeats 800000 in
set_option maxRecDepth 100000 in
theorem open_5 (ao : Option Addr) (n cap m : Nat) (fs bs : List Nat) (zs : List Int) (w : World) (h : Rd8 w ao n cap fs) (hn : n ≤ 140737488355328) (hn2 : n = m + 2) (hok : okB fs = true) (hbs : fs.take m = bs) (hzs : zs = ci bs) (h18 : 18 ≤ m) (hf : isFlg (nAt zs 5) = true) (hR : packB ⟨nAt zs 0, nAt zs 1, nAt zs 2, nAt zs 3, nAt zs 4, nAt zs 5 == 1, bs.drop 18⟩ (m - 18) = true) :
    Calls Try.prog 13 #[.slice ao n cap] w (OpenR fs w) := by
  have h2 := h.alloc (pkO pkN none 0 0)
  have hM0 := PkAt.new w pkN none 0 0
  have hlf := h.len
  have HOK : Hid (okN fs) := (okB_iff fs).1 hok
  have HBS : Hid (fs.take m = bs) := hbs
  have HOP : Hid (openP fs = pkOf bs) := by rw [Hid, openP, if_neg (by omega), if_neg (by rw [hok]; simp), show fs.length - 2 = m by omega, hbs]
  have HZB : Hid (∀ z ∈ zs, 0 ≤ z ∧ z < 256) := by
    rw [Hid, hzs]
    refine ci_bd fun x hx => h.byte x ?_
    rw [← hbs] at hx
    exact List.mem_of_mem_take hx
  have HZS : Hid (zs = ci bs) := hzs
  have HE0 : Hid (pk0 bs = ⟨nAt zs 0, nAt zs 1, nAt zs 2, nAt zs 3, nAt zs 4, nAt zs 5 == 1, bs.drop 18⟩) := by rw [Hid, hzs]; rfl
  have hbl : bs.length = m := by rw [← hbs, List.length_take]; omega
  have HBL : Hid (bs.length = m) := hbl
  have HZL : Hid (zs.length = m) := by rw [Hid, hzs, ci_length]; exact hbl
  have HN2 : Hid (n = m + 2) := hn2
  clear h hok hbs hzs hn2 hlf hbl
  have HP : Hid (openP fs = some ⟨nAt zs 0, nAt zs 1, nAt zs 2, nAt zs 3, nAt zs 4, nAt zs 5 == 1, bs.drop 18⟩) := by rw [Hid, HOP.out, pkOf, if_neg (by have := HBL.out; omega), if_neg (by rw [← HZS.out, hf]; simp), HBL.out, HE0.out, if_pos hR]
  go_enter Try.func13, Try.ntmps13
  go_upto_region 7 with (first
    | (go_at_call 37; refine (open_ok _ m n _ fs _ h2 HN2.out hn HOK.out).mono ?_; rintro x w1 ⟨ao1, cap1, rfl, ho1', hb1⟩; rw [HBS.out] at ho1'; have ho1 : RdI w1 .u8 ao1 cap1 zs := (by rw [HZS.out]; exact ho1'.rd.rd); have tZ1 := hM0.below hb1; have HB1 : Hid (Below w.heap.size w w1) := below_alloc (hb1.mono (by simp)); have z0 : w1.cell? ⟨w.heap.size, 0, none⟩ = some (.int .i64 0) := tZ1.c0; have z1 : w1.cell? ⟨w.heap.size, 1, none⟩ = some (.int .i64 0) := tZ1.c1; have z2 : w1.cell? ⟨w.heap.size, 2, none⟩ = some (.int .i64 0) := tZ1.c2; have z3 : w1.cell? ⟨w.heap.size, 3, none⟩ = some (.int .i64 0) := tZ1.c3; have z4 : w1.cell? ⟨w.heap.size, 4, none⟩ = some (.int .i64 0) := tZ1.c4; have z5 : w1.cell? ⟨w.heap.size, 5, none⟩ = some (.bool false) := tZ1.c5; have z6 : w1.cell? ⟨w.heap.size, 6, none⟩ = some (.slice none 0 0) := tZ1.c6; have yz := tZ1.fz; have hlt1 : Hid (w.heap.size < w1.heap.size) := tZ1.lt; clear ho1' hb1)
    | (go_at_call 22; refine (get_six _ _ m (m - 18) zs _ ho1 HZL.out HZB.out h18 rfl (by have := HN2.out; omega)).mono ?_; rintro x w2 ⟨b, f, c1, a2, c2, rfl, hbl, p0, p1, p2, p3, p4, p5, ho, hb2⟩; have tZ2 := tZ1.below hb2; clear z0 z1 z2 z3 z4 z5 z6 yz; have z0 : w2.cell? ⟨w.heap.size, 0, none⟩ = some (.int .i64 0) := tZ2.c0; have z1 : w2.cell? ⟨w.heap.size, 1, none⟩ = some (.int .i64 0) := tZ2.c1; have z2 : w2.cell? ⟨w.heap.size, 2, none⟩ = some (.int .i64 0) := tZ2.c2; have z3 : w2.cell? ⟨w.heap.size, 3, none⟩ = some (.int .i64 0) := tZ2.c3; have z4 : w2.cell? ⟨w.heap.size, 4, none⟩ = some (.int .i64 0) := tZ2.c4; have z5 : w2.cell? ⟨w.heap.size, 5, none⟩ = some (.bool false) := tZ2.c5; have z6 : w2.cell? ⟨w.heap.size, 6, none⟩ = some (.slice none 0 0) := tZ2.c6; have yz := tZ2.fz; have HB2 : Hid (Below w.heap.size w w2) := below_step HB1.out hb2; clear tZ1 hb2)
    | (go_at_call 23; refine (isFlag_any _ _).mono ?_; rw [hf]; rintro x w0 ⟨rfl, hw⟩; subst w0)
    | (fail))
  have HS : Hid (∀ W, Below w2.heap.size w2 W → (W.cell? ⟨b, f, none⟩ = some (.int .i64 (nAt zs 0)) ∧ W.cell? ⟨b, f + 1, none⟩ = some (.int .i64 (nAt zs 1)) ∧ W.cell? ⟨b, f + 2, none⟩ = some (.int .i64 (nAt zs 2)) ∧ W.cell? ⟨b, f + 3, none⟩ = some (.int .i64 (nAt zs 3)) ∧ W.cell? ⟨b, f + 4, none⟩ = some (.int .i64 (nAt zs 4)) ∧ W.cell? ⟨b, f + 5, none⟩ = some (.int .i64 (nAt zs 5)))) := fun W hW => ⟨(hW.cell (p := ⟨b, f, none⟩) hbl.2).trans p0, (hW.cell (p := ⟨b, f + 1, none⟩) hbl.2).trans p1, (hW.cell (p := ⟨b, f + 2, none⟩) hbl.2).trans p2, (hW.cell (p := ⟨b, f + 3, none⟩) hbl.2).trans p3, (hW.cell (p := ⟨b, f + 4, none⟩) hbl.2).trans p4, (hW.cell (p := ⟨b, f + 5, none⟩) hbl.2).trans p5⟩
  clear p0 p1 p2 p3 p4 p5 z0 z1 z2 z3 z4 z5 z6 yz ho1
  first
    | go_region_held (fun W => W.cell? ⟨b, f, none⟩ = some (.int .i64 (nAt zs 0)) ∧ W.cell? ⟨b, f + 1, none⟩ = some (.int .i64 (nAt zs 1)) ∧ W.cell? ⟨b, f + 2, none⟩ = some (.int .i64 (nAt zs 2)) ∧ W.cell? ⟨b, f + 3, none⟩ = some (.int .i64 (nAt zs 3)) ∧ W.cell? ⟨b, f + 4, none⟩ = some (.int .i64 (nAt zs 4)) ∧ W.cell? ⟨b, f + 5, none⟩ = some (.int .i64 (nAt zs 5)))
      (first | exact HS.out _ (Below.refl _ _) | exact HS.out _ (Below.refl _ _).drew | exact HS.out _ ((Below.refl _ _).drew.alloc (Nat.le_refl _) _) | exact HS.out _ ((Below.refl _ _).alloc (Nat.le_refl _) _).drew | fail)
      (fail)
    | fail
  have HP3 : Hid (PkAt (w2.alloc (.cells #[.int .i64 (nAt zs 0), .int .i64 (nAt zs 1), .int .i64 (nAt zs 2), .int .i64 (nAt zs 3), .int .i64 (nAt zs 4), .bool (nAt zs 5 == 1), .slice a2 (m - 18) c2] 39)).drew w2.heap.size ⟨nAt zs 0, nAt zs 1, nAt zs 2, nAt zs 3, nAt zs 4, nAt zs 5 == 1, bs.drop 18⟩ a2 (m - 18) c2) := (PkAt.new w2 ⟨nAt zs 0, nAt zs 1, nAt zs 2, nAt zs 3, nAt zs 4, nAt zs 5 == 1, bs.drop 18⟩ a2 (m - 18) c2).below (Below.refl _ _).drew
  have HZ3 : Hid (PkAt (w2.alloc (.cells #[.int .i64 (nAt zs 0), .int .i64 (nAt zs 1), .int .i64 (nAt zs 2), .int .i64 (nAt zs 3), .int .i64 (nAt zs 4), .bool (nAt zs 5 == 1), .slice a2 (m - 18) c2] 39)).drew w.heap.size pkN none 0 0) := (tZ2.below (below_box _ _)).below (Below.refl _ _).drew
  have HB3 : Hid (Below w.heap.size w (w2.alloc (.cells #[.int .i64 (nAt zs 0), .int .i64 (nAt zs 1), .int .i64 (nAt zs 2), .int .i64 (nAt zs 3), .int .i64 (nAt zs 4), .bool (nAt zs 5 == 1), .slice a2 (m - 18) c2] 39)).drew) := (below_step HB2.out (below_box _ _)).drew
  have HO3 : Hid (OwnI (w2.alloc (.cells #[.int .i64 (nAt zs 0), .int .i64 (nAt zs 1), .int .i64 (nAt zs 2), .int .i64 (nAt zs 3), .int .i64 (nAt zs 4), .bool (nAt zs 5 == 1), .slice a2 (m - 18) c2] 39)).drew (w.heap.size + 1) 5 .u8 a2 c2 (zs.drop 18)) := ((ho.mono (show w.heap.size + 1 ≤ w1.heap.size from hlt1.out)).alloc _).below (Below.refl _ _).drew
  clear HS hbl tZ2 ho
  generalize (w2.alloc (.cells #[.int .i64 (nAt zs 0), .int .i64 (nAt zs 1), .int .i64 (nAt zs 2), .int .i64 (nAt zs 3), .int .i64 (nAt zs 4), .bool (nAt zs 5 == 1), .slice a2 (m - 18) c2] 39)).drew = W3 at *
  generalize w2.heap.size = g at *
  have hP3 := HP3.out
  have u0 : W3.cell? ⟨g, 0, none⟩ = some (.int .i64 (nAt zs 0)) := hP3.c0
  have u1 : W3.cell? ⟨g, 1, none⟩ = some (.int .i64 (nAt zs 1)) := hP3.c1
  have u2 : W3.cell? ⟨g, 2, none⟩ = some (.int .i64 (nAt zs 2)) := hP3.c2
  have u3 : W3.cell? ⟨g, 3, none⟩ = some (.int .i64 (nAt zs 3)) := hP3.c3
  have u4 : W3.cell? ⟨g, 4, none⟩ = some (.int .i64 (nAt zs 4)) := hP3.c4
  have u5 : W3.cell? ⟨g, 5, none⟩ = some (.bool (nAt zs 5 == 1)) := hP3.c5
  have u6 : W3.cell? ⟨g, 6, none⟩ = some (.slice a2 (m - 18) c2) := hP3.c6
  clear hP3
  go_wp2_with (first
    | (go_at_call 31; refine (rightPacket_any ⟨nAt zs 0, nAt zs 1, nAt zs 2, nAt zs 3, nAt zs 4, nAt zs 5 == 1, bs.drop 18⟩ a2 (m - 18) c2 _).mono ?_; rw [hR]; rintro x w4 ⟨rfl, hb4⟩; have tP4 := HP3.out.below hb4; have tZ4 := HZ3.out.below hb4; have q0 : w4.cell? ⟨g, 0, none⟩ = some (.int .i64 (nAt zs 0)) := tP4.c0; have q1 : w4.cell? ⟨g, 1, none⟩ = some (.int .i64 (nAt zs 1)) := tP4.c1; have q2 : w4.cell? ⟨g, 2, none⟩ = some (.int .i64 (nAt zs 2)) := tP4.c2; have q3 : w4.cell? ⟨g, 3, none⟩ = some (.int .i64 (nAt zs 3)) := tP4.c3; have q4 : w4.cell? ⟨g, 4, none⟩ = some (.int .i64 (nAt zs 4)) := tP4.c4; have q5 : w4.cell? ⟨g, 5, none⟩ = some (.bool (nAt zs 5 == 1)) := tP4.c5; have q6 : w4.cell? ⟨g, 6, none⟩ = some (.slice a2 (m - 18) c2) := tP4.c6; have z0 : w4.cell? ⟨w.heap.size, 0, none⟩ = some (.int .i64 0) := tZ4.c0; have z1 : w4.cell? ⟨w.heap.size, 1, none⟩ = some (.int .i64 0) := tZ4.c1; have z2 : w4.cell? ⟨w.heap.size, 2, none⟩ = some (.int .i64 0) := tZ4.c2; have z3 : w4.cell? ⟨w.heap.size, 3, none⟩ = some (.int .i64 0) := tZ4.c3; have z4 : w4.cell? ⟨w.heap.size, 4, none⟩ = some (.int .i64 0) := tZ4.c4; have z5 : w4.cell? ⟨w.heap.size, 5, none⟩ = some (.bool false) := tZ4.c5; have z6 : w4.cell? ⟨w.heap.size, 6, none⟩ = some (.slice none 0 0) := tZ4.c6; have yz := tZ4.fz; have hB4 : Below w.heap.size w w4 := below_step HB3.out hb4; clear tP4 tZ4)
    | (fail))
  refine bodyPost_ret (by simp [results, Try.results13, go_sem, z0, z1, z2, z3, z4, z5, z6]; try rfl) rfl ?_
  have le := Nat.le_refl w.heap.size
  have e := HZS.out
  refine openR_some HP.out rfl ?_ (((((((hB4.setCell le _).setCell le _).setCell le _).setCell le _).setCell le _).setCell le _).setCell le _)
  have h6 : OwnI w4 (w.heap.size + 1) 5 .u8 a2 c2 (zs.drop 18) := HO3.out.below hb4
  have e2 : zs.drop 18 = ci (bs.drop 18) := by rw [e]; simp [ci]
  rw [e2] at h6
  refine ⟨OwnI.rd (OwnI.keep h6 fun y hy => ?_), by have := HBL.out; simp; omega, fun x hx => ?_⟩
  · have hne : y.block ≠ w.heap.size := by have := (h6.blk y hy).1; omega
    simp only [Below.heap_setCell _ _ _ _ (show y.block ≠ (⟨w.heap.size, _, none⟩ : Addr).block from hne)]
  · have h8 := HZB.out (x : Int) (by rw [e]; exact List.mem_map_of_mem (List.mem_of_mem_drop hx))
    omega

/-- Open, whatever the frame is. -/
theorem open_any (ao : Option Addr) (n cap : Nat) (fs : List Nat) (w : World) (h : Rd8 w ao n cap fs) (hn : n ≤ 140737488355328) :
    Calls Try.prog 13 #[.slice ao n cap] w (OpenR fs w) := by
  have hl := h.len
  by_cases h2 : fs.length < 2
  · exact open_1 ao n cap fs w h hn (.inl h2)
  cases hok : okB fs
  · exact open_1 ao n cap fs w h hn (.inr hok)
  by_cases h18 : n - 2 < 18
  · exact open_2 ao n cap (n - 2) fs (fs.take (n - 2)) _ w h hn (by omega) hok rfl rfl h18
  cases hf : isFlg (nAt (ci (fs.take (n - 2))) 5)
  · exact open_3 ao n cap (n - 2) fs (fs.take (n - 2)) _ w h hn (by omega) hok rfl rfl (by omega) hf
  cases hR : packB (pk0 (fs.take (n - 2))) (n - 2 - 18)
  · exact open_4 ao n cap (n - 2) fs (fs.take (n - 2)) _ w h hn (by omega) hok rfl rfl (by omega) hf hR
  · exact open_5 ao n cap (n - 2) fs (fs.take (n - 2)) _ w h hn (by omega) hok rfl rfl (by omega) hf hR

end Go.Proofs.Ytgeoeaadeemmcaa
