/- For every sequence of bytes: what the program's Read answers is what the document's answer is, message and error: the law's function returns true, and the bytes read as they did. Conditions: none. -/
import Derived.Test.YtgeoeaadeemmcaaRows
import Derived.Test.YtgeoeaadeemmcaaMath
import Derived.Test.YtgeoeaadeemmcaaLeaf
import Derived.Test.YtgeoeaadeemmcaaWalks
import Derived.Test.YtgeoeaadeemmcaaSl
import Derived.Test.YtgeoeaadeemmcaaPkm
import Derived.Test.YtgeoeaadeemmcaaPk1
import Derived.Test.YtgeoeaadeemmcaaPk2
import Derived.Test.YtgeoeaadeemmcaaPk3
import Derived.Test.YtgeoeaadeemmcaaPk4
import Derived.Test.YtgeoeaadeemmcaaPk6
import Derived.Test.YtgeoeaadeemmcaaCm
import Derived.Test.YtgeoeaadeemmcaaCr1
import Derived.Test.YtgeoeaadeemmcaaCr2
import Derived.Test.YtgeoeaadeemmcaaCr3
import Derived.Test.YtgeoeaadeemmcaaPg3
import Derived.Test.YtgeoeaadeemmcaaPg4
import Derived.Test.YtgeoeaadeemmcaaW1
import Derived.Test.YtgeoeaadeemmcaaW2
import Derived.Test.YtgeoeaadeemmcaaM1
import Derived.Test.YtgeoeaadeemmcaaM2
import Derived.Test.YtgeoeaadeemmcaaM3
import Derived.Test.YtgeoeaadeemmcaaM4
import Derived.Test.YtgeoeaadeemmcaaSd
import Derived.Test.YtgeoeaadeemmcaaAp
import Derived.Test.YtgeoeaadeemmcaaMz
import Derived.Test.YtgeoeaadeemmcaaPr1
import Derived.Test.YtgeoeaadeemmcaaN1
import Derived.Test.YtgeoeaadeemmcaaM7
import Derived.Test.YtgeoeaadeemmcaaM5
import Derived.Test.YtgeoeaadeemmcaaNk
import Derived.Test.YtgeoeaadeemmcaaNrA
import Derived.Test.YtgeoeaadeemmcaaNrB
import Derived.Test.YtgeoeaadeemmcaaM8
import Derived.Test.YtgeoeaadeemmcaaNx
import Derived.Test.YtgeoeaadeemmcaaN2
import Derived.Test.YtgeoeaadeemmcaaN3
import Derived.Test.YtgeoeaadeemmcaaPa
import Derived.Test.YtgeoeaadeemmcaaPb
import Derived.Test.YtgeoeaadeemmcaaPc
import Derived.Test.YtgeoeaadeemmcaaCr4
import Derived.Test.YtgeoeaadeemmcaaCr5
import Derived.Test.YtgeoeaadeemmcaaCr7
import Derived.Test.YtgeoeaadeemmcaaRf1
import Derived.Test.YtgeoeaadeemmcaaRf2
import Derived.Test.YtgeoeaadeemmcaaQa
import Derived.Test.YtgeoeaadeemmcaaM6
import Derived.Test.YtgeoeaadeemmcaaN8
import Derived.Test.YtgeoeaadeemmcaaMa
import Derived.Test.YtgeoeaadeemmcaaM9
import Derived.Test.YtgeoeaadeemmcaaNy
import Derived.Test.YtgeoeaadeemmcaaNz
import Derived.Test.YtgeoeaadeemmcaaNw
import Derived.Test.YtgeoeaadeemmcaaN9
import Derived.Test.YtgeoeaadeemmcaaN0
import Derived.WalkKit
import Derived.ProofKit
import Derived.OpenShut
import Derived.ShutString
import Derived.ChangeOld
import Derived.SizedLaws
import Derived.Below
import Derived.Deep.QuietTactic
import Derived.BigQuiet
import Derived.Deep.RegionWith
import Derived.Deep.RegionHeld
import Derived.Deep.RegionHeldLaw
import Derived.RegionTactic
namespace Go.Proofs.Ytgeoeaadeemmcaa
open Go.RowKit
set_option linter.unusedVariables false

set_option maxHeartbeats 1600000 in
set_option maxRecDepth 100000 in
theorem read_E1 (ao : Option Addr) (cap n q : Nat) (zs : List Int) (w : World) (hrd : RdI w .u8 ao cap zs) (hn : zs.length = n) (hb : ∀ z ∈ zs, 0 ≤ z ∧ z < 256) (h24 : 24 ≤ n) (hlen : n ≤ 140737488355328) (hf : isFlg (nAt zs 6) = true) (hq : nAt zs 7 = (q : Int)) (h7 : (q : Int) ≤ 24) (ps : List PutG) (r : List Int) (hT : takeP q (zs.drop 24) = some (ps, r)) (hk : ¬ nAt zs 0 = 5) (L : Nat) (hL : r.length = L) (hr : (0 : Int) < (L : Int)) :
    Calls Try.prog 8 #[.slice ao n cap] w (ReadR zs w) := by
  have hst := fun (ad : Addr) (re im : Nat) (W : World) => run_store Try.prog W ad (.complex .f64 re im) .plain rfl
  have hr0 := hrd.alloc (msO mgZ none 0 0)
  have hM0 := MgAt.new w mgZ none 0 0
  have HB : Hid (∀ z ∈ zs, 0 ≤ z ∧ z < 256) := hb
  have HBD : Hid (∀ z ∈ zs.drop 24, 0 ≤ z ∧ z < 256) := fun z hz => hb z (List.mem_of_mem_drop hz)
  have HDL : Hid ((zs.drop 24).length = n - 24) := by simp [Hid, hn]
  have HQ : Hid (nAt zs 7 = (q : Int)) := hq
  have HPa : Hid (parse zs = match takeP q (zs.drop 24) with
    | none => none
    | some (ps, r) =>
      if nAt zs 0 = 5 then match takeV 4 r with
        | none => none
        | some (v, s) => fin (withV (mg0 zs ps) v) s
      else fin (mg0 zs ps) r) := by
    have e7 : ¬ 24 < nAt zs 7 := by omega
    rw [Hid, parse, if_neg (by omega), if_neg (by rw [hf]; simp), if_neg e7, hq]; rfl
  clear hb hrd hq
  have HT : Hid (takeP q (zs.drop 24) = some (ps, r)) := hT
  have HPL : Hid (ps.length = q) := (takeP_some q HBD.out hT).2.1
  rw [hT] at HPa
  have HPb : Hid (parse zs = fin (mg0 zs ps) r) := by rw [Hid, HPa.out]; simp only [if_neg hk]
  have hk5 : (nAt zs 0 == 5) = false := by simpa using hk
  clear hT hk HPa
  have HLr : Hid (r.length = L) := hL
  have HPn : Hid (parse zs = none) := by rw [Hid, HPb.out, fin, if_neg (fun h => by have := h.1; omega)]
  clear hL
  go_enter Try.func8, Try.ntmps8
  go_upto_region 4 with (first
    | (go_at_call 22; refine (get_eight _ _ _ (n - 24) zs _ hr0 hn HB.out h24 rfl hlen).mono ?_; rintro x w1 ⟨b, f, c1, a2, c2, rfl, hbl, p0, p1, p2, p3, p4, p5, p6, p7, ho, hb1⟩; rw [HQ.out] at p7; have s7 : (w1.alloc (.cells #[.int .i64 (nAt zs 0), .int .i64 (nAt zs 1), .int .i64 (nAt zs 2), .int .i64 (nAt zs 3), .int .i64 (nAt zs 4), .int .i64 (nAt zs 5), .bool (nAt zs 6 == 1), .slice none 0 0, .complex .f64 0 0, .complex .f64 0 0, .complex .f64 0 0, .complex .f64 0 0] 30)).drew.cell? ⟨b, f + 7, none⟩ = some (.int .i64 (q : Int)) := ((below_box w1 (.cells #[.int .i64 (nAt zs 0), .int .i64 (nAt zs 1), .int .i64 (nAt zs 2), .int .i64 (nAt zs 3), .int .i64 (nAt zs 4), .int .i64 (nAt zs 5), .bool (nAt zs 6 == 1), .slice none 0 0, .complex .f64 0 0, .complex .f64 0 0, .complex .f64 0 0, .complex .f64 0 0] 30)).cell (p := ⟨b, f + 7, none⟩) hbl.2).trans p7; have HMZ : Hid (MgAt (w1.alloc (.cells #[.int .i64 (nAt zs 0), .int .i64 (nAt zs 1), .int .i64 (nAt zs 2), .int .i64 (nAt zs 3), .int .i64 (nAt zs 4), .int .i64 (nAt zs 5), .bool (nAt zs 6 == 1), .slice none 0 0, .complex .f64 0 0, .complex .f64 0 0, .complex .f64 0 0, .complex .f64 0 0] 30)).drew w.heap.size mgZ none 0 0) := ((hM0.below hb1).below (below_box w1 (.cells #[.int .i64 (nAt zs 0), .int .i64 (nAt zs 1), .int .i64 (nAt zs 2), .int .i64 (nAt zs 3), .int .i64 (nAt zs 4), .int .i64 (nAt zs 5), .bool (nAt zs 6 == 1), .slice none 0 0, .complex .f64 0 0, .complex .f64 0 0, .complex .f64 0 0, .complex .f64 0 0] 30))).below (Below.refl _ _).drew; have HM : Hid (MgAt (w1.alloc (.cells #[.int .i64 (nAt zs 0), .int .i64 (nAt zs 1), .int .i64 (nAt zs 2), .int .i64 (nAt zs 3), .int .i64 (nAt zs 4), .int .i64 (nAt zs 5), .bool (nAt zs 6 == 1), .slice none 0 0, .complex .f64 0 0, .complex .f64 0 0, .complex .f64 0 0, .complex .f64 0 0] 30)).drew w1.heap.size (mg0 zs []) none 0 0) := (MgAt.new w1 (mg0 zs []) none 0 0).below (Below.refl _ _).drew; have HB1 : Hid (Below w.heap.size w (w1.alloc (.cells #[.int .i64 (nAt zs 0), .int .i64 (nAt zs 1), .int .i64 (nAt zs 2), .int .i64 (nAt zs 3), .int .i64 (nAt zs 4), .int .i64 (nAt zs 5), .bool (nAt zs 6 == 1), .slice none 0 0, .complex .f64 0 0, .complex .f64 0 0, .complex .f64 0 0, .complex .f64 0 0] 30)).drew) := (below_step (below_alloc (hb1.mono (by simp))) (below_box _ _)).drew; have HG : Hid (w.heap.size < w1.heap.size) := (hM0.below hb1).lt; have HO : Hid (RdI (w1.alloc (.cells #[.int .i64 (nAt zs 0), .int .i64 (nAt zs 1), .int .i64 (nAt zs 2), .int .i64 (nAt zs 3), .int .i64 (nAt zs 4), .int .i64 (nAt zs 5), .bool (nAt zs 6 == 1), .slice none 0 0, .complex .f64 0 0, .complex .f64 0 0, .complex .f64 0 0, .complex .f64 0 0] 30)).drew .u8 a2 c2 (zs.drop 24)) := (ho.rd.alloc _).drew; have HOB : Hid (∀ y, a2 = some y → y.block < w1.heap.size) := fun y hy => (ho.blk y hy).2; clear hb1 ho)
    | (go_at_call 23; refine (isFlag_any _ _).mono ?_; rw [hf]; rintro x w0 ⟨rfl, hw⟩; subst w0)
    | (fail))
  have HS : Hid (∀ W, Below w1.heap.size w1 W → (W.cell? ⟨b, f, none⟩ = some (.int .i64 (nAt zs 0)) ∧ W.cell? ⟨b, f + 1, none⟩ = some (.int .i64 (nAt zs 1)) ∧ W.cell? ⟨b, f + 2, none⟩ = some (.int .i64 (nAt zs 2)) ∧ W.cell? ⟨b, f + 3, none⟩ = some (.int .i64 (nAt zs 3)) ∧ W.cell? ⟨b, f + 4, none⟩ = some (.int .i64 (nAt zs 4)) ∧ W.cell? ⟨b, f + 5, none⟩ = some (.int .i64 (nAt zs 5)) ∧ W.cell? ⟨b, f + 6, none⟩ = some (.int .i64 (nAt zs 6)))) := fun W hW => ⟨(hW.cell (p := ⟨b, f, none⟩) hbl.2).trans p0, (hW.cell (p := ⟨b, f + 1, none⟩) hbl.2).trans p1, (hW.cell (p := ⟨b, f + 2, none⟩) hbl.2).trans p2, (hW.cell (p := ⟨b, f + 3, none⟩) hbl.2).trans p3, (hW.cell (p := ⟨b, f + 4, none⟩) hbl.2).trans p4, (hW.cell (p := ⟨b, f + 5, none⟩) hbl.2).trans p5, (hW.cell (p := ⟨b, f + 6, none⟩) hbl.2).trans p6⟩
  clear p0 p1 p2 p3 p4 p5 p6 p7
  first
    | go_region_held (fun W => W.cell? ⟨b, f, none⟩ = some (.int .i64 (nAt zs 0)) ∧ W.cell? ⟨b, f + 1, none⟩ = some (.int .i64 (nAt zs 1)) ∧ W.cell? ⟨b, f + 2, none⟩ = some (.int .i64 (nAt zs 2)) ∧ W.cell? ⟨b, f + 3, none⟩ = some (.int .i64 (nAt zs 3)) ∧ W.cell? ⟨b, f + 4, none⟩ = some (.int .i64 (nAt zs 4)) ∧ W.cell? ⟨b, f + 5, none⟩ = some (.int .i64 (nAt zs 5)) ∧ W.cell? ⟨b, f + 6, none⟩ = some (.int .i64 (nAt zs 6)))
      (first | exact HS.out _ (Below.refl _ _) | exact HS.out _ (Below.refl _ _).drew | exact HS.out _ ((Below.refl _ _).drew.alloc (Nat.le_refl _) _) | exact HS.out _ ((Below.refl _ _).alloc (Nat.le_refl _) _).drew | fail)
      (fail)
    | fail
  clear HS hbl
  generalize (w1.alloc (.cells #[.int .i64 (nAt zs 0), .int .i64 (nAt zs 1), .int .i64 (nAt zs 2), .int .i64 (nAt zs 3), .int .i64 (nAt zs 4), .int .i64 (nAt zs 5), .bool (nAt zs 6 == 1), .slice none 0 0, .complex .f64 0 0, .complex .f64 0 0, .complex .f64 0 0, .complex .f64 0 0] 30)).drew = W1 at *
  generalize w1.heap.size = g at *
  have hgW : g < W1.heap.size := HM.out.lt
  go_wp2_with (first
    | (go_at_call 24; refine (takePuts_any a2 c2 (n - 24) q (zs.drop 24) W1 HO.out HDL.out HBD.out (by omega) (by omega)).mono ?_; intro x w2 hP; have hP2 : ∃ a c a3 c3, x = .returned (.tuple #[.slice a q c, .slice a3 L c3, .int .i64 0]) ∧ OwnR w2 W1.heap.size a c ps ∧ RdI w2 .u8 a3 c3 r ∧ Src W1 a2 a3 ∧ Below W1.heap.size W1 w2 := (by rcases hP with ⟨e, -⟩ | ⟨ps', r', a, c, a3, c3, e, h1, h2, h3, h4, h5⟩; (rw [HT.out] at e; cases e); (rw [HT.out] at e; cases e; exact ⟨a, c, a3, c3, by rw [← HLr.out]; exact h1, h2, h3, h4, h5⟩)); obtain ⟨a, c, a3, c3, rfl, hoP, hrL, hsrc, hb2⟩ := hP2; have tM := HM.out.below hb2; have tZ := HMZ.out.below hb2; have q0 : w2.cell? ⟨g, 0, none⟩ = some (.int .i64 (nAt zs 0)) := tM.c0; have q1 : w2.cell? ⟨g, 1, none⟩ = some (.int .i64 (nAt zs 1)) := tM.c1; have q2 : w2.cell? ⟨g, 2, none⟩ = some (.int .i64 (nAt zs 2)) := tM.c2; have q3 : w2.cell? ⟨g, 3, none⟩ = some (.int .i64 (nAt zs 3)) := tM.c3; have q4 : w2.cell? ⟨g, 4, none⟩ = some (.int .i64 (nAt zs 4)) := tM.c4; have q5 : w2.cell? ⟨g, 5, none⟩ = some (.int .i64 (nAt zs 5)) := tM.c5; have q6 : w2.cell? ⟨g, 6, none⟩ = some (.bool (nAt zs 6 == 1)) := tM.c6; have q7 : w2.cell? ⟨g, 7, none⟩ = some (.slice none 0 0) := tM.c7; have q8 : w2.cell? ⟨g, 8, none⟩ = some (.complex .f64 0 0) := tM.c8; have q9 : w2.cell? ⟨g, 9, none⟩ = some (.complex .f64 0 0) := tM.c9; have q10 : w2.cell? ⟨g, 10, none⟩ = some (.complex .f64 0 0) := tM.cA; have q11 : w2.cell? ⟨g, 11, none⟩ = some (.complex .f64 0 0) := tM.cB; have y := tM.fz; have z0 : w2.cell? ⟨w.heap.size, 0, none⟩ = some (.int .i64 0) := tZ.c0; have z1 : w2.cell? ⟨w.heap.size, 1, none⟩ = some (.int .i64 0) := tZ.c1; have z2 : w2.cell? ⟨w.heap.size, 2, none⟩ = some (.int .i64 0) := tZ.c2; have z3 : w2.cell? ⟨w.heap.size, 3, none⟩ = some (.int .i64 0) := tZ.c3; have z4 : w2.cell? ⟨w.heap.size, 4, none⟩ = some (.int .i64 0) := tZ.c4; have z5 : w2.cell? ⟨w.heap.size, 5, none⟩ = some (.int .i64 0) := tZ.c5; have z6 : w2.cell? ⟨w.heap.size, 6, none⟩ = some (.bool false) := tZ.c6; have z7 : w2.cell? ⟨w.heap.size, 7, none⟩ = some (.slice none 0 0) := tZ.c7; have z8 : w2.cell? ⟨w.heap.size, 8, none⟩ = some (.complex .f64 0 0) := tZ.c8; have z9 : w2.cell? ⟨w.heap.size, 9, none⟩ = some (.complex .f64 0 0) := tZ.c9; have z10 : w2.cell? ⟨w.heap.size, 10, none⟩ = some (.complex .f64 0 0) := tZ.cA; have z11 : w2.cell? ⟨w.heap.size, 11, none⟩ = some (.complex .f64 0 0) := tZ.cB; have yz := tZ.fz; have hB2 : Below w.heap.size w w2 := below_step HB1.out hb2; have hgn : g ≠ w.heap.size := (by have := HG.out; omega); have HTM : Hid (MgAt w2 g (mg0 zs []) none 0 0) := tM; have HTZ : Hid (MgAt w2 w.heap.size mgZ none 0 0) := tZ; have HRL : Hid (RdI w2 .u8 a3 c3 r) := hrL; have HSR : Hid (Src W1 a2 a3) := hsrc; have HOP : Hid (OwnR w2 W1.heap.size a c ps) := hoP; clear tM tZ hP hrL hsrc hoP)
    | (fail))
  refine bodyPost_ret (by simp [results, Try.results8, go_sem, z0, z1, z2, z3, z4, z5, z6, z7, z8, z9, z10, z11]; try rfl) rfl ?_
  have le := Nat.le_refl w.heap.size
  have le2 := Nat.le_of_lt HG.out
  exact readR_none HPn.out rfl (((((((((((((hB2.setCell le2 _).setCell le _).setCell le _).setCell le _).setCell le _).setCell le _).setCell le _).setCell le _).setCell le _).setCell le _).setCell le _).setCell le _).setCell le _)

end Go.Proofs.Ytgeoeaadeemmcaa

namespace Go.Proofs.Ytgeoeaadeemmcaa
open Go.RowKit
set_option linter.unusedVariables false

set_option maxHeartbeats 1600000 in
set_option maxRecDepth 100000 in
theorem read_E2f (ao : Option Addr) (cap n q : Nat) (zs : List Int) (w : World) (hrd : RdI w .u8 ao cap zs) (hn : zs.length = n) (hb : ∀ z ∈ zs, 0 ≤ z ∧ z < 256) (h24 : 24 ≤ n) (hlen : n ≤ 140737488355328) (hf : isFlg (nAt zs 6) = true) (hq : nAt zs 7 = (q : Int)) (h7 : (q : Int) ≤ 24) (ps : List PutG) (r : List Int) (hT : takeP q (zs.drop 24) = some (ps, r)) (hk : ¬ nAt zs 0 = 5) (hr : r.length = 0) (hR : rightB (mg0 zs ps) = false) :
    Calls Try.prog 8 #[.slice ao n cap] w (ReadR zs w) := by
  have hst := fun (ad : Addr) (re im : Nat) (W : World) => run_store Try.prog W ad (.complex .f64 re im) .plain rfl
  have hr0 := hrd.alloc (msO mgZ none 0 0)
  have hM0 := MgAt.new w mgZ none 0 0
  have HB : Hid (∀ z ∈ zs, 0 ≤ z ∧ z < 256) := hb
  have HBD : Hid (∀ z ∈ zs.drop 24, 0 ≤ z ∧ z < 256) := fun z hz => hb z (List.mem_of_mem_drop hz)
  have HDL : Hid ((zs.drop 24).length = n - 24) := by simp [Hid, hn]
  have HQ : Hid (nAt zs 7 = (q : Int)) := hq
  have HPa : Hid (parse zs = match takeP q (zs.drop 24) with
    | none => none
    | some (ps, r) =>
      if nAt zs 0 = 5 then match takeV 4 r with
        | none => none
        | some (v, s) => fin (withV (mg0 zs ps) v) s
      else fin (mg0 zs ps) r) := by
    have e7 : ¬ 24 < nAt zs 7 := by omega
    rw [Hid, parse, if_neg (by omega), if_neg (by rw [hf]; simp), if_neg e7, hq]; rfl
  clear hb hrd hq
  have HT : Hid (takeP q (zs.drop 24) = some (ps, r)) := hT
  have HPL : Hid (ps.length = q) := (takeP_some q HBD.out hT).2.1
  rw [hT] at HPa
  have HPb : Hid (parse zs = fin (mg0 zs ps) r) := by rw [Hid, HPa.out]; simp only [if_neg hk]
  have hk5 : (nAt zs 0 == 5) = false := by simpa using hk
  clear hT hk HPa
  have HPn : Hid (parse zs = none) := by rw [Hid, HPb.out, fin, if_neg (fun h => by rw [hR] at h; exact absurd h.2 (by simp))]
  go_enter Try.func8, Try.ntmps8
  go_upto_region 4 with (first
    | (go_at_call 22; refine (get_eight _ _ _ (n - 24) zs _ hr0 hn HB.out h24 rfl hlen).mono ?_; rintro x w1 ⟨b, f, c1, a2, c2, rfl, hbl, p0, p1, p2, p3, p4, p5, p6, p7, ho, hb1⟩; rw [HQ.out] at p7; have s7 : (w1.alloc (.cells #[.int .i64 (nAt zs 0), .int .i64 (nAt zs 1), .int .i64 (nAt zs 2), .int .i64 (nAt zs 3), .int .i64 (nAt zs 4), .int .i64 (nAt zs 5), .bool (nAt zs 6 == 1), .slice none 0 0, .complex .f64 0 0, .complex .f64 0 0, .complex .f64 0 0, .complex .f64 0 0] 30)).drew.cell? ⟨b, f + 7, none⟩ = some (.int .i64 (q : Int)) := ((below_box w1 (.cells #[.int .i64 (nAt zs 0), .int .i64 (nAt zs 1), .int .i64 (nAt zs 2), .int .i64 (nAt zs 3), .int .i64 (nAt zs 4), .int .i64 (nAt zs 5), .bool (nAt zs 6 == 1), .slice none 0 0, .complex .f64 0 0, .complex .f64 0 0, .complex .f64 0 0, .complex .f64 0 0] 30)).cell (p := ⟨b, f + 7, none⟩) hbl.2).trans p7; have HMZ : Hid (MgAt (w1.alloc (.cells #[.int .i64 (nAt zs 0), .int .i64 (nAt zs 1), .int .i64 (nAt zs 2), .int .i64 (nAt zs 3), .int .i64 (nAt zs 4), .int .i64 (nAt zs 5), .bool (nAt zs 6 == 1), .slice none 0 0, .complex .f64 0 0, .complex .f64 0 0, .complex .f64 0 0, .complex .f64 0 0] 30)).drew w.heap.size mgZ none 0 0) := ((hM0.below hb1).below (below_box w1 (.cells #[.int .i64 (nAt zs 0), .int .i64 (nAt zs 1), .int .i64 (nAt zs 2), .int .i64 (nAt zs 3), .int .i64 (nAt zs 4), .int .i64 (nAt zs 5), .bool (nAt zs 6 == 1), .slice none 0 0, .complex .f64 0 0, .complex .f64 0 0, .complex .f64 0 0, .complex .f64 0 0] 30))).below (Below.refl _ _).drew; have HM : Hid (MgAt (w1.alloc (.cells #[.int .i64 (nAt zs 0), .int .i64 (nAt zs 1), .int .i64 (nAt zs 2), .int .i64 (nAt zs 3), .int .i64 (nAt zs 4), .int .i64 (nAt zs 5), .bool (nAt zs 6 == 1), .slice none 0 0, .complex .f64 0 0, .complex .f64 0 0, .complex .f64 0 0, .complex .f64 0 0] 30)).drew w1.heap.size (mg0 zs []) none 0 0) := (MgAt.new w1 (mg0 zs []) none 0 0).below (Below.refl _ _).drew; have HB1 : Hid (Below w.heap.size w (w1.alloc (.cells #[.int .i64 (nAt zs 0), .int .i64 (nAt zs 1), .int .i64 (nAt zs 2), .int .i64 (nAt zs 3), .int .i64 (nAt zs 4), .int .i64 (nAt zs 5), .bool (nAt zs 6 == 1), .slice none 0 0, .complex .f64 0 0, .complex .f64 0 0, .complex .f64 0 0, .complex .f64 0 0] 30)).drew) := (below_step (below_alloc (hb1.mono (by simp))) (below_box _ _)).drew; have HG : Hid (w.heap.size < w1.heap.size) := (hM0.below hb1).lt; have HO : Hid (RdI (w1.alloc (.cells #[.int .i64 (nAt zs 0), .int .i64 (nAt zs 1), .int .i64 (nAt zs 2), .int .i64 (nAt zs 3), .int .i64 (nAt zs 4), .int .i64 (nAt zs 5), .bool (nAt zs 6 == 1), .slice none 0 0, .complex .f64 0 0, .complex .f64 0 0, .complex .f64 0 0, .complex .f64 0 0] 30)).drew .u8 a2 c2 (zs.drop 24)) := (ho.rd.alloc _).drew; have HOB : Hid (∀ y, a2 = some y → y.block < w1.heap.size) := fun y hy => (ho.blk y hy).2; clear hb1 ho)
    | (go_at_call 23; refine (isFlag_any _ _).mono ?_; rw [hf]; rintro x w0 ⟨rfl, hw⟩; subst w0)
    | (fail))
  have HS : Hid (∀ W, Below w1.heap.size w1 W → (W.cell? ⟨b, f, none⟩ = some (.int .i64 (nAt zs 0)) ∧ W.cell? ⟨b, f + 1, none⟩ = some (.int .i64 (nAt zs 1)) ∧ W.cell? ⟨b, f + 2, none⟩ = some (.int .i64 (nAt zs 2)) ∧ W.cell? ⟨b, f + 3, none⟩ = some (.int .i64 (nAt zs 3)) ∧ W.cell? ⟨b, f + 4, none⟩ = some (.int .i64 (nAt zs 4)) ∧ W.cell? ⟨b, f + 5, none⟩ = some (.int .i64 (nAt zs 5)) ∧ W.cell? ⟨b, f + 6, none⟩ = some (.int .i64 (nAt zs 6)))) := fun W hW => ⟨(hW.cell (p := ⟨b, f, none⟩) hbl.2).trans p0, (hW.cell (p := ⟨b, f + 1, none⟩) hbl.2).trans p1, (hW.cell (p := ⟨b, f + 2, none⟩) hbl.2).trans p2, (hW.cell (p := ⟨b, f + 3, none⟩) hbl.2).trans p3, (hW.cell (p := ⟨b, f + 4, none⟩) hbl.2).trans p4, (hW.cell (p := ⟨b, f + 5, none⟩) hbl.2).trans p5, (hW.cell (p := ⟨b, f + 6, none⟩) hbl.2).trans p6⟩
  clear p0 p1 p2 p3 p4 p5 p6 p7
  first
    | go_region_held (fun W => W.cell? ⟨b, f, none⟩ = some (.int .i64 (nAt zs 0)) ∧ W.cell? ⟨b, f + 1, none⟩ = some (.int .i64 (nAt zs 1)) ∧ W.cell? ⟨b, f + 2, none⟩ = some (.int .i64 (nAt zs 2)) ∧ W.cell? ⟨b, f + 3, none⟩ = some (.int .i64 (nAt zs 3)) ∧ W.cell? ⟨b, f + 4, none⟩ = some (.int .i64 (nAt zs 4)) ∧ W.cell? ⟨b, f + 5, none⟩ = some (.int .i64 (nAt zs 5)) ∧ W.cell? ⟨b, f + 6, none⟩ = some (.int .i64 (nAt zs 6)))
      (first | exact HS.out _ (Below.refl _ _) | exact HS.out _ (Below.refl _ _).drew | exact HS.out _ ((Below.refl _ _).drew.alloc (Nat.le_refl _) _) | exact HS.out _ ((Below.refl _ _).alloc (Nat.le_refl _) _).drew | fail)
      (fail)
    | fail
  clear HS hbl
  generalize (w1.alloc (.cells #[.int .i64 (nAt zs 0), .int .i64 (nAt zs 1), .int .i64 (nAt zs 2), .int .i64 (nAt zs 3), .int .i64 (nAt zs 4), .int .i64 (nAt zs 5), .bool (nAt zs 6 == 1), .slice none 0 0, .complex .f64 0 0, .complex .f64 0 0, .complex .f64 0 0, .complex .f64 0 0] 30)).drew = W1 at *
  generalize w1.heap.size = g at *
  have hgW : g < W1.heap.size := HM.out.lt
  go_wp2_with (first
    | (go_at_call 16; refine (right_any (mg0 zs ps) a q c _ HRP.out (by omega)).mono ?_; rw [hR]; rintro x w4 ⟨rfl, hb4⟩; have tM4 := TM3.out.below hb4; have tZ4 := TZ3.out.below hb4; clear q0 q1 q2 q3 q4 q5 q6 q7 q8 q9 q10 q11 z0 z1 z2 z3 z4 z5 z6 z7 z8 z9 z10 z11 y yz; have q0 : w4.cell? ⟨g, 0, none⟩ = some (.int .i64 (nAt zs 0)) := tM4.c0; have q1 : w4.cell? ⟨g, 1, none⟩ = some (.int .i64 (nAt zs 1)) := tM4.c1; have q2 : w4.cell? ⟨g, 2, none⟩ = some (.int .i64 (nAt zs 2)) := tM4.c2; have q3 : w4.cell? ⟨g, 3, none⟩ = some (.int .i64 (nAt zs 3)) := tM4.c3; have q4 : w4.cell? ⟨g, 4, none⟩ = some (.int .i64 (nAt zs 4)) := tM4.c4; have q5 : w4.cell? ⟨g, 5, none⟩ = some (.int .i64 (nAt zs 5)) := tM4.c5; have q6 : w4.cell? ⟨g, 6, none⟩ = some (.bool (nAt zs 6 == 1)) := tM4.c6; have q7 : w4.cell? ⟨g, 7, none⟩ = some (.slice a q c) := tM4.c7; have q8 : w4.cell? ⟨g, 8, none⟩ = some (.complex .f64 0 0) := tM4.c8; have q9 : w4.cell? ⟨g, 9, none⟩ = some (.complex .f64 0 0) := tM4.c9; have q10 : w4.cell? ⟨g, 10, none⟩ = some (.complex .f64 0 0) := tM4.cA; have q11 : w4.cell? ⟨g, 11, none⟩ = some (.complex .f64 0 0) := tM4.cB; have y := tM4.fz; have z0 : w4.cell? ⟨w.heap.size, 0, none⟩ = some (.int .i64 0) := tZ4.c0; have z1 : w4.cell? ⟨w.heap.size, 1, none⟩ = some (.int .i64 0) := tZ4.c1; have z2 : w4.cell? ⟨w.heap.size, 2, none⟩ = some (.int .i64 0) := tZ4.c2; have z3 : w4.cell? ⟨w.heap.size, 3, none⟩ = some (.int .i64 0) := tZ4.c3; have z4 : w4.cell? ⟨w.heap.size, 4, none⟩ = some (.int .i64 0) := tZ4.c4; have z5 : w4.cell? ⟨w.heap.size, 5, none⟩ = some (.int .i64 0) := tZ4.c5; have z6 : w4.cell? ⟨w.heap.size, 6, none⟩ = some (.bool false) := tZ4.c6; have z7 : w4.cell? ⟨w.heap.size, 7, none⟩ = some (.slice none 0 0) := tZ4.c7; have z8 : w4.cell? ⟨w.heap.size, 8, none⟩ = some (.complex .f64 0 0) := tZ4.c8; have z9 : w4.cell? ⟨w.heap.size, 9, none⟩ = some (.complex .f64 0 0) := tZ4.c9; have z10 : w4.cell? ⟨w.heap.size, 10, none⟩ = some (.complex .f64 0 0) := tZ4.cA; have z11 : w4.cell? ⟨w.heap.size, 11, none⟩ = some (.complex .f64 0 0) := tZ4.cB; have yz := tZ4.fz; have hB4 : Below w.heap.size w w4 := below_step HB3.out hb4; clear tM4 tZ4)
    | (go_at_call 24; refine (takePuts_any a2 c2 (n - 24) q (zs.drop 24) W1 HO.out HDL.out HBD.out (by omega) (by omega)).mono ?_; intro x w2 hP; have hP2 : ∃ a c a3 c3, x = .returned (.tuple #[.slice a q c, .slice a3 r.length c3, .int .i64 0]) ∧ OwnR w2 W1.heap.size a c ps ∧ RdI w2 .u8 a3 c3 r ∧ Src W1 a2 a3 ∧ Below W1.heap.size W1 w2 := (by rcases hP with ⟨e, -⟩ | ⟨ps', r', a, c, a3, c3, e, h1, h2, h3, h4, h5⟩; (rw [HT.out] at e; cases e); (rw [HT.out] at e; cases e; exact ⟨a, c, a3, c3, h1, h2, h3, h4, h5⟩)); obtain ⟨a, c, a3, c3, rfl, hoP, hrL, hsrc, hb2⟩ := hP2; have tM := HM.out.below hb2; have tZ := HMZ.out.below hb2; have q0 : w2.cell? ⟨g, 0, none⟩ = some (.int .i64 (nAt zs 0)) := tM.c0; have q1 : w2.cell? ⟨g, 1, none⟩ = some (.int .i64 (nAt zs 1)) := tM.c1; have q2 : w2.cell? ⟨g, 2, none⟩ = some (.int .i64 (nAt zs 2)) := tM.c2; have q3 : w2.cell? ⟨g, 3, none⟩ = some (.int .i64 (nAt zs 3)) := tM.c3; have q4 : w2.cell? ⟨g, 4, none⟩ = some (.int .i64 (nAt zs 4)) := tM.c4; have q5 : w2.cell? ⟨g, 5, none⟩ = some (.int .i64 (nAt zs 5)) := tM.c5; have q6 : w2.cell? ⟨g, 6, none⟩ = some (.bool (nAt zs 6 == 1)) := tM.c6; have q7 : w2.cell? ⟨g, 7, none⟩ = some (.slice none 0 0) := tM.c7; have q8 : w2.cell? ⟨g, 8, none⟩ = some (.complex .f64 0 0) := tM.c8; have q9 : w2.cell? ⟨g, 9, none⟩ = some (.complex .f64 0 0) := tM.c9; have q10 : w2.cell? ⟨g, 10, none⟩ = some (.complex .f64 0 0) := tM.cA; have q11 : w2.cell? ⟨g, 11, none⟩ = some (.complex .f64 0 0) := tM.cB; have y := tM.fz; have z0 : w2.cell? ⟨w.heap.size, 0, none⟩ = some (.int .i64 0) := tZ.c0; have z1 : w2.cell? ⟨w.heap.size, 1, none⟩ = some (.int .i64 0) := tZ.c1; have z2 : w2.cell? ⟨w.heap.size, 2, none⟩ = some (.int .i64 0) := tZ.c2; have z3 : w2.cell? ⟨w.heap.size, 3, none⟩ = some (.int .i64 0) := tZ.c3; have z4 : w2.cell? ⟨w.heap.size, 4, none⟩ = some (.int .i64 0) := tZ.c4; have z5 : w2.cell? ⟨w.heap.size, 5, none⟩ = some (.int .i64 0) := tZ.c5; have z6 : w2.cell? ⟨w.heap.size, 6, none⟩ = some (.bool false) := tZ.c6; have z7 : w2.cell? ⟨w.heap.size, 7, none⟩ = some (.slice none 0 0) := tZ.c7; have z8 : w2.cell? ⟨w.heap.size, 8, none⟩ = some (.complex .f64 0 0) := tZ.c8; have z9 : w2.cell? ⟨w.heap.size, 9, none⟩ = some (.complex .f64 0 0) := tZ.c9; have z10 : w2.cell? ⟨w.heap.size, 10, none⟩ = some (.complex .f64 0 0) := tZ.cA; have z11 : w2.cell? ⟨w.heap.size, 11, none⟩ = some (.complex .f64 0 0) := tZ.cB; have yz := tZ.fz; have hB2 : Below w.heap.size w w2 := below_step HB1.out hb2; have hgn : g ≠ w.heap.size := (by have := HG.out; omega); have HTM : Hid (MgAt w2 g (mg0 zs []) none 0 0) := tM; have HTZ : Hid (MgAt w2 w.heap.size mgZ none 0 0) := tZ; have HRL : Hid (RdI w2 .u8 a3 c3 r) := hrL; have HSR : Hid (Src W1 a2 a3) := hsrc; have HOP : Hid (OwnR w2 W1.heap.size a c ps) := hoP; clear tM tZ hP hrL hsrc hoP; have HRP : Hid (RdP (w2.setCell ⟨g, 7, none⟩ (.slice a q c)) a q c ps) := (HOP.out.off (fun j hj => Below.heap_setCell _ _ _ _ (show j ≠ g by omega))).rdn HPL.out; have HOP3 : Hid (OwnR (w2.setCell ⟨g, 7, none⟩ (.slice a q c)) W1.heap.size a c ps) := HOP.out.off (fun j hj => Below.heap_setCell _ _ _ _ (show j ≠ g by omega)); have TM3 : Hid (MgAt (w2.setCell ⟨g, 7, none⟩ (.slice a q c)) g (mg0 zs ps) a q c) := HTM.out.put7 a q c ps; have TZ3 : Hid (MgAt (w2.setCell ⟨g, 7, none⟩ (.slice a q c)) w.heap.size mgZ none 0 0) := HTZ.out.other _ _ (by simp; omega); have HB3 : Hid (Below w.heap.size w (w2.setCell ⟨g, 7, none⟩ (.slice a q c))) := hB2.setCell (Nat.le_of_lt HG.out) _)
    | (fail))
  refine bodyPost_ret (by simp [results, Try.results8, go_sem, z0, z1, z2, z3, z4, z5, z6, z7, z8, z9, z10, z11]; try rfl) rfl ?_
  have le := Nat.le_refl w.heap.size
  exact readR_none HPn.out rfl ((((((((((((hB4.setCell le _).setCell le _).setCell le _).setCell le _).setCell le _).setCell le _).setCell le _).setCell le _).setCell le _).setCell le _).setCell le _).setCell le _)

end Go.Proofs.Ytgeoeaadeemmcaa

namespace Go.Proofs.Ytgeoeaadeemmcaa
open Go.RowKit
set_option linter.unusedVariables false

set_option maxHeartbeats 1600000 in
set_option maxRecDepth 100000 in
theorem read_E2t (ao : Option Addr) (cap n q : Nat) (zs : List Int) (w : World) (hrd : RdI w .u8 ao cap zs) (hn : zs.length = n) (hb : ∀ z ∈ zs, 0 ≤ z ∧ z < 256) (h24 : 24 ≤ n) (hlen : n ≤ 140737488355328) (hf : isFlg (nAt zs 6) = true) (hq : nAt zs 7 = (q : Int)) (h7 : (q : Int) ≤ 24) (ps : List PutG) (r : List Int) (hT : takeP q (zs.drop 24) = some (ps, r)) (hk : ¬ nAt zs 0 = 5) (hr : r.length = 0) (hR : rightB (mg0 zs ps) = true) :
    Calls Try.prog 8 #[.slice ao n cap] w (ReadR zs w) := by
  have hst := fun (ad : Addr) (re im : Nat) (W : World) => run_store Try.prog W ad (.complex .f64 re im) .plain rfl
  have hr0 := hrd.alloc (msO mgZ none 0 0)
  have hM0 := MgAt.new w mgZ none 0 0
  have HB : Hid (∀ z ∈ zs, 0 ≤ z ∧ z < 256) := hb
  have HBD : Hid (∀ z ∈ zs.drop 24, 0 ≤ z ∧ z < 256) := fun z hz => hb z (List.mem_of_mem_drop hz)
  have HDL : Hid ((zs.drop 24).length = n - 24) := by simp [Hid, hn]
  have HQ : Hid (nAt zs 7 = (q : Int)) := hq
  have HPa : Hid (parse zs = match takeP q (zs.drop 24) with
    | none => none
    | some (ps, r) =>
      if nAt zs 0 = 5 then match takeV 4 r with
        | none => none
        | some (v, s) => fin (withV (mg0 zs ps) v) s
      else fin (mg0 zs ps) r) := by
    have e7 : ¬ 24 < nAt zs 7 := by omega
    rw [Hid, parse, if_neg (by omega), if_neg (by rw [hf]; simp), if_neg e7, hq]; rfl
  clear hb hrd hq
  have HT : Hid (takeP q (zs.drop 24) = some (ps, r)) := hT
  have HPL : Hid (ps.length = q) := (takeP_some q HBD.out hT).2.1
  rw [hT] at HPa
  have HPb : Hid (parse zs = fin (mg0 zs ps) r) := by rw [Hid, HPa.out]; simp only [if_neg hk]
  have hk5 : (nAt zs 0 == 5) = false := by simpa using hk
  clear hT hk HPa
  have HPn : Hid (parse zs = some (mg0 zs ps)) := by rw [Hid, HPb.out, fin, if_pos ⟨hr, hR⟩]
  go_enter Try.func8, Try.ntmps8
  go_upto_region 4 with (first
    | (go_at_call 22; refine (get_eight _ _ _ (n - 24) zs _ hr0 hn HB.out h24 rfl hlen).mono ?_; rintro x w1 ⟨b, f, c1, a2, c2, rfl, hbl, p0, p1, p2, p3, p4, p5, p6, p7, ho, hb1⟩; rw [HQ.out] at p7; have s7 : (w1.alloc (.cells #[.int .i64 (nAt zs 0), .int .i64 (nAt zs 1), .int .i64 (nAt zs 2), .int .i64 (nAt zs 3), .int .i64 (nAt zs 4), .int .i64 (nAt zs 5), .bool (nAt zs 6 == 1), .slice none 0 0, .complex .f64 0 0, .complex .f64 0 0, .complex .f64 0 0, .complex .f64 0 0] 30)).drew.cell? ⟨b, f + 7, none⟩ = some (.int .i64 (q : Int)) := ((below_box w1 (.cells #[.int .i64 (nAt zs 0), .int .i64 (nAt zs 1), .int .i64 (nAt zs 2), .int .i64 (nAt zs 3), .int .i64 (nAt zs 4), .int .i64 (nAt zs 5), .bool (nAt zs 6 == 1), .slice none 0 0, .complex .f64 0 0, .complex .f64 0 0, .complex .f64 0 0, .complex .f64 0 0] 30)).cell (p := ⟨b, f + 7, none⟩) hbl.2).trans p7; have HMZ : Hid (MgAt (w1.alloc (.cells #[.int .i64 (nAt zs 0), .int .i64 (nAt zs 1), .int .i64 (nAt zs 2), .int .i64 (nAt zs 3), .int .i64 (nAt zs 4), .int .i64 (nAt zs 5), .bool (nAt zs 6 == 1), .slice none 0 0, .complex .f64 0 0, .complex .f64 0 0, .complex .f64 0 0, .complex .f64 0 0] 30)).drew w.heap.size mgZ none 0 0) := ((hM0.below hb1).below (below_box w1 (.cells #[.int .i64 (nAt zs 0), .int .i64 (nAt zs 1), .int .i64 (nAt zs 2), .int .i64 (nAt zs 3), .int .i64 (nAt zs 4), .int .i64 (nAt zs 5), .bool (nAt zs 6 == 1), .slice none 0 0, .complex .f64 0 0, .complex .f64 0 0, .complex .f64 0 0, .complex .f64 0 0] 30))).below (Below.refl _ _).drew; have HM : Hid (MgAt (w1.alloc (.cells #[.int .i64 (nAt zs 0), .int .i64 (nAt zs 1), .int .i64 (nAt zs 2), .int .i64 (nAt zs 3), .int .i64 (nAt zs 4), .int .i64 (nAt zs 5), .bool (nAt zs 6 == 1), .slice none 0 0, .complex .f64 0 0, .complex .f64 0 0, .complex .f64 0 0, .complex .f64 0 0] 30)).drew w1.heap.size (mg0 zs []) none 0 0) := (MgAt.new w1 (mg0 zs []) none 0 0).below (Below.refl _ _).drew; have HB1 : Hid (Below w.heap.size w (w1.alloc (.cells #[.int .i64 (nAt zs 0), .int .i64 (nAt zs 1), .int .i64 (nAt zs 2), .int .i64 (nAt zs 3), .int .i64 (nAt zs 4), .int .i64 (nAt zs 5), .bool (nAt zs 6 == 1), .slice none 0 0, .complex .f64 0 0, .complex .f64 0 0, .complex .f64 0 0, .complex .f64 0 0] 30)).drew) := (below_step (below_alloc (hb1.mono (by simp))) (below_box _ _)).drew; have HG : Hid (w.heap.size < w1.heap.size) := (hM0.below hb1).lt; have HO : Hid (RdI (w1.alloc (.cells #[.int .i64 (nAt zs 0), .int .i64 (nAt zs 1), .int .i64 (nAt zs 2), .int .i64 (nAt zs 3), .int .i64 (nAt zs 4), .int .i64 (nAt zs 5), .bool (nAt zs 6 == 1), .slice none 0 0, .complex .f64 0 0, .complex .f64 0 0, .complex .f64 0 0, .complex .f64 0 0] 30)).drew .u8 a2 c2 (zs.drop 24)) := (ho.rd.alloc _).drew; have HOB : Hid (∀ y, a2 = some y → y.block < w1.heap.size) := fun y hy => (ho.blk y hy).2; clear hb1 ho)
    | (go_at_call 23; refine (isFlag_any _ _).mono ?_; rw [hf]; rintro x w0 ⟨rfl, hw⟩; subst w0)
    | (fail))
  have HS : Hid (∀ W, Below w1.heap.size w1 W → (W.cell? ⟨b, f, none⟩ = some (.int .i64 (nAt zs 0)) ∧ W.cell? ⟨b, f + 1, none⟩ = some (.int .i64 (nAt zs 1)) ∧ W.cell? ⟨b, f + 2, none⟩ = some (.int .i64 (nAt zs 2)) ∧ W.cell? ⟨b, f + 3, none⟩ = some (.int .i64 (nAt zs 3)) ∧ W.cell? ⟨b, f + 4, none⟩ = some (.int .i64 (nAt zs 4)) ∧ W.cell? ⟨b, f + 5, none⟩ = some (.int .i64 (nAt zs 5)) ∧ W.cell? ⟨b, f + 6, none⟩ = some (.int .i64 (nAt zs 6)))) := fun W hW => ⟨(hW.cell (p := ⟨b, f, none⟩) hbl.2).trans p0, (hW.cell (p := ⟨b, f + 1, none⟩) hbl.2).trans p1, (hW.cell (p := ⟨b, f + 2, none⟩) hbl.2).trans p2, (hW.cell (p := ⟨b, f + 3, none⟩) hbl.2).trans p3, (hW.cell (p := ⟨b, f + 4, none⟩) hbl.2).trans p4, (hW.cell (p := ⟨b, f + 5, none⟩) hbl.2).trans p5, (hW.cell (p := ⟨b, f + 6, none⟩) hbl.2).trans p6⟩
  clear p0 p1 p2 p3 p4 p5 p6 p7
  first
    | go_region_held (fun W => W.cell? ⟨b, f, none⟩ = some (.int .i64 (nAt zs 0)) ∧ W.cell? ⟨b, f + 1, none⟩ = some (.int .i64 (nAt zs 1)) ∧ W.cell? ⟨b, f + 2, none⟩ = some (.int .i64 (nAt zs 2)) ∧ W.cell? ⟨b, f + 3, none⟩ = some (.int .i64 (nAt zs 3)) ∧ W.cell? ⟨b, f + 4, none⟩ = some (.int .i64 (nAt zs 4)) ∧ W.cell? ⟨b, f + 5, none⟩ = some (.int .i64 (nAt zs 5)) ∧ W.cell? ⟨b, f + 6, none⟩ = some (.int .i64 (nAt zs 6)))
      (first | exact HS.out _ (Below.refl _ _) | exact HS.out _ (Below.refl _ _).drew | exact HS.out _ ((Below.refl _ _).drew.alloc (Nat.le_refl _) _) | exact HS.out _ ((Below.refl _ _).alloc (Nat.le_refl _) _).drew | fail)
      (fail)
    | fail
  clear HS hbl
  generalize (w1.alloc (.cells #[.int .i64 (nAt zs 0), .int .i64 (nAt zs 1), .int .i64 (nAt zs 2), .int .i64 (nAt zs 3), .int .i64 (nAt zs 4), .int .i64 (nAt zs 5), .bool (nAt zs 6 == 1), .slice none 0 0, .complex .f64 0 0, .complex .f64 0 0, .complex .f64 0 0, .complex .f64 0 0] 30)).drew = W1 at *
  generalize w1.heap.size = g at *
  have hgW : g < W1.heap.size := HM.out.lt
  go_wp2_with (first
    | (go_at_call 16; refine (right_any (mg0 zs ps) a q c _ HRP.out (by omega)).mono ?_; rw [hR]; rintro x w4 ⟨rfl, hb4⟩; have tM4 := TM3.out.below hb4; have tZ4 := TZ3.out.below hb4; clear q0 q1 q2 q3 q4 q5 q6 q7 q8 q9 q10 q11 z0 z1 z2 z3 z4 z5 z6 z7 z8 z9 z10 z11 y yz; have q0 : w4.cell? ⟨g, 0, none⟩ = some (.int .i64 (nAt zs 0)) := tM4.c0; have q1 : w4.cell? ⟨g, 1, none⟩ = some (.int .i64 (nAt zs 1)) := tM4.c1; have q2 : w4.cell? ⟨g, 2, none⟩ = some (.int .i64 (nAt zs 2)) := tM4.c2; have q3 : w4.cell? ⟨g, 3, none⟩ = some (.int .i64 (nAt zs 3)) := tM4.c3; have q4 : w4.cell? ⟨g, 4, none⟩ = some (.int .i64 (nAt zs 4)) := tM4.c4; have q5 : w4.cell? ⟨g, 5, none⟩ = some (.int .i64 (nAt zs 5)) := tM4.c5; have q6 : w4.cell? ⟨g, 6, none⟩ = some (.bool (nAt zs 6 == 1)) := tM4.c6; have q7 : w4.cell? ⟨g, 7, none⟩ = some (.slice a q c) := tM4.c7; have q8 : w4.cell? ⟨g, 8, none⟩ = some (.complex .f64 0 0) := tM4.c8; have q9 : w4.cell? ⟨g, 9, none⟩ = some (.complex .f64 0 0) := tM4.c9; have q10 : w4.cell? ⟨g, 10, none⟩ = some (.complex .f64 0 0) := tM4.cA; have q11 : w4.cell? ⟨g, 11, none⟩ = some (.complex .f64 0 0) := tM4.cB; have y := tM4.fz; have z0 : w4.cell? ⟨w.heap.size, 0, none⟩ = some (.int .i64 0) := tZ4.c0; have z1 : w4.cell? ⟨w.heap.size, 1, none⟩ = some (.int .i64 0) := tZ4.c1; have z2 : w4.cell? ⟨w.heap.size, 2, none⟩ = some (.int .i64 0) := tZ4.c2; have z3 : w4.cell? ⟨w.heap.size, 3, none⟩ = some (.int .i64 0) := tZ4.c3; have z4 : w4.cell? ⟨w.heap.size, 4, none⟩ = some (.int .i64 0) := tZ4.c4; have z5 : w4.cell? ⟨w.heap.size, 5, none⟩ = some (.int .i64 0) := tZ4.c5; have z6 : w4.cell? ⟨w.heap.size, 6, none⟩ = some (.bool false) := tZ4.c6; have z7 : w4.cell? ⟨w.heap.size, 7, none⟩ = some (.slice none 0 0) := tZ4.c7; have z8 : w4.cell? ⟨w.heap.size, 8, none⟩ = some (.complex .f64 0 0) := tZ4.c8; have z9 : w4.cell? ⟨w.heap.size, 9, none⟩ = some (.complex .f64 0 0) := tZ4.c9; have z10 : w4.cell? ⟨w.heap.size, 10, none⟩ = some (.complex .f64 0 0) := tZ4.cA; have z11 : w4.cell? ⟨w.heap.size, 11, none⟩ = some (.complex .f64 0 0) := tZ4.cB; have yz := tZ4.fz; have hB4 : Below w.heap.size w w4 := below_step HB3.out hb4; clear tM4 tZ4)
    | (go_at_call 24; refine (takePuts_any a2 c2 (n - 24) q (zs.drop 24) W1 HO.out HDL.out HBD.out (by omega) (by omega)).mono ?_; intro x w2 hP; have hP2 : ∃ a c a3 c3, x = .returned (.tuple #[.slice a q c, .slice a3 r.length c3, .int .i64 0]) ∧ OwnR w2 W1.heap.size a c ps ∧ RdI w2 .u8 a3 c3 r ∧ Src W1 a2 a3 ∧ Below W1.heap.size W1 w2 := (by rcases hP with ⟨e, -⟩ | ⟨ps', r', a, c, a3, c3, e, h1, h2, h3, h4, h5⟩; (rw [HT.out] at e; cases e); (rw [HT.out] at e; cases e; exact ⟨a, c, a3, c3, h1, h2, h3, h4, h5⟩)); obtain ⟨a, c, a3, c3, rfl, hoP, hrL, hsrc, hb2⟩ := hP2; have tM := HM.out.below hb2; have tZ := HMZ.out.below hb2; have q0 : w2.cell? ⟨g, 0, none⟩ = some (.int .i64 (nAt zs 0)) := tM.c0; have q1 : w2.cell? ⟨g, 1, none⟩ = some (.int .i64 (nAt zs 1)) := tM.c1; have q2 : w2.cell? ⟨g, 2, none⟩ = some (.int .i64 (nAt zs 2)) := tM.c2; have q3 : w2.cell? ⟨g, 3, none⟩ = some (.int .i64 (nAt zs 3)) := tM.c3; have q4 : w2.cell? ⟨g, 4, none⟩ = some (.int .i64 (nAt zs 4)) := tM.c4; have q5 : w2.cell? ⟨g, 5, none⟩ = some (.int .i64 (nAt zs 5)) := tM.c5; have q6 : w2.cell? ⟨g, 6, none⟩ = some (.bool (nAt zs 6 == 1)) := tM.c6; have q7 : w2.cell? ⟨g, 7, none⟩ = some (.slice none 0 0) := tM.c7; have q8 : w2.cell? ⟨g, 8, none⟩ = some (.complex .f64 0 0) := tM.c8; have q9 : w2.cell? ⟨g, 9, none⟩ = some (.complex .f64 0 0) := tM.c9; have q10 : w2.cell? ⟨g, 10, none⟩ = some (.complex .f64 0 0) := tM.cA; have q11 : w2.cell? ⟨g, 11, none⟩ = some (.complex .f64 0 0) := tM.cB; have y := tM.fz; have z0 : w2.cell? ⟨w.heap.size, 0, none⟩ = some (.int .i64 0) := tZ.c0; have z1 : w2.cell? ⟨w.heap.size, 1, none⟩ = some (.int .i64 0) := tZ.c1; have z2 : w2.cell? ⟨w.heap.size, 2, none⟩ = some (.int .i64 0) := tZ.c2; have z3 : w2.cell? ⟨w.heap.size, 3, none⟩ = some (.int .i64 0) := tZ.c3; have z4 : w2.cell? ⟨w.heap.size, 4, none⟩ = some (.int .i64 0) := tZ.c4; have z5 : w2.cell? ⟨w.heap.size, 5, none⟩ = some (.int .i64 0) := tZ.c5; have z6 : w2.cell? ⟨w.heap.size, 6, none⟩ = some (.bool false) := tZ.c6; have z7 : w2.cell? ⟨w.heap.size, 7, none⟩ = some (.slice none 0 0) := tZ.c7; have z8 : w2.cell? ⟨w.heap.size, 8, none⟩ = some (.complex .f64 0 0) := tZ.c8; have z9 : w2.cell? ⟨w.heap.size, 9, none⟩ = some (.complex .f64 0 0) := tZ.c9; have z10 : w2.cell? ⟨w.heap.size, 10, none⟩ = some (.complex .f64 0 0) := tZ.cA; have z11 : w2.cell? ⟨w.heap.size, 11, none⟩ = some (.complex .f64 0 0) := tZ.cB; have yz := tZ.fz; have hB2 : Below w.heap.size w w2 := below_step HB1.out hb2; have hgn : g ≠ w.heap.size := (by have := HG.out; omega); have HTM : Hid (MgAt w2 g (mg0 zs []) none 0 0) := tM; have HTZ : Hid (MgAt w2 w.heap.size mgZ none 0 0) := tZ; have HRL : Hid (RdI w2 .u8 a3 c3 r) := hrL; have HSR : Hid (Src W1 a2 a3) := hsrc; have HOP : Hid (OwnR w2 W1.heap.size a c ps) := hoP; clear tM tZ hP hrL hsrc hoP; have HRP : Hid (RdP (w2.setCell ⟨g, 7, none⟩ (.slice a q c)) a q c ps) := (HOP.out.off (fun j hj => Below.heap_setCell _ _ _ _ (show j ≠ g by omega))).rdn HPL.out; have HOP3 : Hid (OwnR (w2.setCell ⟨g, 7, none⟩ (.slice a q c)) W1.heap.size a c ps) := HOP.out.off (fun j hj => Below.heap_setCell _ _ _ _ (show j ≠ g by omega)); have TM3 : Hid (MgAt (w2.setCell ⟨g, 7, none⟩ (.slice a q c)) g (mg0 zs ps) a q c) := HTM.out.put7 a q c ps; have TZ3 : Hid (MgAt (w2.setCell ⟨g, 7, none⟩ (.slice a q c)) w.heap.size mgZ none 0 0) := HTZ.out.other _ _ (by simp; omega); have HB3 : Hid (Below w.heap.size w (w2.setCell ⟨g, 7, none⟩ (.slice a q c))) := hB2.setCell (Nat.le_of_lt HG.out) _)
    | (fail))
  refine bodyPost_ret (by simp [results, Try.results8, go_sem, z0, z1, z2, z3, z4, z5, z6, z7, z8, z9, z10, z11]; try rfl) rfl ?_
  have le := Nat.le_refl w.heap.size
  refine readR_some HPn.out rfl ?_ ((((((((((((hB4.setCell le _).setCell le _).setCell le _).setCell le _).setCell le _).setCell le _).setCell le _).setCell le _).setCell le _).setCell le _).setCell le _).setCell le _)
  exact ((HOP3.out.below hb4).off (fun j hj => by
    have hne : j ≠ w.heap.size := by have := HG.out; omega
    simp only [Below.heap_setCell _ _ _ _ (show j ≠ (⟨w.heap.size, _, none⟩ : Addr).block from hne)])).rdn HPL.out

end Go.Proofs.Ytgeoeaadeemmcaa

namespace Go.Proofs.Ytgeoeaadeemmcaa
open Go.RowKit
set_option linter.unusedVariables false

set_option maxHeartbeats 1600000 in
set_option maxRecDepth 100000 in
theorem read_F1 (ao : Option Addr) (cap n q : Nat) (zs : List Int) (w : World) (hrd : RdI w .u8 ao cap zs) (hn : zs.length = n) (hb : ∀ z ∈ zs, 0 ≤ z ∧ z < 256) (h24 : 24 ≤ n) (hlen : n ≤ 140737488355328) (hf : isFlg (nAt zs 6) = true) (hq : nAt zs 7 = (q : Int)) (h7 : (q : Int) ≤ 24) (ps : List PutG) (r : List Int) (hT : takeP q (zs.drop 24) = some (ps, r)) (hk : nAt zs 0 = 5) (hV : takeV 4 r = none) :
    Calls Try.prog 8 #[.slice ao n cap] w (ReadR zs w) := by
  have hst := fun (ad : Addr) (re im : Nat) (W : World) => run_store Try.prog W ad (.complex .f64 re im) .plain rfl
  have hr0 := hrd.alloc (msO mgZ none 0 0)
  have hM0 := MgAt.new w mgZ none 0 0
  have HB : Hid (∀ z ∈ zs, 0 ≤ z ∧ z < 256) := hb
  have HBD : Hid (∀ z ∈ zs.drop 24, 0 ≤ z ∧ z < 256) := fun z hz => hb z (List.mem_of_mem_drop hz)
  have HDL : Hid ((zs.drop 24).length = n - 24) := by simp [Hid, hn]
  have HQ : Hid (nAt zs 7 = (q : Int)) := hq
  have HPa : Hid (parse zs = match takeP q (zs.drop 24) with
    | none => none
    | some (ps, r) =>
      if nAt zs 0 = 5 then match takeV 4 r with
        | none => none
        | some (v, s) => fin (withV (mg0 zs ps) v) s
      else fin (mg0 zs ps) r) := by
    have e7 : ¬ 24 < nAt zs 7 := by omega
    rw [Hid, parse, if_neg (by omega), if_neg (by rw [hf]; simp), if_neg e7, hq]; rfl
  clear hb hrd hq
  have HT : Hid (takeP q (zs.drop 24) = some (ps, r)) := hT
  have HPL : Hid (ps.length = q) := (takeP_some q HBD.out hT).2.1
  rw [hT] at HPa
  have hk5 : (nAt zs 0 == 5) = true := by simpa using hk
  have HBr : Hid (∀ z ∈ r, 0 ≤ z ∧ z < 256) := (takeP_some q HBD.out hT).2.2.2
  have HLe : Hid (r.length ≤ n) := by
    have e := congrArg List.length (takeP_some q HBD.out hT).1
    rw [List.length_append, List.length_drop] at e
    show r.length ≤ n
    omega
  have HV : Hid _ := hV
  have HPn : Hid (parse zs = none) := by rw [Hid, HPa.out]; simp only [if_pos hk, hV]
  clear hT hk HPa hV
  go_enter Try.func8, Try.ntmps8
  go_upto_region 4 with (first
    | (go_at_call 22; refine (get_eight _ _ _ (n - 24) zs _ hr0 hn HB.out h24 rfl hlen).mono ?_; rintro x w1 ⟨b, f, c1, a2, c2, rfl, hbl, p0, p1, p2, p3, p4, p5, p6, p7, ho, hb1⟩; rw [HQ.out] at p7; have s7 : (w1.alloc (.cells #[.int .i64 (nAt zs 0), .int .i64 (nAt zs 1), .int .i64 (nAt zs 2), .int .i64 (nAt zs 3), .int .i64 (nAt zs 4), .int .i64 (nAt zs 5), .bool (nAt zs 6 == 1), .slice none 0 0, .complex .f64 0 0, .complex .f64 0 0, .complex .f64 0 0, .complex .f64 0 0] 30)).drew.cell? ⟨b, f + 7, none⟩ = some (.int .i64 (q : Int)) := ((below_box w1 (.cells #[.int .i64 (nAt zs 0), .int .i64 (nAt zs 1), .int .i64 (nAt zs 2), .int .i64 (nAt zs 3), .int .i64 (nAt zs 4), .int .i64 (nAt zs 5), .bool (nAt zs 6 == 1), .slice none 0 0, .complex .f64 0 0, .complex .f64 0 0, .complex .f64 0 0, .complex .f64 0 0] 30)).cell (p := ⟨b, f + 7, none⟩) hbl.2).trans p7; have HMZ : Hid (MgAt (w1.alloc (.cells #[.int .i64 (nAt zs 0), .int .i64 (nAt zs 1), .int .i64 (nAt zs 2), .int .i64 (nAt zs 3), .int .i64 (nAt zs 4), .int .i64 (nAt zs 5), .bool (nAt zs 6 == 1), .slice none 0 0, .complex .f64 0 0, .complex .f64 0 0, .complex .f64 0 0, .complex .f64 0 0] 30)).drew w.heap.size mgZ none 0 0) := ((hM0.below hb1).below (below_box w1 (.cells #[.int .i64 (nAt zs 0), .int .i64 (nAt zs 1), .int .i64 (nAt zs 2), .int .i64 (nAt zs 3), .int .i64 (nAt zs 4), .int .i64 (nAt zs 5), .bool (nAt zs 6 == 1), .slice none 0 0, .complex .f64 0 0, .complex .f64 0 0, .complex .f64 0 0, .complex .f64 0 0] 30))).below (Below.refl _ _).drew; have HM : Hid (MgAt (w1.alloc (.cells #[.int .i64 (nAt zs 0), .int .i64 (nAt zs 1), .int .i64 (nAt zs 2), .int .i64 (nAt zs 3), .int .i64 (nAt zs 4), .int .i64 (nAt zs 5), .bool (nAt zs 6 == 1), .slice none 0 0, .complex .f64 0 0, .complex .f64 0 0, .complex .f64 0 0, .complex .f64 0 0] 30)).drew w1.heap.size (mg0 zs []) none 0 0) := (MgAt.new w1 (mg0 zs []) none 0 0).below (Below.refl _ _).drew; have HB1 : Hid (Below w.heap.size w (w1.alloc (.cells #[.int .i64 (nAt zs 0), .int .i64 (nAt zs 1), .int .i64 (nAt zs 2), .int .i64 (nAt zs 3), .int .i64 (nAt zs 4), .int .i64 (nAt zs 5), .bool (nAt zs 6 == 1), .slice none 0 0, .complex .f64 0 0, .complex .f64 0 0, .complex .f64 0 0, .complex .f64 0 0] 30)).drew) := (below_step (below_alloc (hb1.mono (by simp))) (below_box _ _)).drew; have HG : Hid (w.heap.size < w1.heap.size) := (hM0.below hb1).lt; have HO : Hid (RdI (w1.alloc (.cells #[.int .i64 (nAt zs 0), .int .i64 (nAt zs 1), .int .i64 (nAt zs 2), .int .i64 (nAt zs 3), .int .i64 (nAt zs 4), .int .i64 (nAt zs 5), .bool (nAt zs 6 == 1), .slice none 0 0, .complex .f64 0 0, .complex .f64 0 0, .complex .f64 0 0, .complex .f64 0 0] 30)).drew .u8 a2 c2 (zs.drop 24)) := (ho.rd.alloc _).drew; have HOB : Hid (∀ y, a2 = some y → y.block < w1.heap.size) := fun y hy => (ho.blk y hy).2; clear hb1 ho)
    | (go_at_call 23; refine (isFlag_any _ _).mono ?_; rw [hf]; rintro x w0 ⟨rfl, hw⟩; subst w0)
    | (fail))
  have HS : Hid (∀ W, Below w1.heap.size w1 W → (W.cell? ⟨b, f, none⟩ = some (.int .i64 (nAt zs 0)) ∧ W.cell? ⟨b, f + 1, none⟩ = some (.int .i64 (nAt zs 1)) ∧ W.cell? ⟨b, f + 2, none⟩ = some (.int .i64 (nAt zs 2)) ∧ W.cell? ⟨b, f + 3, none⟩ = some (.int .i64 (nAt zs 3)) ∧ W.cell? ⟨b, f + 4, none⟩ = some (.int .i64 (nAt zs 4)) ∧ W.cell? ⟨b, f + 5, none⟩ = some (.int .i64 (nAt zs 5)) ∧ W.cell? ⟨b, f + 6, none⟩ = some (.int .i64 (nAt zs 6)))) := fun W hW => ⟨(hW.cell (p := ⟨b, f, none⟩) hbl.2).trans p0, (hW.cell (p := ⟨b, f + 1, none⟩) hbl.2).trans p1, (hW.cell (p := ⟨b, f + 2, none⟩) hbl.2).trans p2, (hW.cell (p := ⟨b, f + 3, none⟩) hbl.2).trans p3, (hW.cell (p := ⟨b, f + 4, none⟩) hbl.2).trans p4, (hW.cell (p := ⟨b, f + 5, none⟩) hbl.2).trans p5, (hW.cell (p := ⟨b, f + 6, none⟩) hbl.2).trans p6⟩
  clear p0 p1 p2 p3 p4 p5 p6 p7
  first
    | go_region_held (fun W => W.cell? ⟨b, f, none⟩ = some (.int .i64 (nAt zs 0)) ∧ W.cell? ⟨b, f + 1, none⟩ = some (.int .i64 (nAt zs 1)) ∧ W.cell? ⟨b, f + 2, none⟩ = some (.int .i64 (nAt zs 2)) ∧ W.cell? ⟨b, f + 3, none⟩ = some (.int .i64 (nAt zs 3)) ∧ W.cell? ⟨b, f + 4, none⟩ = some (.int .i64 (nAt zs 4)) ∧ W.cell? ⟨b, f + 5, none⟩ = some (.int .i64 (nAt zs 5)) ∧ W.cell? ⟨b, f + 6, none⟩ = some (.int .i64 (nAt zs 6)))
      (first | exact HS.out _ (Below.refl _ _) | exact HS.out _ (Below.refl _ _).drew | exact HS.out _ ((Below.refl _ _).drew.alloc (Nat.le_refl _) _) | exact HS.out _ ((Below.refl _ _).alloc (Nat.le_refl _) _).drew | fail)
      (fail)
    | fail
  clear HS hbl
  generalize (w1.alloc (.cells #[.int .i64 (nAt zs 0), .int .i64 (nAt zs 1), .int .i64 (nAt zs 2), .int .i64 (nAt zs 3), .int .i64 (nAt zs 4), .int .i64 (nAt zs 5), .bool (nAt zs 6 == 1), .slice none 0 0, .complex .f64 0 0, .complex .f64 0 0, .complex .f64 0 0, .complex .f64 0 0] 30)).drew = W1 at *
  generalize w1.heap.size = g at *
  have hgW : g < W1.heap.size := HM.out.lt
  go_wp2_with (first
    | (go_at_call 25; refine (takeValues_any a3 c3 r.length r _ HRL3.out rfl HBr.out (by have := HLe.out; omega)).mono ?_; intro x w5 hV; have hV2 : ∃ v0 v1 v2 v3 : Nat × Nat, x = .returned (.tuple #[v4V v0 v1 v2 v3, .slice none 0 0, .int .i64 21]) ∧ Below (w2.setCell ⟨g, 7, none⟩ (.slice a q c)).heap.size (w2.setCell ⟨g, 7, none⟩ (.slice a q c)) w5 := (by rcases hV with ⟨-, h⟩ | ⟨v0, v1, v2, v3, r', a', c', e, -⟩; (exact h); (rw [HV.out] at e; cases e)); obtain ⟨v0, v1, v2, v3, rfl, hb5⟩ := hV2; have tM5 := TM3.out.below hb5; have tZ5 := TZ3.out.below hb5; clear q0 q1 q2 q3 q4 q5 q6 q7 q8 q9 q10 q11 z0 z1 z2 z3 z4 z5 z6 z7 z8 z9 z10 z11 y yz; have q0 : w5.cell? ⟨g, 0, none⟩ = some (.int .i64 (nAt zs 0)) := tM5.c0; have q1 : w5.cell? ⟨g, 1, none⟩ = some (.int .i64 (nAt zs 1)) := tM5.c1; have q2 : w5.cell? ⟨g, 2, none⟩ = some (.int .i64 (nAt zs 2)) := tM5.c2; have q3 : w5.cell? ⟨g, 3, none⟩ = some (.int .i64 (nAt zs 3)) := tM5.c3; have q4 : w5.cell? ⟨g, 4, none⟩ = some (.int .i64 (nAt zs 4)) := tM5.c4; have q5 : w5.cell? ⟨g, 5, none⟩ = some (.int .i64 (nAt zs 5)) := tM5.c5; have q6 : w5.cell? ⟨g, 6, none⟩ = some (.bool (nAt zs 6 == 1)) := tM5.c6; have q7 : w5.cell? ⟨g, 7, none⟩ = some (.slice a q c) := tM5.c7; have q8 : w5.cell? ⟨g, 8, none⟩ = some (.complex .f64 0 0) := tM5.c8; have q9 : w5.cell? ⟨g, 9, none⟩ = some (.complex .f64 0 0) := tM5.c9; have q10 : w5.cell? ⟨g, 10, none⟩ = some (.complex .f64 0 0) := tM5.cA; have q11 : w5.cell? ⟨g, 11, none⟩ = some (.complex .f64 0 0) := tM5.cB; have y := tM5.fz; have z0 : w5.cell? ⟨w.heap.size, 0, none⟩ = some (.int .i64 0) := tZ5.c0; have z1 : w5.cell? ⟨w.heap.size, 1, none⟩ = some (.int .i64 0) := tZ5.c1; have z2 : w5.cell? ⟨w.heap.size, 2, none⟩ = some (.int .i64 0) := tZ5.c2; have z3 : w5.cell? ⟨w.heap.size, 3, none⟩ = some (.int .i64 0) := tZ5.c3; have z4 : w5.cell? ⟨w.heap.size, 4, none⟩ = some (.int .i64 0) := tZ5.c4; have z5 : w5.cell? ⟨w.heap.size, 5, none⟩ = some (.int .i64 0) := tZ5.c5; have z6 : w5.cell? ⟨w.heap.size, 6, none⟩ = some (.bool false) := tZ5.c6; have z7 : w5.cell? ⟨w.heap.size, 7, none⟩ = some (.slice none 0 0) := tZ5.c7; have z8 : w5.cell? ⟨w.heap.size, 8, none⟩ = some (.complex .f64 0 0) := tZ5.c8; have z9 : w5.cell? ⟨w.heap.size, 9, none⟩ = some (.complex .f64 0 0) := tZ5.c9; have z10 : w5.cell? ⟨w.heap.size, 10, none⟩ = some (.complex .f64 0 0) := tZ5.cA; have z11 : w5.cell? ⟨w.heap.size, 11, none⟩ = some (.complex .f64 0 0) := tZ5.cB; have yz := tZ5.fz; have hB5 : Below w.heap.size w w5 := below_step HB3.out hb5; have HTM5 : Hid (MgAt w5 g (mg0 zs ps) a q c) := tM5; have HTZ5 : Hid (MgAt w5 w.heap.size mgZ none 0 0) := tZ5; have HOP5 : Hid (OwnR w5 W1.heap.size a c ps) := HOP3.out.below hb5; clear tM5 tZ5 hV)
    | (go_at_call 24; refine (takePuts_any a2 c2 (n - 24) q (zs.drop 24) W1 HO.out HDL.out HBD.out (by omega) (by omega)).mono ?_; intro x w2 hP; have hP2 : ∃ a c a3 c3, x = .returned (.tuple #[.slice a q c, .slice a3 r.length c3, .int .i64 0]) ∧ OwnR w2 W1.heap.size a c ps ∧ RdI w2 .u8 a3 c3 r ∧ Src W1 a2 a3 ∧ Below W1.heap.size W1 w2 := (by rcases hP with ⟨e, -⟩ | ⟨ps', r', a, c, a3, c3, e, h1, h2, h3, h4, h5⟩; (rw [HT.out] at e; cases e); (rw [HT.out] at e; cases e; exact ⟨a, c, a3, c3, h1, h2, h3, h4, h5⟩)); obtain ⟨a, c, a3, c3, rfl, hoP, hrL, hsrc, hb2⟩ := hP2; have tM := HM.out.below hb2; have tZ := HMZ.out.below hb2; have q0 : w2.cell? ⟨g, 0, none⟩ = some (.int .i64 (nAt zs 0)) := tM.c0; have q1 : w2.cell? ⟨g, 1, none⟩ = some (.int .i64 (nAt zs 1)) := tM.c1; have q2 : w2.cell? ⟨g, 2, none⟩ = some (.int .i64 (nAt zs 2)) := tM.c2; have q3 : w2.cell? ⟨g, 3, none⟩ = some (.int .i64 (nAt zs 3)) := tM.c3; have q4 : w2.cell? ⟨g, 4, none⟩ = some (.int .i64 (nAt zs 4)) := tM.c4; have q5 : w2.cell? ⟨g, 5, none⟩ = some (.int .i64 (nAt zs 5)) := tM.c5; have q6 : w2.cell? ⟨g, 6, none⟩ = some (.bool (nAt zs 6 == 1)) := tM.c6; have q7 : w2.cell? ⟨g, 7, none⟩ = some (.slice none 0 0) := tM.c7; have q8 : w2.cell? ⟨g, 8, none⟩ = some (.complex .f64 0 0) := tM.c8; have q9 : w2.cell? ⟨g, 9, none⟩ = some (.complex .f64 0 0) := tM.c9; have q10 : w2.cell? ⟨g, 10, none⟩ = some (.complex .f64 0 0) := tM.cA; have q11 : w2.cell? ⟨g, 11, none⟩ = some (.complex .f64 0 0) := tM.cB; have y := tM.fz; have z0 : w2.cell? ⟨w.heap.size, 0, none⟩ = some (.int .i64 0) := tZ.c0; have z1 : w2.cell? ⟨w.heap.size, 1, none⟩ = some (.int .i64 0) := tZ.c1; have z2 : w2.cell? ⟨w.heap.size, 2, none⟩ = some (.int .i64 0) := tZ.c2; have z3 : w2.cell? ⟨w.heap.size, 3, none⟩ = some (.int .i64 0) := tZ.c3; have z4 : w2.cell? ⟨w.heap.size, 4, none⟩ = some (.int .i64 0) := tZ.c4; have z5 : w2.cell? ⟨w.heap.size, 5, none⟩ = some (.int .i64 0) := tZ.c5; have z6 : w2.cell? ⟨w.heap.size, 6, none⟩ = some (.bool false) := tZ.c6; have z7 : w2.cell? ⟨w.heap.size, 7, none⟩ = some (.slice none 0 0) := tZ.c7; have z8 : w2.cell? ⟨w.heap.size, 8, none⟩ = some (.complex .f64 0 0) := tZ.c8; have z9 : w2.cell? ⟨w.heap.size, 9, none⟩ = some (.complex .f64 0 0) := tZ.c9; have z10 : w2.cell? ⟨w.heap.size, 10, none⟩ = some (.complex .f64 0 0) := tZ.cA; have z11 : w2.cell? ⟨w.heap.size, 11, none⟩ = some (.complex .f64 0 0) := tZ.cB; have yz := tZ.fz; have hB2 : Below w.heap.size w w2 := below_step HB1.out hb2; have hgn : g ≠ w.heap.size := (by have := HG.out; omega); have HTM : Hid (MgAt w2 g (mg0 zs []) none 0 0) := tM; have HTZ : Hid (MgAt w2 w.heap.size mgZ none 0 0) := tZ; have HRL : Hid (RdI w2 .u8 a3 c3 r) := hrL; have HSR : Hid (Src W1 a2 a3) := hsrc; have HOP : Hid (OwnR w2 W1.heap.size a c ps) := hoP; clear tM tZ hP hrL hsrc hoP; have HRL3 : Hid (RdI (w2.setCell ⟨g, 7, none⟩ (.slice a q c)) .u8 a3 c3 r) := RdI.put HRL.out ⟨g, 7, none⟩ (.slice a q c) (fun y _ hy _ => (by rcases HSR.out with e | e; (rw [e] at hy; have := HOB.out y hy; show y.block ≠ g; omega); (have := e y hy; show y.block ≠ g; omega))); have HOP3 : Hid (OwnR (w2.setCell ⟨g, 7, none⟩ (.slice a q c)) W1.heap.size a c ps) := HOP.out.off (fun j hj => Below.heap_setCell _ _ _ _ (show j ≠ g by omega)); have TM3 : Hid (MgAt (w2.setCell ⟨g, 7, none⟩ (.slice a q c)) g (mg0 zs ps) a q c) := HTM.out.put7 a q c ps; have TZ3 : Hid (MgAt (w2.setCell ⟨g, 7, none⟩ (.slice a q c)) w.heap.size mgZ none 0 0) := HTZ.out.other _ _ (by simp; omega); have HB3 : Hid (Below w.heap.size w (w2.setCell ⟨g, 7, none⟩ (.slice a q c))) := hB2.setCell (Nat.le_of_lt HG.out) _)
    | (fail))
  refine bodyPost_ret (by simp [results, Try.results8, go_sem, z0, z1, z2, z3, z4, z5, z6, z7, z8, z9, z10, z11]; try rfl) rfl ?_
  have le := Nat.le_refl w.heap.size
  have le2 := Nat.le_of_lt HG.out
  exact readR_none HPn.out rfl ((((((((((((((((hB5.setCell le2 _).setCell le2 _).setCell le2 _).setCell le2 _).setCell le _).setCell le _).setCell le _).setCell le _).setCell le _).setCell le _).setCell le _).setCell le _).setCell le _).setCell le _).setCell le _).setCell le _)

end Go.Proofs.Ytgeoeaadeemmcaa

namespace Go.Proofs.Ytgeoeaadeemmcaa
open Go.RowKit
set_option linter.unusedVariables false

set_option maxHeartbeats 1600000 in
set_option maxRecDepth 100000 in
theorem read_F2 (ao : Option Addr) (cap n q : Nat) (zs : List Int) (w : World) (hrd : RdI w .u8 ao cap zs) (hn : zs.length = n) (hb : ∀ z ∈ zs, 0 ≤ z ∧ z < 256) (h24 : 24 ≤ n) (hlen : n ≤ 140737488355328) (hf : isFlg (nAt zs 6) = true) (hq : nAt zs 7 = (q : Int)) (h7 : (q : Int) ≤ 24) (ps : List PutG) (r : List Int) (hT : takeP q (zs.drop 24) = some (ps, r)) (hk : nAt zs 0 = 5) (v0 v1 v2 v3 : Nat × Nat) (s : List Int) (hV : takeV 4 r = some ([v0, v1, v2, v3], s)) (L : Nat) (hL : s.length = L) (hr : (0 : Int) < (L : Int)) :
    Calls Try.prog 8 #[.slice ao n cap] w (ReadR zs w) := by
  have hst := fun (ad : Addr) (re im : Nat) (W : World) => run_store Try.prog W ad (.complex .f64 re im) .plain rfl
  have hr0 := hrd.alloc (msO mgZ none 0 0)
  have hM0 := MgAt.new w mgZ none 0 0
  have HB : Hid (∀ z ∈ zs, 0 ≤ z ∧ z < 256) := hb
  have HBD : Hid (∀ z ∈ zs.drop 24, 0 ≤ z ∧ z < 256) := fun z hz => hb z (List.mem_of_mem_drop hz)
  have HDL : Hid ((zs.drop 24).length = n - 24) := by simp [Hid, hn]
  have HQ : Hid (nAt zs 7 = (q : Int)) := hq
  have HPa : Hid (parse zs = match takeP q (zs.drop 24) with
    | none => none
    | some (ps, r) =>
      if nAt zs 0 = 5 then match takeV 4 r with
        | none => none
        | some (v, s) => fin (withV (mg0 zs ps) v) s
      else fin (mg0 zs ps) r) := by
    have e7 : ¬ 24 < nAt zs 7 := by omega
    rw [Hid, parse, if_neg (by omega), if_neg (by rw [hf]; simp), if_neg e7, hq]; rfl
  clear hb hrd hq
  have HT : Hid (takeP q (zs.drop 24) = some (ps, r)) := hT
  have HPL : Hid (ps.length = q) := (takeP_some q HBD.out hT).2.1
  rw [hT] at HPa
  have hk5 : (nAt zs 0 == 5) = true := by simpa using hk
  have HBr : Hid (∀ z ∈ r, 0 ≤ z ∧ z < 256) := (takeP_some q HBD.out hT).2.2.2
  have HLe : Hid (r.length ≤ n) := by
    have e := congrArg List.length (takeP_some q HBD.out hT).1
    rw [List.length_append, List.length_drop] at e
    show r.length ≤ n
    omega
  have HV : Hid _ := hV
  have HPb : Hid (parse zs = fin ⟨nAt zs 0, nAt zs 1, nAt zs 2, nAt zs 3, nAt zs 4, nAt zs 5, nAt zs 6 == 1, ps, v0, v1, v2, v3⟩ s) := by rw [Hid, HPa.out]; simp only [if_pos hk, hV]; rfl
  clear hT hk HPa hV
  have HLs : Hid (s.length = L) := hL
  have HPn : Hid (parse zs = none) := by rw [Hid, HPb.out, fin, if_neg (fun h => by have := h.1; omega)]
  clear hL
  go_enter Try.func8, Try.ntmps8
  go_upto_region 4 with (first
    | (go_at_call 22; refine (get_eight _ _ _ (n - 24) zs _ hr0 hn HB.out h24 rfl hlen).mono ?_; rintro x w1 ⟨b, f, c1, a2, c2, rfl, hbl, p0, p1, p2, p3, p4, p5, p6, p7, ho, hb1⟩; rw [HQ.out] at p7; have s7 : (w1.alloc (.cells #[.int .i64 (nAt zs 0), .int .i64 (nAt zs 1), .int .i64 (nAt zs 2), .int .i64 (nAt zs 3), .int .i64 (nAt zs 4), .int .i64 (nAt zs 5), .bool (nAt zs 6 == 1), .slice none 0 0, .complex .f64 0 0, .complex .f64 0 0, .complex .f64 0 0, .complex .f64 0 0] 30)).drew.cell? ⟨b, f + 7, none⟩ = some (.int .i64 (q : Int)) := ((below_box w1 (.cells #[.int .i64 (nAt zs 0), .int .i64 (nAt zs 1), .int .i64 (nAt zs 2), .int .i64 (nAt zs 3), .int .i64 (nAt zs 4), .int .i64 (nAt zs 5), .bool (nAt zs 6 == 1), .slice none 0 0, .complex .f64 0 0, .complex .f64 0 0, .complex .f64 0 0, .complex .f64 0 0] 30)).cell (p := ⟨b, f + 7, none⟩) hbl.2).trans p7; have HMZ : Hid (MgAt (w1.alloc (.cells #[.int .i64 (nAt zs 0), .int .i64 (nAt zs 1), .int .i64 (nAt zs 2), .int .i64 (nAt zs 3), .int .i64 (nAt zs 4), .int .i64 (nAt zs 5), .bool (nAt zs 6 == 1), .slice none 0 0, .complex .f64 0 0, .complex .f64 0 0, .complex .f64 0 0, .complex .f64 0 0] 30)).drew w.heap.size mgZ none 0 0) := ((hM0.below hb1).below (below_box w1 (.cells #[.int .i64 (nAt zs 0), .int .i64 (nAt zs 1), .int .i64 (nAt zs 2), .int .i64 (nAt zs 3), .int .i64 (nAt zs 4), .int .i64 (nAt zs 5), .bool (nAt zs 6 == 1), .slice none 0 0, .complex .f64 0 0, .complex .f64 0 0, .complex .f64 0 0, .complex .f64 0 0] 30))).below (Below.refl _ _).drew; have HM : Hid (MgAt (w1.alloc (.cells #[.int .i64 (nAt zs 0), .int .i64 (nAt zs 1), .int .i64 (nAt zs 2), .int .i64 (nAt zs 3), .int .i64 (nAt zs 4), .int .i64 (nAt zs 5), .bool (nAt zs 6 == 1), .slice none 0 0, .complex .f64 0 0, .complex .f64 0 0, .complex .f64 0 0, .complex .f64 0 0] 30)).drew w1.heap.size (mg0 zs []) none 0 0) := (MgAt.new w1 (mg0 zs []) none 0 0).below (Below.refl _ _).drew; have HB1 : Hid (Below w.heap.size w (w1.alloc (.cells #[.int .i64 (nAt zs 0), .int .i64 (nAt zs 1), .int .i64 (nAt zs 2), .int .i64 (nAt zs 3), .int .i64 (nAt zs 4), .int .i64 (nAt zs 5), .bool (nAt zs 6 == 1), .slice none 0 0, .complex .f64 0 0, .complex .f64 0 0, .complex .f64 0 0, .complex .f64 0 0] 30)).drew) := (below_step (below_alloc (hb1.mono (by simp))) (below_box _ _)).drew; have HG : Hid (w.heap.size < w1.heap.size) := (hM0.below hb1).lt; have HO : Hid (RdI (w1.alloc (.cells #[.int .i64 (nAt zs 0), .int .i64 (nAt zs 1), .int .i64 (nAt zs 2), .int .i64 (nAt zs 3), .int .i64 (nAt zs 4), .int .i64 (nAt zs 5), .bool (nAt zs 6 == 1), .slice none 0 0, .complex .f64 0 0, .complex .f64 0 0, .complex .f64 0 0, .complex .f64 0 0] 30)).drew .u8 a2 c2 (zs.drop 24)) := (ho.rd.alloc _).drew; have HOB : Hid (∀ y, a2 = some y → y.block < w1.heap.size) := fun y hy => (ho.blk y hy).2; clear hb1 ho)
    | (go_at_call 23; refine (isFlag_any _ _).mono ?_; rw [hf]; rintro x w0 ⟨rfl, hw⟩; subst w0)
    | (fail))
  have HS : Hid (∀ W, Below w1.heap.size w1 W → (W.cell? ⟨b, f, none⟩ = some (.int .i64 (nAt zs 0)) ∧ W.cell? ⟨b, f + 1, none⟩ = some (.int .i64 (nAt zs 1)) ∧ W.cell? ⟨b, f + 2, none⟩ = some (.int .i64 (nAt zs 2)) ∧ W.cell? ⟨b, f + 3, none⟩ = some (.int .i64 (nAt zs 3)) ∧ W.cell? ⟨b, f + 4, none⟩ = some (.int .i64 (nAt zs 4)) ∧ W.cell? ⟨b, f + 5, none⟩ = some (.int .i64 (nAt zs 5)) ∧ W.cell? ⟨b, f + 6, none⟩ = some (.int .i64 (nAt zs 6)))) := fun W hW => ⟨(hW.cell (p := ⟨b, f, none⟩) hbl.2).trans p0, (hW.cell (p := ⟨b, f + 1, none⟩) hbl.2).trans p1, (hW.cell (p := ⟨b, f + 2, none⟩) hbl.2).trans p2, (hW.cell (p := ⟨b, f + 3, none⟩) hbl.2).trans p3, (hW.cell (p := ⟨b, f + 4, none⟩) hbl.2).trans p4, (hW.cell (p := ⟨b, f + 5, none⟩) hbl.2).trans p5, (hW.cell (p := ⟨b, f + 6, none⟩) hbl.2).trans p6⟩
  clear p0 p1 p2 p3 p4 p5 p6 p7
  first
    | go_region_held (fun W => W.cell? ⟨b, f, none⟩ = some (.int .i64 (nAt zs 0)) ∧ W.cell? ⟨b, f + 1, none⟩ = some (.int .i64 (nAt zs 1)) ∧ W.cell? ⟨b, f + 2, none⟩ = some (.int .i64 (nAt zs 2)) ∧ W.cell? ⟨b, f + 3, none⟩ = some (.int .i64 (nAt zs 3)) ∧ W.cell? ⟨b, f + 4, none⟩ = some (.int .i64 (nAt zs 4)) ∧ W.cell? ⟨b, f + 5, none⟩ = some (.int .i64 (nAt zs 5)) ∧ W.cell? ⟨b, f + 6, none⟩ = some (.int .i64 (nAt zs 6)))
      (first | exact HS.out _ (Below.refl _ _) | exact HS.out _ (Below.refl _ _).drew | exact HS.out _ ((Below.refl _ _).drew.alloc (Nat.le_refl _) _) | exact HS.out _ ((Below.refl _ _).alloc (Nat.le_refl _) _).drew | fail)
      (fail)
    | fail
  clear HS hbl
  generalize (w1.alloc (.cells #[.int .i64 (nAt zs 0), .int .i64 (nAt zs 1), .int .i64 (nAt zs 2), .int .i64 (nAt zs 3), .int .i64 (nAt zs 4), .int .i64 (nAt zs 5), .bool (nAt zs 6 == 1), .slice none 0 0, .complex .f64 0 0, .complex .f64 0 0, .complex .f64 0 0, .complex .f64 0 0] 30)).drew = W1 at *
  generalize w1.heap.size = g at *
  have hgW : g < W1.heap.size := HM.out.lt
  go_wp2_with (first
    | (go_at_call 25; refine (takeValues_any a3 c3 r.length r _ HRL3.out rfl HBr.out (by have := HLe.out; omega)).mono ?_; intro x w5 hV; have hV2 : ∃ (a' : Option Addr) (c' : Nat), x = .returned (.tuple #[v4V v0 v1 v2 v3, .slice a' L c', .int .i64 0]) ∧ Below (w2.setCell ⟨g, 7, none⟩ (.slice a q c)).heap.size (w2.setCell ⟨g, 7, none⟩ (.slice a q c)) w5 := (by rcases hV with ⟨e, -⟩ | ⟨u0, u1, u2, u3, r', a', c', e, h1, h2⟩; (rw [HV.out] at e; cases e); (rw [HV.out] at e; cases e; exact ⟨a', c', by rw [← HLs.out]; exact h1, h2⟩)); obtain ⟨a', c', rfl, hb5⟩ := hV2; have tM5 := TM3.out.below hb5; have tZ5 := TZ3.out.below hb5; clear q0 q1 q2 q3 q4 q5 q6 q7 q8 q9 q10 q11 z0 z1 z2 z3 z4 z5 z6 z7 z8 z9 z10 z11 y yz; have q0 : w5.cell? ⟨g, 0, none⟩ = some (.int .i64 (nAt zs 0)) := tM5.c0; have q1 : w5.cell? ⟨g, 1, none⟩ = some (.int .i64 (nAt zs 1)) := tM5.c1; have q2 : w5.cell? ⟨g, 2, none⟩ = some (.int .i64 (nAt zs 2)) := tM5.c2; have q3 : w5.cell? ⟨g, 3, none⟩ = some (.int .i64 (nAt zs 3)) := tM5.c3; have q4 : w5.cell? ⟨g, 4, none⟩ = some (.int .i64 (nAt zs 4)) := tM5.c4; have q5 : w5.cell? ⟨g, 5, none⟩ = some (.int .i64 (nAt zs 5)) := tM5.c5; have q6 : w5.cell? ⟨g, 6, none⟩ = some (.bool (nAt zs 6 == 1)) := tM5.c6; have q7 : w5.cell? ⟨g, 7, none⟩ = some (.slice a q c) := tM5.c7; have q8 : w5.cell? ⟨g, 8, none⟩ = some (.complex .f64 0 0) := tM5.c8; have q9 : w5.cell? ⟨g, 9, none⟩ = some (.complex .f64 0 0) := tM5.c9; have q10 : w5.cell? ⟨g, 10, none⟩ = some (.complex .f64 0 0) := tM5.cA; have q11 : w5.cell? ⟨g, 11, none⟩ = some (.complex .f64 0 0) := tM5.cB; have y := tM5.fz; have z0 : w5.cell? ⟨w.heap.size, 0, none⟩ = some (.int .i64 0) := tZ5.c0; have z1 : w5.cell? ⟨w.heap.size, 1, none⟩ = some (.int .i64 0) := tZ5.c1; have z2 : w5.cell? ⟨w.heap.size, 2, none⟩ = some (.int .i64 0) := tZ5.c2; have z3 : w5.cell? ⟨w.heap.size, 3, none⟩ = some (.int .i64 0) := tZ5.c3; have z4 : w5.cell? ⟨w.heap.size, 4, none⟩ = some (.int .i64 0) := tZ5.c4; have z5 : w5.cell? ⟨w.heap.size, 5, none⟩ = some (.int .i64 0) := tZ5.c5; have z6 : w5.cell? ⟨w.heap.size, 6, none⟩ = some (.bool false) := tZ5.c6; have z7 : w5.cell? ⟨w.heap.size, 7, none⟩ = some (.slice none 0 0) := tZ5.c7; have z8 : w5.cell? ⟨w.heap.size, 8, none⟩ = some (.complex .f64 0 0) := tZ5.c8; have z9 : w5.cell? ⟨w.heap.size, 9, none⟩ = some (.complex .f64 0 0) := tZ5.c9; have z10 : w5.cell? ⟨w.heap.size, 10, none⟩ = some (.complex .f64 0 0) := tZ5.cA; have z11 : w5.cell? ⟨w.heap.size, 11, none⟩ = some (.complex .f64 0 0) := tZ5.cB; have yz := tZ5.fz; have hB5 : Below w.heap.size w w5 := below_step HB3.out hb5; have HTM5 : Hid (MgAt w5 g (mg0 zs ps) a q c) := tM5; have HTZ5 : Hid (MgAt w5 w.heap.size mgZ none 0 0) := tZ5; have HOP5 : Hid (OwnR w5 W1.heap.size a c ps) := HOP3.out.below hb5; clear tM5 tZ5 hV)
    | (go_at_call 24; refine (takePuts_any a2 c2 (n - 24) q (zs.drop 24) W1 HO.out HDL.out HBD.out (by omega) (by omega)).mono ?_; intro x w2 hP; have hP2 : ∃ a c a3 c3, x = .returned (.tuple #[.slice a q c, .slice a3 r.length c3, .int .i64 0]) ∧ OwnR w2 W1.heap.size a c ps ∧ RdI w2 .u8 a3 c3 r ∧ Src W1 a2 a3 ∧ Below W1.heap.size W1 w2 := (by rcases hP with ⟨e, -⟩ | ⟨ps', r', a, c, a3, c3, e, h1, h2, h3, h4, h5⟩; (rw [HT.out] at e; cases e); (rw [HT.out] at e; cases e; exact ⟨a, c, a3, c3, h1, h2, h3, h4, h5⟩)); obtain ⟨a, c, a3, c3, rfl, hoP, hrL, hsrc, hb2⟩ := hP2; have tM := HM.out.below hb2; have tZ := HMZ.out.below hb2; have q0 : w2.cell? ⟨g, 0, none⟩ = some (.int .i64 (nAt zs 0)) := tM.c0; have q1 : w2.cell? ⟨g, 1, none⟩ = some (.int .i64 (nAt zs 1)) := tM.c1; have q2 : w2.cell? ⟨g, 2, none⟩ = some (.int .i64 (nAt zs 2)) := tM.c2; have q3 : w2.cell? ⟨g, 3, none⟩ = some (.int .i64 (nAt zs 3)) := tM.c3; have q4 : w2.cell? ⟨g, 4, none⟩ = some (.int .i64 (nAt zs 4)) := tM.c4; have q5 : w2.cell? ⟨g, 5, none⟩ = some (.int .i64 (nAt zs 5)) := tM.c5; have q6 : w2.cell? ⟨g, 6, none⟩ = some (.bool (nAt zs 6 == 1)) := tM.c6; have q7 : w2.cell? ⟨g, 7, none⟩ = some (.slice none 0 0) := tM.c7; have q8 : w2.cell? ⟨g, 8, none⟩ = some (.complex .f64 0 0) := tM.c8; have q9 : w2.cell? ⟨g, 9, none⟩ = some (.complex .f64 0 0) := tM.c9; have q10 : w2.cell? ⟨g, 10, none⟩ = some (.complex .f64 0 0) := tM.cA; have q11 : w2.cell? ⟨g, 11, none⟩ = some (.complex .f64 0 0) := tM.cB; have y := tM.fz; have z0 : w2.cell? ⟨w.heap.size, 0, none⟩ = some (.int .i64 0) := tZ.c0; have z1 : w2.cell? ⟨w.heap.size, 1, none⟩ = some (.int .i64 0) := tZ.c1; have z2 : w2.cell? ⟨w.heap.size, 2, none⟩ = some (.int .i64 0) := tZ.c2; have z3 : w2.cell? ⟨w.heap.size, 3, none⟩ = some (.int .i64 0) := tZ.c3; have z4 : w2.cell? ⟨w.heap.size, 4, none⟩ = some (.int .i64 0) := tZ.c4; have z5 : w2.cell? ⟨w.heap.size, 5, none⟩ = some (.int .i64 0) := tZ.c5; have z6 : w2.cell? ⟨w.heap.size, 6, none⟩ = some (.bool false) := tZ.c6; have z7 : w2.cell? ⟨w.heap.size, 7, none⟩ = some (.slice none 0 0) := tZ.c7; have z8 : w2.cell? ⟨w.heap.size, 8, none⟩ = some (.complex .f64 0 0) := tZ.c8; have z9 : w2.cell? ⟨w.heap.size, 9, none⟩ = some (.complex .f64 0 0) := tZ.c9; have z10 : w2.cell? ⟨w.heap.size, 10, none⟩ = some (.complex .f64 0 0) := tZ.cA; have z11 : w2.cell? ⟨w.heap.size, 11, none⟩ = some (.complex .f64 0 0) := tZ.cB; have yz := tZ.fz; have hB2 : Below w.heap.size w w2 := below_step HB1.out hb2; have hgn : g ≠ w.heap.size := (by have := HG.out; omega); have HTM : Hid (MgAt w2 g (mg0 zs []) none 0 0) := tM; have HTZ : Hid (MgAt w2 w.heap.size mgZ none 0 0) := tZ; have HRL : Hid (RdI w2 .u8 a3 c3 r) := hrL; have HSR : Hid (Src W1 a2 a3) := hsrc; have HOP : Hid (OwnR w2 W1.heap.size a c ps) := hoP; clear tM tZ hP hrL hsrc hoP; have HRL3 : Hid (RdI (w2.setCell ⟨g, 7, none⟩ (.slice a q c)) .u8 a3 c3 r) := RdI.put HRL.out ⟨g, 7, none⟩ (.slice a q c) (fun y _ hy _ => (by rcases HSR.out with e | e; (rw [e] at hy; have := HOB.out y hy; show y.block ≠ g; omega); (have := e y hy; show y.block ≠ g; omega))); have HOP3 : Hid (OwnR (w2.setCell ⟨g, 7, none⟩ (.slice a q c)) W1.heap.size a c ps) := HOP.out.off (fun j hj => Below.heap_setCell _ _ _ _ (show j ≠ g by omega)); have TM3 : Hid (MgAt (w2.setCell ⟨g, 7, none⟩ (.slice a q c)) g (mg0 zs ps) a q c) := HTM.out.put7 a q c ps; have TZ3 : Hid (MgAt (w2.setCell ⟨g, 7, none⟩ (.slice a q c)) w.heap.size mgZ none 0 0) := HTZ.out.other _ _ (by simp; omega); have HB3 : Hid (Below w.heap.size w (w2.setCell ⟨g, 7, none⟩ (.slice a q c))) := hB2.setCell (Nat.le_of_lt HG.out) _)
    | (fail))
  refine bodyPost_ret (by simp [results, Try.results8, go_sem, z0, z1, z2, z3, z4, z5, z6, z7, z8, z9, z10, z11]; try rfl) rfl ?_
  have le := Nat.le_refl w.heap.size
  have le2 := Nat.le_of_lt HG.out
  exact readR_none HPn.out rfl ((((((((((((((((hB5.setCell le2 _).setCell le2 _).setCell le2 _).setCell le2 _).setCell le _).setCell le _).setCell le _).setCell le _).setCell le _).setCell le _).setCell le _).setCell le _).setCell le _).setCell le _).setCell le _).setCell le _)

end Go.Proofs.Ytgeoeaadeemmcaa

namespace Go.Proofs.Ytgeoeaadeemmcaa
open Go.RowKit
set_option linter.unusedVariables false

set_option maxHeartbeats 1600000 in
set_option maxRecDepth 100000 in
theorem read_F3f (ao : Option Addr) (cap n q : Nat) (zs : List Int) (w : World) (hrd : RdI w .u8 ao cap zs) (hn : zs.length = n) (hb : ∀ z ∈ zs, 0 ≤ z ∧ z < 256) (h24 : 24 ≤ n) (hlen : n ≤ 140737488355328) (hf : isFlg (nAt zs 6) = true) (hq : nAt zs 7 = (q : Int)) (h7 : (q : Int) ≤ 24) (ps : List PutG) (r : List Int) (hT : takeP q (zs.drop 24) = some (ps, r)) (hk : nAt zs 0 = 5) (v0 v1 v2 v3 : Nat × Nat) (s : List Int) (hV : takeV 4 r = some ([v0, v1, v2, v3], s)) (hr : s.length = 0) (hR : rightB ⟨nAt zs 0, nAt zs 1, nAt zs 2, nAt zs 3, nAt zs 4, nAt zs 5, nAt zs 6 == 1, ps, v0, v1, v2, v3⟩ = false) :
    Calls Try.prog 8 #[.slice ao n cap] w (ReadR zs w) := by
  have hst := fun (ad : Addr) (re im : Nat) (W : World) => run_store Try.prog W ad (.complex .f64 re im) .plain rfl
  have hr0 := hrd.alloc (msO mgZ none 0 0)
  have hM0 := MgAt.new w mgZ none 0 0
  have HB : Hid (∀ z ∈ zs, 0 ≤ z ∧ z < 256) := hb
  have HBD : Hid (∀ z ∈ zs.drop 24, 0 ≤ z ∧ z < 256) := fun z hz => hb z (List.mem_of_mem_drop hz)
  have HDL : Hid ((zs.drop 24).length = n - 24) := by simp [Hid, hn]
  have HQ : Hid (nAt zs 7 = (q : Int)) := hq
  have HPa : Hid (parse zs = match takeP q (zs.drop 24) with
    | none => none
    | some (ps, r) =>
      if nAt zs 0 = 5 then match takeV 4 r with
        | none => none
        | some (v, s) => fin (withV (mg0 zs ps) v) s
      else fin (mg0 zs ps) r) := by
    have e7 : ¬ 24 < nAt zs 7 := by omega
    rw [Hid, parse, if_neg (by omega), if_neg (by rw [hf]; simp), if_neg e7, hq]; rfl
  clear hb hrd hq
  have HT : Hid (takeP q (zs.drop 24) = some (ps, r)) := hT
  have HPL : Hid (ps.length = q) := (takeP_some q HBD.out hT).2.1
  rw [hT] at HPa
  have hk5 : (nAt zs 0 == 5) = true := by simpa using hk
  have HBr : Hid (∀ z ∈ r, 0 ≤ z ∧ z < 256) := (takeP_some q HBD.out hT).2.2.2
  have HLe : Hid (r.length ≤ n) := by
    have e := congrArg List.length (takeP_some q HBD.out hT).1
    rw [List.length_append, List.length_drop] at e
    show r.length ≤ n
    omega
  have HV : Hid _ := hV
  have HPb : Hid (parse zs = fin ⟨nAt zs 0, nAt zs 1, nAt zs 2, nAt zs 3, nAt zs 4, nAt zs 5, nAt zs 6 == 1, ps, v0, v1, v2, v3⟩ s) := by rw [Hid, HPa.out]; simp only [if_pos hk, hV]; rfl
  clear hT hk HPa hV
  have HLs : Hid (s.length = 0) := hr
  have HPn : Hid (parse zs = none) := by rw [Hid, HPb.out, fin, if_neg (fun h => by rw [hR] at h; exact absurd h.2 (by simp))]
  clear hr
  go_enter Try.func8, Try.ntmps8
  go_upto_region 4 with (first
    | (go_at_call 22; refine (get_eight _ _ _ (n - 24) zs _ hr0 hn HB.out h24 rfl hlen).mono ?_; rintro x w1 ⟨b, f, c1, a2, c2, rfl, hbl, p0, p1, p2, p3, p4, p5, p6, p7, ho, hb1⟩; rw [HQ.out] at p7; have s7 : (w1.alloc (.cells #[.int .i64 (nAt zs 0), .int .i64 (nAt zs 1), .int .i64 (nAt zs 2), .int .i64 (nAt zs 3), .int .i64 (nAt zs 4), .int .i64 (nAt zs 5), .bool (nAt zs 6 == 1), .slice none 0 0, .complex .f64 0 0, .complex .f64 0 0, .complex .f64 0 0, .complex .f64 0 0] 30)).drew.cell? ⟨b, f + 7, none⟩ = some (.int .i64 (q : Int)) := ((below_box w1 (.cells #[.int .i64 (nAt zs 0), .int .i64 (nAt zs 1), .int .i64 (nAt zs 2), .int .i64 (nAt zs 3), .int .i64 (nAt zs 4), .int .i64 (nAt zs 5), .bool (nAt zs 6 == 1), .slice none 0 0, .complex .f64 0 0, .complex .f64 0 0, .complex .f64 0 0, .complex .f64 0 0] 30)).cell (p := ⟨b, f + 7, none⟩) hbl.2).trans p7; have HMZ : Hid (MgAt (w1.alloc (.cells #[.int .i64 (nAt zs 0), .int .i64 (nAt zs 1), .int .i64 (nAt zs 2), .int .i64 (nAt zs 3), .int .i64 (nAt zs 4), .int .i64 (nAt zs 5), .bool (nAt zs 6 == 1), .slice none 0 0, .complex .f64 0 0, .complex .f64 0 0, .complex .f64 0 0, .complex .f64 0 0] 30)).drew w.heap.size mgZ none 0 0) := ((hM0.below hb1).below (below_box w1 (.cells #[.int .i64 (nAt zs 0), .int .i64 (nAt zs 1), .int .i64 (nAt zs 2), .int .i64 (nAt zs 3), .int .i64 (nAt zs 4), .int .i64 (nAt zs 5), .bool (nAt zs 6 == 1), .slice none 0 0, .complex .f64 0 0, .complex .f64 0 0, .complex .f64 0 0, .complex .f64 0 0] 30))).below (Below.refl _ _).drew; have HM : Hid (MgAt (w1.alloc (.cells #[.int .i64 (nAt zs 0), .int .i64 (nAt zs 1), .int .i64 (nAt zs 2), .int .i64 (nAt zs 3), .int .i64 (nAt zs 4), .int .i64 (nAt zs 5), .bool (nAt zs 6 == 1), .slice none 0 0, .complex .f64 0 0, .complex .f64 0 0, .complex .f64 0 0, .complex .f64 0 0] 30)).drew w1.heap.size (mg0 zs []) none 0 0) := (MgAt.new w1 (mg0 zs []) none 0 0).below (Below.refl _ _).drew; have HB1 : Hid (Below w.heap.size w (w1.alloc (.cells #[.int .i64 (nAt zs 0), .int .i64 (nAt zs 1), .int .i64 (nAt zs 2), .int .i64 (nAt zs 3), .int .i64 (nAt zs 4), .int .i64 (nAt zs 5), .bool (nAt zs 6 == 1), .slice none 0 0, .complex .f64 0 0, .complex .f64 0 0, .complex .f64 0 0, .complex .f64 0 0] 30)).drew) := (below_step (below_alloc (hb1.mono (by simp))) (below_box _ _)).drew; have HG : Hid (w.heap.size < w1.heap.size) := (hM0.below hb1).lt; have HO : Hid (RdI (w1.alloc (.cells #[.int .i64 (nAt zs 0), .int .i64 (nAt zs 1), .int .i64 (nAt zs 2), .int .i64 (nAt zs 3), .int .i64 (nAt zs 4), .int .i64 (nAt zs 5), .bool (nAt zs 6 == 1), .slice none 0 0, .complex .f64 0 0, .complex .f64 0 0, .complex .f64 0 0, .complex .f64 0 0] 30)).drew .u8 a2 c2 (zs.drop 24)) := (ho.rd.alloc _).drew; have HOB : Hid (∀ y, a2 = some y → y.block < w1.heap.size) := fun y hy => (ho.blk y hy).2; clear hb1 ho)
    | (go_at_call 23; refine (isFlag_any _ _).mono ?_; rw [hf]; rintro x w0 ⟨rfl, hw⟩; subst w0)
    | (fail))
  have HS : Hid (∀ W, Below w1.heap.size w1 W → (W.cell? ⟨b, f, none⟩ = some (.int .i64 (nAt zs 0)) ∧ W.cell? ⟨b, f + 1, none⟩ = some (.int .i64 (nAt zs 1)) ∧ W.cell? ⟨b, f + 2, none⟩ = some (.int .i64 (nAt zs 2)) ∧ W.cell? ⟨b, f + 3, none⟩ = some (.int .i64 (nAt zs 3)) ∧ W.cell? ⟨b, f + 4, none⟩ = some (.int .i64 (nAt zs 4)) ∧ W.cell? ⟨b, f + 5, none⟩ = some (.int .i64 (nAt zs 5)) ∧ W.cell? ⟨b, f + 6, none⟩ = some (.int .i64 (nAt zs 6)))) := fun W hW => ⟨(hW.cell (p := ⟨b, f, none⟩) hbl.2).trans p0, (hW.cell (p := ⟨b, f + 1, none⟩) hbl.2).trans p1, (hW.cell (p := ⟨b, f + 2, none⟩) hbl.2).trans p2, (hW.cell (p := ⟨b, f + 3, none⟩) hbl.2).trans p3, (hW.cell (p := ⟨b, f + 4, none⟩) hbl.2).trans p4, (hW.cell (p := ⟨b, f + 5, none⟩) hbl.2).trans p5, (hW.cell (p := ⟨b, f + 6, none⟩) hbl.2).trans p6⟩
  clear p0 p1 p2 p3 p4 p5 p6 p7
  first
    | go_region_held (fun W => W.cell? ⟨b, f, none⟩ = some (.int .i64 (nAt zs 0)) ∧ W.cell? ⟨b, f + 1, none⟩ = some (.int .i64 (nAt zs 1)) ∧ W.cell? ⟨b, f + 2, none⟩ = some (.int .i64 (nAt zs 2)) ∧ W.cell? ⟨b, f + 3, none⟩ = some (.int .i64 (nAt zs 3)) ∧ W.cell? ⟨b, f + 4, none⟩ = some (.int .i64 (nAt zs 4)) ∧ W.cell? ⟨b, f + 5, none⟩ = some (.int .i64 (nAt zs 5)) ∧ W.cell? ⟨b, f + 6, none⟩ = some (.int .i64 (nAt zs 6)))
      (first | exact HS.out _ (Below.refl _ _) | exact HS.out _ (Below.refl _ _).drew | exact HS.out _ ((Below.refl _ _).drew.alloc (Nat.le_refl _) _) | exact HS.out _ ((Below.refl _ _).alloc (Nat.le_refl _) _).drew | fail)
      (fail)
    | fail
  clear HS hbl
  generalize (w1.alloc (.cells #[.int .i64 (nAt zs 0), .int .i64 (nAt zs 1), .int .i64 (nAt zs 2), .int .i64 (nAt zs 3), .int .i64 (nAt zs 4), .int .i64 (nAt zs 5), .bool (nAt zs 6 == 1), .slice none 0 0, .complex .f64 0 0, .complex .f64 0 0, .complex .f64 0 0, .complex .f64 0 0] 30)).drew = W1 at *
  generalize w1.heap.size = g at *
  have hgW : g < W1.heap.size := HM.out.lt
  go_wp2_with (first
    | (go_at_call 16; refine (right_any ⟨nAt zs 0, nAt zs 1, nAt zs 2, nAt zs 3, nAt zs 4, nAt zs 5, nAt zs 6 == 1, ps, v0, v1, v2, v3⟩ a q c _ HRP.out (by omega)).mono ?_; rw [hR]; rintro x w4 ⟨rfl, hb4⟩; have tM4 := TM6.out.below hb4; have tZ4 := TZ6.out.below hb4; clear q0 q1 q2 q3 q4 q5 q6 q7 q8 q9 q10 q11 z0 z1 z2 z3 z4 z5 z6 z7 z8 z9 z10 z11 y yz; have q0 : w4.cell? ⟨g, 0, none⟩ = some (.int .i64 (nAt zs 0)) := tM4.c0; have q1 : w4.cell? ⟨g, 1, none⟩ = some (.int .i64 (nAt zs 1)) := tM4.c1; have q2 : w4.cell? ⟨g, 2, none⟩ = some (.int .i64 (nAt zs 2)) := tM4.c2; have q3 : w4.cell? ⟨g, 3, none⟩ = some (.int .i64 (nAt zs 3)) := tM4.c3; have q4 : w4.cell? ⟨g, 4, none⟩ = some (.int .i64 (nAt zs 4)) := tM4.c4; have q5 : w4.cell? ⟨g, 5, none⟩ = some (.int .i64 (nAt zs 5)) := tM4.c5; have q6 : w4.cell? ⟨g, 6, none⟩ = some (.bool (nAt zs 6 == 1)) := tM4.c6; have q7 : w4.cell? ⟨g, 7, none⟩ = some (.slice a q c) := tM4.c7; have q8 : w4.cell? ⟨g, 8, none⟩ = some (.complex .f64 v0.1 v0.2) := tM4.c8; have q9 : w4.cell? ⟨g, 9, none⟩ = some (.complex .f64 v1.1 v1.2) := tM4.c9; have q10 : w4.cell? ⟨g, 10, none⟩ = some (.complex .f64 v2.1 v2.2) := tM4.cA; have q11 : w4.cell? ⟨g, 11, none⟩ = some (.complex .f64 v3.1 v3.2) := tM4.cB; have y := tM4.fz; have z0 : w4.cell? ⟨w.heap.size, 0, none⟩ = some (.int .i64 0) := tZ4.c0; have z1 : w4.cell? ⟨w.heap.size, 1, none⟩ = some (.int .i64 0) := tZ4.c1; have z2 : w4.cell? ⟨w.heap.size, 2, none⟩ = some (.int .i64 0) := tZ4.c2; have z3 : w4.cell? ⟨w.heap.size, 3, none⟩ = some (.int .i64 0) := tZ4.c3; have z4 : w4.cell? ⟨w.heap.size, 4, none⟩ = some (.int .i64 0) := tZ4.c4; have z5 : w4.cell? ⟨w.heap.size, 5, none⟩ = some (.int .i64 0) := tZ4.c5; have z6 : w4.cell? ⟨w.heap.size, 6, none⟩ = some (.bool false) := tZ4.c6; have z7 : w4.cell? ⟨w.heap.size, 7, none⟩ = some (.slice none 0 0) := tZ4.c7; have z8 : w4.cell? ⟨w.heap.size, 8, none⟩ = some (.complex .f64 0 0) := tZ4.c8; have z9 : w4.cell? ⟨w.heap.size, 9, none⟩ = some (.complex .f64 0 0) := tZ4.c9; have z10 : w4.cell? ⟨w.heap.size, 10, none⟩ = some (.complex .f64 0 0) := tZ4.cA; have z11 : w4.cell? ⟨w.heap.size, 11, none⟩ = some (.complex .f64 0 0) := tZ4.cB; have yz := tZ4.fz; have hB4 : Below w.heap.size w w4 := below_step HB6.out hb4; clear tM4 tZ4)
    | (go_at_call 25; refine (takeValues_any a3 c3 r.length r _ HRL3.out rfl HBr.out (by have := HLe.out; omega)).mono ?_; intro x w5 hV; have hV2 : ∃ (a' : Option Addr) (c' : Nat), x = .returned (.tuple #[v4V v0 v1 v2 v3, .slice a' 0 c', .int .i64 0]) ∧ Below (w2.setCell ⟨g, 7, none⟩ (.slice a q c)).heap.size (w2.setCell ⟨g, 7, none⟩ (.slice a q c)) w5 := (by rcases hV with ⟨e, -⟩ | ⟨u0, u1, u2, u3, r', a', c', e, h1, h2⟩; (rw [HV.out] at e; cases e); (rw [HV.out] at e; cases e; exact ⟨a', c', by rw [← HLs.out]; exact h1, h2⟩)); obtain ⟨a', c', rfl, hb5⟩ := hV2; have tM5 := TM3.out.below hb5; have tZ5 := TZ3.out.below hb5; clear q0 q1 q2 q3 q4 q5 q6 q7 q8 q9 q10 q11 z0 z1 z2 z3 z4 z5 z6 z7 z8 z9 z10 z11 y yz; have q0 : w5.cell? ⟨g, 0, none⟩ = some (.int .i64 (nAt zs 0)) := tM5.c0; have q1 : w5.cell? ⟨g, 1, none⟩ = some (.int .i64 (nAt zs 1)) := tM5.c1; have q2 : w5.cell? ⟨g, 2, none⟩ = some (.int .i64 (nAt zs 2)) := tM5.c2; have q3 : w5.cell? ⟨g, 3, none⟩ = some (.int .i64 (nAt zs 3)) := tM5.c3; have q4 : w5.cell? ⟨g, 4, none⟩ = some (.int .i64 (nAt zs 4)) := tM5.c4; have q5 : w5.cell? ⟨g, 5, none⟩ = some (.int .i64 (nAt zs 5)) := tM5.c5; have q6 : w5.cell? ⟨g, 6, none⟩ = some (.bool (nAt zs 6 == 1)) := tM5.c6; have q7 : w5.cell? ⟨g, 7, none⟩ = some (.slice a q c) := tM5.c7; have q8 : w5.cell? ⟨g, 8, none⟩ = some (.complex .f64 0 0) := tM5.c8; have q9 : w5.cell? ⟨g, 9, none⟩ = some (.complex .f64 0 0) := tM5.c9; have q10 : w5.cell? ⟨g, 10, none⟩ = some (.complex .f64 0 0) := tM5.cA; have q11 : w5.cell? ⟨g, 11, none⟩ = some (.complex .f64 0 0) := tM5.cB; have y := tM5.fz; have z0 : w5.cell? ⟨w.heap.size, 0, none⟩ = some (.int .i64 0) := tZ5.c0; have z1 : w5.cell? ⟨w.heap.size, 1, none⟩ = some (.int .i64 0) := tZ5.c1; have z2 : w5.cell? ⟨w.heap.size, 2, none⟩ = some (.int .i64 0) := tZ5.c2; have z3 : w5.cell? ⟨w.heap.size, 3, none⟩ = some (.int .i64 0) := tZ5.c3; have z4 : w5.cell? ⟨w.heap.size, 4, none⟩ = some (.int .i64 0) := tZ5.c4; have z5 : w5.cell? ⟨w.heap.size, 5, none⟩ = some (.int .i64 0) := tZ5.c5; have z6 : w5.cell? ⟨w.heap.size, 6, none⟩ = some (.bool false) := tZ5.c6; have z7 : w5.cell? ⟨w.heap.size, 7, none⟩ = some (.slice none 0 0) := tZ5.c7; have z8 : w5.cell? ⟨w.heap.size, 8, none⟩ = some (.complex .f64 0 0) := tZ5.c8; have z9 : w5.cell? ⟨w.heap.size, 9, none⟩ = some (.complex .f64 0 0) := tZ5.c9; have z10 : w5.cell? ⟨w.heap.size, 10, none⟩ = some (.complex .f64 0 0) := tZ5.cA; have z11 : w5.cell? ⟨w.heap.size, 11, none⟩ = some (.complex .f64 0 0) := tZ5.cB; have yz := tZ5.fz; have hB5 : Below w.heap.size w w5 := below_step HB3.out hb5; have HTM5 : Hid (MgAt w5 g (mg0 zs ps) a q c) := tM5; have HTZ5 : Hid (MgAt w5 w.heap.size mgZ none 0 0) := tZ5; have HOP5 : Hid (OwnR w5 W1.heap.size a c ps) := HOP3.out.below hb5; clear tM5 tZ5 hV; have HRP : Hid (RdP (put4 w5 g v0 v1 v2 v3) a q c ps) := (HOP5.out.off (fun j hj => by simp only [put4, Below.heap_setCell _ _ _ _ (show j ≠ (⟨g, _, none⟩ : Addr).block by show j ≠ g; omega)])).rdn HPL.out; have HOP6 : Hid (OwnR (put4 w5 g v0 v1 v2 v3) W1.heap.size a c ps) := HOP5.out.off (fun j hj => by simp only [put4, Below.heap_setCell _ _ _ _ (show j ≠ (⟨g, _, none⟩ : Addr).block by show j ≠ g; omega)]); have TM6 : Hid (MgAt (put4 w5 g v0 v1 v2 v3) g ⟨nAt zs 0, nAt zs 1, nAt zs 2, nAt zs 3, nAt zs 4, nAt zs 5, nAt zs 6 == 1, ps, v0, v1, v2, v3⟩ a q c) := HTM5.out.put4 v0 v1 v2 v3; have TZ6 : Hid (MgAt (put4 w5 g v0 v1 v2 v3) w.heap.size mgZ none 0 0) := (((HTZ5.out.other _ _ (by simp; omega)).other _ _ (by simp; omega)).other _ _ (by simp; omega)).other _ _ (by simp; omega); have HB6 : Hid (Below w.heap.size w (put4 w5 g v0 v1 v2 v3)) := (((hB5.setCell (Nat.le_of_lt HG.out) _).setCell (Nat.le_of_lt HG.out) _).setCell (Nat.le_of_lt HG.out) _).setCell (Nat.le_of_lt HG.out) _)
    | (go_at_call 24; refine (takePuts_any a2 c2 (n - 24) q (zs.drop 24) W1 HO.out HDL.out HBD.out (by omega) (by omega)).mono ?_; intro x w2 hP; have hP2 : ∃ a c a3 c3, x = .returned (.tuple #[.slice a q c, .slice a3 r.length c3, .int .i64 0]) ∧ OwnR w2 W1.heap.size a c ps ∧ RdI w2 .u8 a3 c3 r ∧ Src W1 a2 a3 ∧ Below W1.heap.size W1 w2 := (by rcases hP with ⟨e, -⟩ | ⟨ps', r', a, c, a3, c3, e, h1, h2, h3, h4, h5⟩; (rw [HT.out] at e; cases e); (rw [HT.out] at e; cases e; exact ⟨a, c, a3, c3, h1, h2, h3, h4, h5⟩)); obtain ⟨a, c, a3, c3, rfl, hoP, hrL, hsrc, hb2⟩ := hP2; have tM := HM.out.below hb2; have tZ := HMZ.out.below hb2; have q0 : w2.cell? ⟨g, 0, none⟩ = some (.int .i64 (nAt zs 0)) := tM.c0; have q1 : w2.cell? ⟨g, 1, none⟩ = some (.int .i64 (nAt zs 1)) := tM.c1; have q2 : w2.cell? ⟨g, 2, none⟩ = some (.int .i64 (nAt zs 2)) := tM.c2; have q3 : w2.cell? ⟨g, 3, none⟩ = some (.int .i64 (nAt zs 3)) := tM.c3; have q4 : w2.cell? ⟨g, 4, none⟩ = some (.int .i64 (nAt zs 4)) := tM.c4; have q5 : w2.cell? ⟨g, 5, none⟩ = some (.int .i64 (nAt zs 5)) := tM.c5; have q6 : w2.cell? ⟨g, 6, none⟩ = some (.bool (nAt zs 6 == 1)) := tM.c6; have q7 : w2.cell? ⟨g, 7, none⟩ = some (.slice none 0 0) := tM.c7; have q8 : w2.cell? ⟨g, 8, none⟩ = some (.complex .f64 0 0) := tM.c8; have q9 : w2.cell? ⟨g, 9, none⟩ = some (.complex .f64 0 0) := tM.c9; have q10 : w2.cell? ⟨g, 10, none⟩ = some (.complex .f64 0 0) := tM.cA; have q11 : w2.cell? ⟨g, 11, none⟩ = some (.complex .f64 0 0) := tM.cB; have y := tM.fz; have z0 : w2.cell? ⟨w.heap.size, 0, none⟩ = some (.int .i64 0) := tZ.c0; have z1 : w2.cell? ⟨w.heap.size, 1, none⟩ = some (.int .i64 0) := tZ.c1; have z2 : w2.cell? ⟨w.heap.size, 2, none⟩ = some (.int .i64 0) := tZ.c2; have z3 : w2.cell? ⟨w.heap.size, 3, none⟩ = some (.int .i64 0) := tZ.c3; have z4 : w2.cell? ⟨w.heap.size, 4, none⟩ = some (.int .i64 0) := tZ.c4; have z5 : w2.cell? ⟨w.heap.size, 5, none⟩ = some (.int .i64 0) := tZ.c5; have z6 : w2.cell? ⟨w.heap.size, 6, none⟩ = some (.bool false) := tZ.c6; have z7 : w2.cell? ⟨w.heap.size, 7, none⟩ = some (.slice none 0 0) := tZ.c7; have z8 : w2.cell? ⟨w.heap.size, 8, none⟩ = some (.complex .f64 0 0) := tZ.c8; have z9 : w2.cell? ⟨w.heap.size, 9, none⟩ = some (.complex .f64 0 0) := tZ.c9; have z10 : w2.cell? ⟨w.heap.size, 10, none⟩ = some (.complex .f64 0 0) := tZ.cA; have z11 : w2.cell? ⟨w.heap.size, 11, none⟩ = some (.complex .f64 0 0) := tZ.cB; have yz := tZ.fz; have hB2 : Below w.heap.size w w2 := below_step HB1.out hb2; have hgn : g ≠ w.heap.size := (by have := HG.out; omega); have HTM : Hid (MgAt w2 g (mg0 zs []) none 0 0) := tM; have HTZ : Hid (MgAt w2 w.heap.size mgZ none 0 0) := tZ; have HRL : Hid (RdI w2 .u8 a3 c3 r) := hrL; have HSR : Hid (Src W1 a2 a3) := hsrc; have HOP : Hid (OwnR w2 W1.heap.size a c ps) := hoP; clear tM tZ hP hrL hsrc hoP; have HRL3 : Hid (RdI (w2.setCell ⟨g, 7, none⟩ (.slice a q c)) .u8 a3 c3 r) := RdI.put HRL.out ⟨g, 7, none⟩ (.slice a q c) (fun y _ hy _ => (by rcases HSR.out with e | e; (rw [e] at hy; have := HOB.out y hy; show y.block ≠ g; omega); (have := e y hy; show y.block ≠ g; omega))); have HOP3 : Hid (OwnR (w2.setCell ⟨g, 7, none⟩ (.slice a q c)) W1.heap.size a c ps) := HOP.out.off (fun j hj => Below.heap_setCell _ _ _ _ (show j ≠ g by omega)); have TM3 : Hid (MgAt (w2.setCell ⟨g, 7, none⟩ (.slice a q c)) g (mg0 zs ps) a q c) := HTM.out.put7 a q c ps; have TZ3 : Hid (MgAt (w2.setCell ⟨g, 7, none⟩ (.slice a q c)) w.heap.size mgZ none 0 0) := HTZ.out.other _ _ (by simp; omega); have HB3 : Hid (Below w.heap.size w (w2.setCell ⟨g, 7, none⟩ (.slice a q c))) := hB2.setCell (Nat.le_of_lt HG.out) _)
    | (fail))
  refine bodyPost_ret (by simp [results, Try.results8, go_sem, z0, z1, z2, z3, z4, z5, z6, z7, z8, z9, z10, z11]; try rfl) rfl ?_
  have le := Nat.le_refl w.heap.size
  exact readR_none HPn.out rfl ((((((((((((hB4.setCell le _).setCell le _).setCell le _).setCell le _).setCell le _).setCell le _).setCell le _).setCell le _).setCell le _).setCell le _).setCell le _).setCell le _)

end Go.Proofs.Ytgeoeaadeemmcaa

namespace Go.Proofs.Ytgeoeaadeemmcaa
open Go.RowKit
set_option linter.unusedVariables false

set_option maxHeartbeats 1600000 in
set_option maxRecDepth 100000 in
theorem read_F3t (ao : Option Addr) (cap n q : Nat) (zs : List Int) (w : World) (hrd : RdI w .u8 ao cap zs) (hn : zs.length = n) (hb : ∀ z ∈ zs, 0 ≤ z ∧ z < 256) (h24 : 24 ≤ n) (hlen : n ≤ 140737488355328) (hf : isFlg (nAt zs 6) = true) (hq : nAt zs 7 = (q : Int)) (h7 : (q : Int) ≤ 24) (ps : List PutG) (r : List Int) (hT : takeP q (zs.drop 24) = some (ps, r)) (hk : nAt zs 0 = 5) (v0 v1 v2 v3 : Nat × Nat) (s : List Int) (hV : takeV 4 r = some ([v0, v1, v2, v3], s)) (hr : s.length = 0) (hR : rightB ⟨nAt zs 0, nAt zs 1, nAt zs 2, nAt zs 3, nAt zs 4, nAt zs 5, nAt zs 6 == 1, ps, v0, v1, v2, v3⟩ = true) :
    Calls Try.prog 8 #[.slice ao n cap] w (ReadR zs w) := by
  have hst := fun (ad : Addr) (re im : Nat) (W : World) => run_store Try.prog W ad (.complex .f64 re im) .plain rfl
  have hr0 := hrd.alloc (msO mgZ none 0 0)
  have hM0 := MgAt.new w mgZ none 0 0
  have HB : Hid (∀ z ∈ zs, 0 ≤ z ∧ z < 256) := hb
  have HBD : Hid (∀ z ∈ zs.drop 24, 0 ≤ z ∧ z < 256) := fun z hz => hb z (List.mem_of_mem_drop hz)
  have HDL : Hid ((zs.drop 24).length = n - 24) := by simp [Hid, hn]
  have HQ : Hid (nAt zs 7 = (q : Int)) := hq
  have HPa : Hid (parse zs = match takeP q (zs.drop 24) with
    | none => none
    | some (ps, r) =>
      if nAt zs 0 = 5 then match takeV 4 r with
        | none => none
        | some (v, s) => fin (withV (mg0 zs ps) v) s
      else fin (mg0 zs ps) r) := by
    have e7 : ¬ 24 < nAt zs 7 := by omega
    rw [Hid, parse, if_neg (by omega), if_neg (by rw [hf]; simp), if_neg e7, hq]; rfl
  clear hb hrd hq
  have HT : Hid (takeP q (zs.drop 24) = some (ps, r)) := hT
  have HPL : Hid (ps.length = q) := (takeP_some q HBD.out hT).2.1
  rw [hT] at HPa
  have hk5 : (nAt zs 0 == 5) = true := by simpa using hk
  have HBr : Hid (∀ z ∈ r, 0 ≤ z ∧ z < 256) := (takeP_some q HBD.out hT).2.2.2
  have HLe : Hid (r.length ≤ n) := by
    have e := congrArg List.length (takeP_some q HBD.out hT).1
    rw [List.length_append, List.length_drop] at e
    show r.length ≤ n
    omega
  have HV : Hid _ := hV
  have HPb : Hid (parse zs = fin ⟨nAt zs 0, nAt zs 1, nAt zs 2, nAt zs 3, nAt zs 4, nAt zs 5, nAt zs 6 == 1, ps, v0, v1, v2, v3⟩ s) := by rw [Hid, HPa.out]; simp only [if_pos hk, hV]; rfl
  clear hT hk HPa hV
  have HLs : Hid (s.length = 0) := hr
  have HPn : Hid (parse zs = some ⟨nAt zs 0, nAt zs 1, nAt zs 2, nAt zs 3, nAt zs 4, nAt zs 5, nAt zs 6 == 1, ps, v0, v1, v2, v3⟩) := by rw [Hid, HPb.out, fin, if_pos ⟨hr, hR⟩]
  clear hr
  go_enter Try.func8, Try.ntmps8
  go_upto_region 4 with (first
    | (go_at_call 22; refine (get_eight _ _ _ (n - 24) zs _ hr0 hn HB.out h24 rfl hlen).mono ?_; rintro x w1 ⟨b, f, c1, a2, c2, rfl, hbl, p0, p1, p2, p3, p4, p5, p6, p7, ho, hb1⟩; rw [HQ.out] at p7; have s7 : (w1.alloc (.cells #[.int .i64 (nAt zs 0), .int .i64 (nAt zs 1), .int .i64 (nAt zs 2), .int .i64 (nAt zs 3), .int .i64 (nAt zs 4), .int .i64 (nAt zs 5), .bool (nAt zs 6 == 1), .slice none 0 0, .complex .f64 0 0, .complex .f64 0 0, .complex .f64 0 0, .complex .f64 0 0] 30)).drew.cell? ⟨b, f + 7, none⟩ = some (.int .i64 (q : Int)) := ((below_box w1 (.cells #[.int .i64 (nAt zs 0), .int .i64 (nAt zs 1), .int .i64 (nAt zs 2), .int .i64 (nAt zs 3), .int .i64 (nAt zs 4), .int .i64 (nAt zs 5), .bool (nAt zs 6 == 1), .slice none 0 0, .complex .f64 0 0, .complex .f64 0 0, .complex .f64 0 0, .complex .f64 0 0] 30)).cell (p := ⟨b, f + 7, none⟩) hbl.2).trans p7; have HMZ : Hid (MgAt (w1.alloc (.cells #[.int .i64 (nAt zs 0), .int .i64 (nAt zs 1), .int .i64 (nAt zs 2), .int .i64 (nAt zs 3), .int .i64 (nAt zs 4), .int .i64 (nAt zs 5), .bool (nAt zs 6 == 1), .slice none 0 0, .complex .f64 0 0, .complex .f64 0 0, .complex .f64 0 0, .complex .f64 0 0] 30)).drew w.heap.size mgZ none 0 0) := ((hM0.below hb1).below (below_box w1 (.cells #[.int .i64 (nAt zs 0), .int .i64 (nAt zs 1), .int .i64 (nAt zs 2), .int .i64 (nAt zs 3), .int .i64 (nAt zs 4), .int .i64 (nAt zs 5), .bool (nAt zs 6 == 1), .slice none 0 0, .complex .f64 0 0, .complex .f64 0 0, .complex .f64 0 0, .complex .f64 0 0] 30))).below (Below.refl _ _).drew; have HM : Hid (MgAt (w1.alloc (.cells #[.int .i64 (nAt zs 0), .int .i64 (nAt zs 1), .int .i64 (nAt zs 2), .int .i64 (nAt zs 3), .int .i64 (nAt zs 4), .int .i64 (nAt zs 5), .bool (nAt zs 6 == 1), .slice none 0 0, .complex .f64 0 0, .complex .f64 0 0, .complex .f64 0 0, .complex .f64 0 0] 30)).drew w1.heap.size (mg0 zs []) none 0 0) := (MgAt.new w1 (mg0 zs []) none 0 0).below (Below.refl _ _).drew; have HB1 : Hid (Below w.heap.size w (w1.alloc (.cells #[.int .i64 (nAt zs 0), .int .i64 (nAt zs 1), .int .i64 (nAt zs 2), .int .i64 (nAt zs 3), .int .i64 (nAt zs 4), .int .i64 (nAt zs 5), .bool (nAt zs 6 == 1), .slice none 0 0, .complex .f64 0 0, .complex .f64 0 0, .complex .f64 0 0, .complex .f64 0 0] 30)).drew) := (below_step (below_alloc (hb1.mono (by simp))) (below_box _ _)).drew; have HG : Hid (w.heap.size < w1.heap.size) := (hM0.below hb1).lt; have HO : Hid (RdI (w1.alloc (.cells #[.int .i64 (nAt zs 0), .int .i64 (nAt zs 1), .int .i64 (nAt zs 2), .int .i64 (nAt zs 3), .int .i64 (nAt zs 4), .int .i64 (nAt zs 5), .bool (nAt zs 6 == 1), .slice none 0 0, .complex .f64 0 0, .complex .f64 0 0, .complex .f64 0 0, .complex .f64 0 0] 30)).drew .u8 a2 c2 (zs.drop 24)) := (ho.rd.alloc _).drew; have HOB : Hid (∀ y, a2 = some y → y.block < w1.heap.size) := fun y hy => (ho.blk y hy).2; clear hb1 ho)
    | (go_at_call 23; refine (isFlag_any _ _).mono ?_; rw [hf]; rintro x w0 ⟨rfl, hw⟩; subst w0)
    | (fail))
  have HS : Hid (∀ W, Below w1.heap.size w1 W → (W.cell? ⟨b, f, none⟩ = some (.int .i64 (nAt zs 0)) ∧ W.cell? ⟨b, f + 1, none⟩ = some (.int .i64 (nAt zs 1)) ∧ W.cell? ⟨b, f + 2, none⟩ = some (.int .i64 (nAt zs 2)) ∧ W.cell? ⟨b, f + 3, none⟩ = some (.int .i64 (nAt zs 3)) ∧ W.cell? ⟨b, f + 4, none⟩ = some (.int .i64 (nAt zs 4)) ∧ W.cell? ⟨b, f + 5, none⟩ = some (.int .i64 (nAt zs 5)) ∧ W.cell? ⟨b, f + 6, none⟩ = some (.int .i64 (nAt zs 6)))) := fun W hW => ⟨(hW.cell (p := ⟨b, f, none⟩) hbl.2).trans p0, (hW.cell (p := ⟨b, f + 1, none⟩) hbl.2).trans p1, (hW.cell (p := ⟨b, f + 2, none⟩) hbl.2).trans p2, (hW.cell (p := ⟨b, f + 3, none⟩) hbl.2).trans p3, (hW.cell (p := ⟨b, f + 4, none⟩) hbl.2).trans p4, (hW.cell (p := ⟨b, f + 5, none⟩) hbl.2).trans p5, (hW.cell (p := ⟨b, f + 6, none⟩) hbl.2).trans p6⟩
  clear p0 p1 p2 p3 p4 p5 p6 p7
  first
    | go_region_held (fun W => W.cell? ⟨b, f, none⟩ = some (.int .i64 (nAt zs 0)) ∧ W.cell? ⟨b, f + 1, none⟩ = some (.int .i64 (nAt zs 1)) ∧ W.cell? ⟨b, f + 2, none⟩ = some (.int .i64 (nAt zs 2)) ∧ W.cell? ⟨b, f + 3, none⟩ = some (.int .i64 (nAt zs 3)) ∧ W.cell? ⟨b, f + 4, none⟩ = some (.int .i64 (nAt zs 4)) ∧ W.cell? ⟨b, f + 5, none⟩ = some (.int .i64 (nAt zs 5)) ∧ W.cell? ⟨b, f + 6, none⟩ = some (.int .i64 (nAt zs 6)))
      (first | exact HS.out _ (Below.refl _ _) | exact HS.out _ (Below.refl _ _).drew | exact HS.out _ ((Below.refl _ _).drew.alloc (Nat.le_refl _) _) | exact HS.out _ ((Below.refl _ _).alloc (Nat.le_refl _) _).drew | fail)
      (fail)
    | fail
  clear HS hbl
  generalize (w1.alloc (.cells #[.int .i64 (nAt zs 0), .int .i64 (nAt zs 1), .int .i64 (nAt zs 2), .int .i64 (nAt zs 3), .int .i64 (nAt zs 4), .int .i64 (nAt zs 5), .bool (nAt zs 6 == 1), .slice none 0 0, .complex .f64 0 0, .complex .f64 0 0, .complex .f64 0 0, .complex .f64 0 0] 30)).drew = W1 at *
  generalize w1.heap.size = g at *
  have hgW : g < W1.heap.size := HM.out.lt
  go_wp2_with (first
    | (go_at_call 16; refine (right_any ⟨nAt zs 0, nAt zs 1, nAt zs 2, nAt zs 3, nAt zs 4, nAt zs 5, nAt zs 6 == 1, ps, v0, v1, v2, v3⟩ a q c _ HRP.out (by omega)).mono ?_; rw [hR]; rintro x w4 ⟨rfl, hb4⟩; have tM4 := TM6.out.below hb4; have tZ4 := TZ6.out.below hb4; clear q0 q1 q2 q3 q4 q5 q6 q7 q8 q9 q10 q11 z0 z1 z2 z3 z4 z5 z6 z7 z8 z9 z10 z11 y yz; have q0 : w4.cell? ⟨g, 0, none⟩ = some (.int .i64 (nAt zs 0)) := tM4.c0; have q1 : w4.cell? ⟨g, 1, none⟩ = some (.int .i64 (nAt zs 1)) := tM4.c1; have q2 : w4.cell? ⟨g, 2, none⟩ = some (.int .i64 (nAt zs 2)) := tM4.c2; have q3 : w4.cell? ⟨g, 3, none⟩ = some (.int .i64 (nAt zs 3)) := tM4.c3; have q4 : w4.cell? ⟨g, 4, none⟩ = some (.int .i64 (nAt zs 4)) := tM4.c4; have q5 : w4.cell? ⟨g, 5, none⟩ = some (.int .i64 (nAt zs 5)) := tM4.c5; have q6 : w4.cell? ⟨g, 6, none⟩ = some (.bool (nAt zs 6 == 1)) := tM4.c6; have q7 : w4.cell? ⟨g, 7, none⟩ = some (.slice a q c) := tM4.c7; have q8 : w4.cell? ⟨g, 8, none⟩ = some (.complex .f64 v0.1 v0.2) := tM4.c8; have q9 : w4.cell? ⟨g, 9, none⟩ = some (.complex .f64 v1.1 v1.2) := tM4.c9; have q10 : w4.cell? ⟨g, 10, none⟩ = some (.complex .f64 v2.1 v2.2) := tM4.cA; have q11 : w4.cell? ⟨g, 11, none⟩ = some (.complex .f64 v3.1 v3.2) := tM4.cB; have y := tM4.fz; have z0 : w4.cell? ⟨w.heap.size, 0, none⟩ = some (.int .i64 0) := tZ4.c0; have z1 : w4.cell? ⟨w.heap.size, 1, none⟩ = some (.int .i64 0) := tZ4.c1; have z2 : w4.cell? ⟨w.heap.size, 2, none⟩ = some (.int .i64 0) := tZ4.c2; have z3 : w4.cell? ⟨w.heap.size, 3, none⟩ = some (.int .i64 0) := tZ4.c3; have z4 : w4.cell? ⟨w.heap.size, 4, none⟩ = some (.int .i64 0) := tZ4.c4; have z5 : w4.cell? ⟨w.heap.size, 5, none⟩ = some (.int .i64 0) := tZ4.c5; have z6 : w4.cell? ⟨w.heap.size, 6, none⟩ = some (.bool false) := tZ4.c6; have z7 : w4.cell? ⟨w.heap.size, 7, none⟩ = some (.slice none 0 0) := tZ4.c7; have z8 : w4.cell? ⟨w.heap.size, 8, none⟩ = some (.complex .f64 0 0) := tZ4.c8; have z9 : w4.cell? ⟨w.heap.size, 9, none⟩ = some (.complex .f64 0 0) := tZ4.c9; have z10 : w4.cell? ⟨w.heap.size, 10, none⟩ = some (.complex .f64 0 0) := tZ4.cA; have z11 : w4.cell? ⟨w.heap.size, 11, none⟩ = some (.complex .f64 0 0) := tZ4.cB; have yz := tZ4.fz; have hB4 : Below w.heap.size w w4 := below_step HB6.out hb4; clear tM4 tZ4)
    | (go_at_call 25; refine (takeValues_any a3 c3 r.length r _ HRL3.out rfl HBr.out (by have := HLe.out; omega)).mono ?_; intro x w5 hV; have hV2 : ∃ (a' : Option Addr) (c' : Nat), x = .returned (.tuple #[v4V v0 v1 v2 v3, .slice a' 0 c', .int .i64 0]) ∧ Below (w2.setCell ⟨g, 7, none⟩ (.slice a q c)).heap.size (w2.setCell ⟨g, 7, none⟩ (.slice a q c)) w5 := (by rcases hV with ⟨e, -⟩ | ⟨u0, u1, u2, u3, r', a', c', e, h1, h2⟩; (rw [HV.out] at e; cases e); (rw [HV.out] at e; cases e; exact ⟨a', c', by rw [← HLs.out]; exact h1, h2⟩)); obtain ⟨a', c', rfl, hb5⟩ := hV2; have tM5 := TM3.out.below hb5; have tZ5 := TZ3.out.below hb5; clear q0 q1 q2 q3 q4 q5 q6 q7 q8 q9 q10 q11 z0 z1 z2 z3 z4 z5 z6 z7 z8 z9 z10 z11 y yz; have q0 : w5.cell? ⟨g, 0, none⟩ = some (.int .i64 (nAt zs 0)) := tM5.c0; have q1 : w5.cell? ⟨g, 1, none⟩ = some (.int .i64 (nAt zs 1)) := tM5.c1; have q2 : w5.cell? ⟨g, 2, none⟩ = some (.int .i64 (nAt zs 2)) := tM5.c2; have q3 : w5.cell? ⟨g, 3, none⟩ = some (.int .i64 (nAt zs 3)) := tM5.c3; have q4 : w5.cell? ⟨g, 4, none⟩ = some (.int .i64 (nAt zs 4)) := tM5.c4; have q5 : w5.cell? ⟨g, 5, none⟩ = some (.int .i64 (nAt zs 5)) := tM5.c5; have q6 : w5.cell? ⟨g, 6, none⟩ = some (.bool (nAt zs 6 == 1)) := tM5.c6; have q7 : w5.cell? ⟨g, 7, none⟩ = some (.slice a q c) := tM5.c7; have q8 : w5.cell? ⟨g, 8, none⟩ = some (.complex .f64 0 0) := tM5.c8; have q9 : w5.cell? ⟨g, 9, none⟩ = some (.complex .f64 0 0) := tM5.c9; have q10 : w5.cell? ⟨g, 10, none⟩ = some (.complex .f64 0 0) := tM5.cA; have q11 : w5.cell? ⟨g, 11, none⟩ = some (.complex .f64 0 0) := tM5.cB; have y := tM5.fz; have z0 : w5.cell? ⟨w.heap.size, 0, none⟩ = some (.int .i64 0) := tZ5.c0; have z1 : w5.cell? ⟨w.heap.size, 1, none⟩ = some (.int .i64 0) := tZ5.c1; have z2 : w5.cell? ⟨w.heap.size, 2, none⟩ = some (.int .i64 0) := tZ5.c2; have z3 : w5.cell? ⟨w.heap.size, 3, none⟩ = some (.int .i64 0) := tZ5.c3; have z4 : w5.cell? ⟨w.heap.size, 4, none⟩ = some (.int .i64 0) := tZ5.c4; have z5 : w5.cell? ⟨w.heap.size, 5, none⟩ = some (.int .i64 0) := tZ5.c5; have z6 : w5.cell? ⟨w.heap.size, 6, none⟩ = some (.bool false) := tZ5.c6; have z7 : w5.cell? ⟨w.heap.size, 7, none⟩ = some (.slice none 0 0) := tZ5.c7; have z8 : w5.cell? ⟨w.heap.size, 8, none⟩ = some (.complex .f64 0 0) := tZ5.c8; have z9 : w5.cell? ⟨w.heap.size, 9, none⟩ = some (.complex .f64 0 0) := tZ5.c9; have z10 : w5.cell? ⟨w.heap.size, 10, none⟩ = some (.complex .f64 0 0) := tZ5.cA; have z11 : w5.cell? ⟨w.heap.size, 11, none⟩ = some (.complex .f64 0 0) := tZ5.cB; have yz := tZ5.fz; have hB5 : Below w.heap.size w w5 := below_step HB3.out hb5; have HTM5 : Hid (MgAt w5 g (mg0 zs ps) a q c) := tM5; have HTZ5 : Hid (MgAt w5 w.heap.size mgZ none 0 0) := tZ5; have HOP5 : Hid (OwnR w5 W1.heap.size a c ps) := HOP3.out.below hb5; clear tM5 tZ5 hV; have HRP : Hid (RdP (put4 w5 g v0 v1 v2 v3) a q c ps) := (HOP5.out.off (fun j hj => by simp only [put4, Below.heap_setCell _ _ _ _ (show j ≠ (⟨g, _, none⟩ : Addr).block by show j ≠ g; omega)])).rdn HPL.out; have HOP6 : Hid (OwnR (put4 w5 g v0 v1 v2 v3) W1.heap.size a c ps) := HOP5.out.off (fun j hj => by simp only [put4, Below.heap_setCell _ _ _ _ (show j ≠ (⟨g, _, none⟩ : Addr).block by show j ≠ g; omega)]); have TM6 : Hid (MgAt (put4 w5 g v0 v1 v2 v3) g ⟨nAt zs 0, nAt zs 1, nAt zs 2, nAt zs 3, nAt zs 4, nAt zs 5, nAt zs 6 == 1, ps, v0, v1, v2, v3⟩ a q c) := HTM5.out.put4 v0 v1 v2 v3; have TZ6 : Hid (MgAt (put4 w5 g v0 v1 v2 v3) w.heap.size mgZ none 0 0) := (((HTZ5.out.other _ _ (by simp; omega)).other _ _ (by simp; omega)).other _ _ (by simp; omega)).other _ _ (by simp; omega); have HB6 : Hid (Below w.heap.size w (put4 w5 g v0 v1 v2 v3)) := (((hB5.setCell (Nat.le_of_lt HG.out) _).setCell (Nat.le_of_lt HG.out) _).setCell (Nat.le_of_lt HG.out) _).setCell (Nat.le_of_lt HG.out) _)
    | (go_at_call 24; refine (takePuts_any a2 c2 (n - 24) q (zs.drop 24) W1 HO.out HDL.out HBD.out (by omega) (by omega)).mono ?_; intro x w2 hP; have hP2 : ∃ a c a3 c3, x = .returned (.tuple #[.slice a q c, .slice a3 r.length c3, .int .i64 0]) ∧ OwnR w2 W1.heap.size a c ps ∧ RdI w2 .u8 a3 c3 r ∧ Src W1 a2 a3 ∧ Below W1.heap.size W1 w2 := (by rcases hP with ⟨e, -⟩ | ⟨ps', r', a, c, a3, c3, e, h1, h2, h3, h4, h5⟩; (rw [HT.out] at e; cases e); (rw [HT.out] at e; cases e; exact ⟨a, c, a3, c3, h1, h2, h3, h4, h5⟩)); obtain ⟨a, c, a3, c3, rfl, hoP, hrL, hsrc, hb2⟩ := hP2; have tM := HM.out.below hb2; have tZ := HMZ.out.below hb2; have q0 : w2.cell? ⟨g, 0, none⟩ = some (.int .i64 (nAt zs 0)) := tM.c0; have q1 : w2.cell? ⟨g, 1, none⟩ = some (.int .i64 (nAt zs 1)) := tM.c1; have q2 : w2.cell? ⟨g, 2, none⟩ = some (.int .i64 (nAt zs 2)) := tM.c2; have q3 : w2.cell? ⟨g, 3, none⟩ = some (.int .i64 (nAt zs 3)) := tM.c3; have q4 : w2.cell? ⟨g, 4, none⟩ = some (.int .i64 (nAt zs 4)) := tM.c4; have q5 : w2.cell? ⟨g, 5, none⟩ = some (.int .i64 (nAt zs 5)) := tM.c5; have q6 : w2.cell? ⟨g, 6, none⟩ = some (.bool (nAt zs 6 == 1)) := tM.c6; have q7 : w2.cell? ⟨g, 7, none⟩ = some (.slice none 0 0) := tM.c7; have q8 : w2.cell? ⟨g, 8, none⟩ = some (.complex .f64 0 0) := tM.c8; have q9 : w2.cell? ⟨g, 9, none⟩ = some (.complex .f64 0 0) := tM.c9; have q10 : w2.cell? ⟨g, 10, none⟩ = some (.complex .f64 0 0) := tM.cA; have q11 : w2.cell? ⟨g, 11, none⟩ = some (.complex .f64 0 0) := tM.cB; have y := tM.fz; have z0 : w2.cell? ⟨w.heap.size, 0, none⟩ = some (.int .i64 0) := tZ.c0; have z1 : w2.cell? ⟨w.heap.size, 1, none⟩ = some (.int .i64 0) := tZ.c1; have z2 : w2.cell? ⟨w.heap.size, 2, none⟩ = some (.int .i64 0) := tZ.c2; have z3 : w2.cell? ⟨w.heap.size, 3, none⟩ = some (.int .i64 0) := tZ.c3; have z4 : w2.cell? ⟨w.heap.size, 4, none⟩ = some (.int .i64 0) := tZ.c4; have z5 : w2.cell? ⟨w.heap.size, 5, none⟩ = some (.int .i64 0) := tZ.c5; have z6 : w2.cell? ⟨w.heap.size, 6, none⟩ = some (.bool false) := tZ.c6; have z7 : w2.cell? ⟨w.heap.size, 7, none⟩ = some (.slice none 0 0) := tZ.c7; have z8 : w2.cell? ⟨w.heap.size, 8, none⟩ = some (.complex .f64 0 0) := tZ.c8; have z9 : w2.cell? ⟨w.heap.size, 9, none⟩ = some (.complex .f64 0 0) := tZ.c9; have z10 : w2.cell? ⟨w.heap.size, 10, none⟩ = some (.complex .f64 0 0) := tZ.cA; have z11 : w2.cell? ⟨w.heap.size, 11, none⟩ = some (.complex .f64 0 0) := tZ.cB; have yz := tZ.fz; have hB2 : Below w.heap.size w w2 := below_step HB1.out hb2; have hgn : g ≠ w.heap.size := (by have := HG.out; omega); have HTM : Hid (MgAt w2 g (mg0 zs []) none 0 0) := tM; have HTZ : Hid (MgAt w2 w.heap.size mgZ none 0 0) := tZ; have HRL : Hid (RdI w2 .u8 a3 c3 r) := hrL; have HSR : Hid (Src W1 a2 a3) := hsrc; have HOP : Hid (OwnR w2 W1.heap.size a c ps) := hoP; clear tM tZ hP hrL hsrc hoP; have HRL3 : Hid (RdI (w2.setCell ⟨g, 7, none⟩ (.slice a q c)) .u8 a3 c3 r) := RdI.put HRL.out ⟨g, 7, none⟩ (.slice a q c) (fun y _ hy _ => (by rcases HSR.out with e | e; (rw [e] at hy; have := HOB.out y hy; show y.block ≠ g; omega); (have := e y hy; show y.block ≠ g; omega))); have HOP3 : Hid (OwnR (w2.setCell ⟨g, 7, none⟩ (.slice a q c)) W1.heap.size a c ps) := HOP.out.off (fun j hj => Below.heap_setCell _ _ _ _ (show j ≠ g by omega)); have TM3 : Hid (MgAt (w2.setCell ⟨g, 7, none⟩ (.slice a q c)) g (mg0 zs ps) a q c) := HTM.out.put7 a q c ps; have TZ3 : Hid (MgAt (w2.setCell ⟨g, 7, none⟩ (.slice a q c)) w.heap.size mgZ none 0 0) := HTZ.out.other _ _ (by simp; omega); have HB3 : Hid (Below w.heap.size w (w2.setCell ⟨g, 7, none⟩ (.slice a q c))) := hB2.setCell (Nat.le_of_lt HG.out) _)
    | (fail))
  refine bodyPost_ret (by simp [results, Try.results8, go_sem, z0, z1, z2, z3, z4, z5, z6, z7, z8, z9, z10, z11]; try rfl) rfl ?_
  have le := Nat.le_refl w.heap.size
  refine readR_some HPn.out rfl ?_ ((((((((((((hB4.setCell le _).setCell le _).setCell le _).setCell le _).setCell le _).setCell le _).setCell le _).setCell le _).setCell le _).setCell le _).setCell le _).setCell le _)
  exact ((HOP6.out.below hb4).off (fun j hj => by
    have hne : j ≠ w.heap.size := by have := HG.out; omega
    simp only [Below.heap_setCell _ _ _ _ (show j ≠ (⟨w.heap.size, _, none⟩ : Addr).block from hne)])).rdn HPL.out

end Go.Proofs.Ytgeoeaadeemmcaa

namespace Go.Proofs.Ytgeoeaadeemmcaa
open Go.RowKit
set_option linter.unusedVariables false

theorem read_any (ao : Option Addr) (cap n : Nat) (zs : List Int) (w : World) (hrd : RdI w .u8 ao cap zs) (hn : zs.length = n) (hb : ∀ z ∈ zs, 0 ≤ z ∧ z < 256) (hlen : n ≤ 140737488355328) :
    Calls Try.prog 8 #[.slice ao n cap] w (ReadR zs w) := by
  by_cases h24 : n < 24
  · have hp : parse zs = none := by rw [parse, if_pos (by omega)]
    exact (read_short ao cap n w h24).mono fun x w' hx => readR_none hp hx.1 hx.2
  have hz7 := nAt_bd zs 7 hb
  cases hf : isFlg (nAt zs 6)
  · have hp : parse zs = none := by rw [parse, if_neg (by omega), if_pos hf]
    exact (read_head ao cap n zs w hrd hn hb (by omega) hlen (.inl hf)).mono fun x w' hx => readR_none hp hx.1 hx.2
  by_cases h7 : 24 < nAt zs 7
  · have hp : parse zs = none := by rw [parse, if_neg (by omega), if_neg (by rw [hf]; simp), if_pos h7]
    exact (read_head ao cap n zs w hrd hn hb (by omega) hlen (.inr h7)).mono fun x w' hx => readR_none hp hx.1 hx.2
  obtain ⟨q, hq⟩ := Int.eq_ofNat_of_zero_le hz7.1
  have h7q : (q : Int) ≤ 24 := by omega
  have hbd : ∀ z ∈ zs.drop 24, 0 ≤ z ∧ z < 256 := fun z hz => hb z (List.mem_of_mem_drop hz)
  cases hT : takeP q (zs.drop 24) with
  | none => exact read_D ao cap n q zs w hrd hn hb (by omega) hlen hf hq h7q hT
  | some y =>
    obtain ⟨ps, r⟩ := y
    by_cases hk : nAt zs 0 = 5
    · cases hV : takeV 4 r with
      | none => exact read_F1 ao cap n q zs w hrd hn hb (by omega) hlen hf hq h7q ps r hT hk hV
      | some u =>
        obtain ⟨v, s⟩ := u
        obtain ⟨v0, v1, v2, v3, rfl⟩ := list4 (takeV_some 4 (takeP_some q hbd hT).2.2.2 hV).2.1
        by_cases hs : s.length = 0
        · cases hR : rightB ⟨nAt zs 0, nAt zs 1, nAt zs 2, nAt zs 3, nAt zs 4, nAt zs 5, nAt zs 6 == 1, ps, v0, v1, v2, v3⟩
          · exact read_F3f ao cap n q zs w hrd hn hb (by omega) hlen hf hq h7q ps r hT hk v0 v1 v2 v3 s hV hs hR
          · exact read_F3t ao cap n q zs w hrd hn hb (by omega) hlen hf hq h7q ps r hT hk v0 v1 v2 v3 s hV hs hR
        · exact read_F2 ao cap n q zs w hrd hn hb (by omega) hlen hf hq h7q ps r hT hk v0 v1 v2 v3 s hV s.length rfl (by omega)
    · by_cases hr : r.length = 0
      · cases hR : rightB (mg0 zs ps)
        · exact read_E2f ao cap n q zs w hrd hn hb (by omega) hlen hf hq h7q ps r hT hk hr hR
        · exact read_E2t ao cap n q zs w hrd hn hb (by omega) hlen hf hq h7q ps r hT hk hr hR
      · exact read_E1 ao cap n q zs w hrd hn hb (by omega) hlen hf hq h7q ps r hT hk r.length rfl (by omega)

end Go.Proofs.Ytgeoeaadeemmcaa

namespace Go.Proofs.Ytgeoeaadeemmcaa
open Go.RowKit
set_option linter.unusedVariables false

/-- The example's message. -/
abbrev mA : Mg := ⟨5, 2, 0, 0, 15, 4, false, [], (4607182418800017408, 0), (4611686018427387904, 4613937818241073152), (0, 0), (0, 0)⟩

/-- Its bytes. -/
def bA : List Nat := nb (msgZ mA)

theorem right_A : rightB mA = true := by kernel_rfl

theorem right_Z : rightB mgZ = true := by kernel_rfl

theorem len_A : (msgZ mA).length = 88 := by kernel_rfl

theorem len_Z : (msgZ mgZ).length = 24 := by kernel_rfl

theorem parse_A : parse (msgZ mA) = some mA := by kernel_rfl

theorem same_A : sameM mA mA = true := by kernel_rfl

/-- The example's packet. -/
abbrev pA : PkG := ⟨1, 2, 3, 4, 5, true, bA⟩

theorem pack_A : packB pA 88 = true := by kernel_rfl

theorem frlen_A : (frN pA).length = 108 := by kernel_rfl

theorem open_A : openP (frN pA) = some pA := by kernel_rfl

theorem spoilt_A : openP (brN (frN pA) 40 1 (L16 1)) = none := by kernel_rfl

theorem wd_A : Wd mA := ⟨by intro p hp; simp at hp, ⟨by decide, by decide⟩, ⟨by decide, by decide⟩, ⟨by decide, by decide⟩, ⟨by decide, by decide⟩⟩

theorem wd_Z : Wd mgZ := ⟨by intro p hp; simp at hp, ⟨by decide, by decide⟩, ⟨by decide, by decide⟩, ⟨by decide, by decide⟩, ⟨by decide, by decide⟩⟩

theorem bytes_A (w : World) : Calls Try.prog 6 #[msV mA none 0 0] w fun x w' => ∃ a2 c2, x = .returned (.tuple #[.slice a2 88 c2, .int .i64 0]) ∧ RdI w' .u8 a2 c2 (msgZ mA) ∧ Below w.heap.size w w' := by
  refine (bytes_ok mA none 0 0 w (RdP.none w) right_A wd_A).mono ?_
  rintro x w' ⟨a2, c2, rfl, ho, hb⟩
  exact ⟨a2, c2, by rw [len_A], ho.rd, hb⟩

theorem bytes_Z (w : World) : Calls Try.prog 6 #[msV mgZ none 0 0] w fun x w' => ∃ a2 c2, x = .returned (.tuple #[.slice a2 24 c2, .int .i64 0]) ∧ Below w.heap.size w w' := by
  refine (bytes_ok mgZ none 0 0 w (RdP.none w) right_Z wd_Z).mono ?_
  rintro x w' ⟨a2, c2, rfl, ho, hb⟩
  exact ⟨a2, c2, by rw [len_Z], hb⟩

theorem read_A (ao : Option Addr) (cap : Nat) (w : World) (h : RdI w .u8 ao cap (msgZ mA)) : Calls Try.prog 8 #[.slice ao 88 cap] w fun x w' => ∃ a' c', x = .returned (.tuple #[msV mA a' 0 c', .int .i64 0]) ∧ RdP w' a' 0 c' [] ∧ Below w.heap.size w w' := by
  refine (read_any ao cap 88 (msgZ mA) w h len_A (msgZ_bd _) (by omega)).mono ?_
  rintro x w' ⟨a', n', c', hx, hr, hb⟩
  rw [parse_A] at hx hr
  have hn : n' = 0 := hr.len.symm
  subst hn
  exact ⟨a', c', hx, hr, hb⟩

theorem frame_A (ao : Option Addr) (cap : Nat) (w : World) (h : Rd8 w ao 88 cap bA) : Calls Try.prog 11 #[pkV pA ao 88 cap] w fun x w' => ∃ a' c', x = .returned (.tuple #[.slice a' 108 c', .int .i64 0]) ∧ Rd8 w' a' 108 c' (frN pA) ∧ Below w.heap.size w w' := by
  refine (frame_ok pA ao 88 cap w h pack_A).mono ?_
  rintro x w' ⟨a', c', rfl, ho, hb⟩
  exact ⟨a', c', rfl, ho.rd, hb⟩

theorem open_Ac (ao : Option Addr) (cap : Nat) (w : World) (h : Rd8 w ao 108 cap (frN pA)) : Calls Try.prog 13 #[.slice ao 108 cap] w fun x w' => ∃ a' c', x = .returned (.tuple #[pkV pA a' 88 c', .int .i64 0]) ∧ Rd8 w' a' 88 c' bA ∧ Below w.heap.size w w' := by
  refine (open_any ao 108 cap (frN pA) w h (by omega)).mono ?_
  rintro x w' ⟨a', n', c', hx, hr, hb⟩
  rw [open_A] at hx hr
  have hn : n' = 88 := by
    have := hr.len
    rw [← this]
    show (nb (msgZ mA)).length = 88
    rw [nb_length, len_A]
  subst hn
  exact ⟨a', c', hx, hr, hb⟩

theorem open_Sp (ao : Option Addr) (cap : Nat) (w : World) (h : Rd8 w ao 108 cap (brN (frN pA) 40 1 (L16 1))) : Calls Try.prog 13 #[.slice ao 108 cap] w fun x w' => ∃ a' n' c', x = .returned (.tuple #[pkV pkN a' n' c', .int .i64 101]) ∧ Below w.heap.size w w' := by
  refine (open_any ao 108 cap _ w h (by omega)).mono ?_
  rintro x w' ⟨a', n', c', hx, hr, hb⟩
  rw [spoilt_A] at hx
  exact ⟨a', n', c', hx, hb⟩

theorem burst_A (ao : Option Addr) (cap : Nat) (w : World) (h : Rd8 w ao 108 cap (frN pA)) : Calls Try.prog 20 #[.slice ao 108 cap, .int .i64 40, .int .u16 1] w fun x w' => ∃ a' c', x = .returned (.slice a' 108 c') ∧ Rd8 w' a' 108 c' (brN (frN pA) 40 1 (L16 1)) ∧ Below w.heap.size w w' := by
  refine (burst_any ao 108 cap (frN pA) 40 1 w h (by omega) (by omega) (by omega) (by omega)).mono ?_
  rintro x w' ⟨a', c', rfl, ho, hb⟩
  exact ⟨a', c', rfl, ho.rd, hb⟩

theorem same_Ac (a' : Option Addr) (c' : Nat) (w : World) (h : RdP w a' 0 c' []) : Calls Try.prog 21 #[msV mA a' 0 c', msV mA none 0 0] w fun x w' => x = .returned (.bool true) ∧ Below w.heap.size w w' := by
  have := same_msg mA mA a' none 0 0 c' 0 w h (RdP.none w) (by omega)
  rwa [same_A] at this

set_option maxHeartbeats 1600000 in
set_option maxRecDepth 100000 in
theorem alive_any (w : World) : Calls Try.prog 7 #[] w fun x w' => x = .returned (.bool true) ∧ Below w.heap.size w w' := by
  have hst := fun (ad : Addr) (re im : Nat) (W : World) => run_store Try.prog W ad (.complex .f64 re im) .plain rfl
  have hM0 := MgAt.new w mA none 0 0
  have HM0 : Hid (MgAt (w.alloc (msO mA none 0 0)) w.heap.size mA none 0 0) := hM0
  clear hM0
  go_enter Try.func7, Try.ntmps7
  go_wp2_with (first
    | (go_at_call 21; refine (same_Ac a2 c2 _ HP8.out).mono ?_; rintro x w9 ⟨rfl, hb9⟩; have tq := HQ.out.below hb9; have v3 : w9.cell? ⟨w5.heap.size, 3, none⟩ = some (.int .i64 4) := tq.c3; have v6 : w9.cell? ⟨w5.heap.size, 6, none⟩ = some (.slice a5 88 c5) := tq.c6; have hx1 := (HRq.out.below hb9).str; have hx2 := (HRb8.out.below hb9).str; have HB9 : Hid (Below w.heap.size w w9) := below_step HB8.out hb9; clear tq hb9)
    | (go_at_call 13; refine (open_Sp a6 c6 _ hr6).mono ?_; rintro x w7 ⟨a7, n7, c7, rfl, hb7⟩; have hb8 : Below w1.heap.size w1 (w7.alloc (pkO pkN a7 n7 c7)) := below_step (below_step HB16.out hb7) (below_box _ _); have tm := HM1.out.below hb8; have tx := HMx.out (w7.alloc (pkO pkN a7 n7 c7)) (below_step (below_step HB36.out hb7) (below_box _ _)); have q0 : (w7.alloc (pkO pkN a7 n7 c7)).cell? ⟨w.heap.size, 0, none⟩ = some (.int .i64 5) := tm.c0; have q1 : (w7.alloc (pkO pkN a7 n7 c7)).cell? ⟨w.heap.size, 1, none⟩ = some (.int .i64 2) := tm.c1; have q2 : (w7.alloc (pkO pkN a7 n7 c7)).cell? ⟨w.heap.size, 2, none⟩ = some (.int .i64 0) := tm.c2; have q3 : (w7.alloc (pkO pkN a7 n7 c7)).cell? ⟨w.heap.size, 3, none⟩ = some (.int .i64 0) := tm.c3; have q4 : (w7.alloc (pkO pkN a7 n7 c7)).cell? ⟨w.heap.size, 4, none⟩ = some (.int .i64 15) := tm.c4; have q5 : (w7.alloc (pkO pkN a7 n7 c7)).cell? ⟨w.heap.size, 5, none⟩ = some (.int .i64 4) := tm.c5; have q6 : (w7.alloc (pkO pkN a7 n7 c7)).cell? ⟨w.heap.size, 6, none⟩ = some (.bool false) := tm.c6; have q7 : (w7.alloc (pkO pkN a7 n7 c7)).cell? ⟨w.heap.size, 7, none⟩ = some (.slice none 0 0) := tm.c7; have q8 : (w7.alloc (pkO pkN a7 n7 c7)).cell? ⟨w.heap.size, 8, none⟩ = some (.complex .f64 4607182418800017408 0) := tm.c8; have q9 : (w7.alloc (pkO pkN a7 n7 c7)).cell? ⟨w.heap.size, 9, none⟩ = some (.complex .f64 4611686018427387904 4613937818241073152) := tm.c9; have q10 : (w7.alloc (pkO pkN a7 n7 c7)).cell? ⟨w.heap.size, 10, none⟩ = some (.complex .f64 0 0) := tm.cA; have q11 : (w7.alloc (pkO pkN a7 n7 c7)).cell? ⟨w.heap.size, 11, none⟩ = some (.complex .f64 0 0) := tm.cB; have r0 : (w7.alloc (pkO pkN a7 n7 c7)).cell? ⟨w2.heap.size, 0, none⟩ = some (.int .i64 5) := tx.c0; have r1 : (w7.alloc (pkO pkN a7 n7 c7)).cell? ⟨w2.heap.size, 1, none⟩ = some (.int .i64 2) := tx.c1; have r2 : (w7.alloc (pkO pkN a7 n7 c7)).cell? ⟨w2.heap.size, 2, none⟩ = some (.int .i64 0) := tx.c2; have r3 : (w7.alloc (pkO pkN a7 n7 c7)).cell? ⟨w2.heap.size, 3, none⟩ = some (.int .i64 0) := tx.c3; have r4 : (w7.alloc (pkO pkN a7 n7 c7)).cell? ⟨w2.heap.size, 4, none⟩ = some (.int .i64 15) := tx.c4; have r5 : (w7.alloc (pkO pkN a7 n7 c7)).cell? ⟨w2.heap.size, 5, none⟩ = some (.int .i64 4) := tx.c5; have r6 : (w7.alloc (pkO pkN a7 n7 c7)).cell? ⟨w2.heap.size, 6, none⟩ = some (.bool false) := tx.c6; have r7 : (w7.alloc (pkO pkN a7 n7 c7)).cell? ⟨w2.heap.size, 7, none⟩ = some (.slice a2 0 c2) := tx.c7; have r8 : (w7.alloc (pkO pkN a7 n7 c7)).cell? ⟨w2.heap.size, 8, none⟩ = some (.complex .f64 4607182418800017408 0) := tx.c8; have r9 : (w7.alloc (pkO pkN a7 n7 c7)).cell? ⟨w2.heap.size, 9, none⟩ = some (.complex .f64 4611686018427387904 4613937818241073152) := tx.c9; have r10 : (w7.alloc (pkO pkN a7 n7 c7)).cell? ⟨w2.heap.size, 10, none⟩ = some (.complex .f64 0 0) := tx.cA; have r11 : (w7.alloc (pkO pkN a7 n7 c7)).cell? ⟨w2.heap.size, 11, none⟩ = some (.complex .f64 0 0) := tx.cB; have HP8 : Hid (RdP (w7.alloc (pkO pkN a7 n7 c7)) a2 0 c2 []) := ⟨rfl, fun t h => (by simp at h)⟩; have HQ : Hid (PkAt (w7.alloc (pkO pkN a7 n7 c7)) w5.heap.size pA a5 88 c5) := ((HQ6.out.below hb7).below (below_box _ _)); have HRq : Hid (Rd8 (w7.alloc (pkO pkN a7 n7 c7)) a5 88 c5 bA) := (HRq6.out.below hb7).below (below_box _ _); have HRb8 : Hid (Rd8 (w7.alloc (pkO pkN a7 n7 c7)) a1 88 c1 bA) := HRb.out.below hb8; have HB8 : Hid (Below w.heap.size w (w7.alloc (pkO pkN a7 n7 c7))) := below_step HB1.out hb8; clear tm tx hb7 hb8)
    | (go_at_call 20; refine (burst_A a4 c4 _ (hr5.below (below_box _ _))).mono ?_; rintro x w6 ⟨a6, c6, rfl, hr6, hb6⟩; have HQ6 : Hid (PkAt w6 w5.heap.size pA a5 88 c5) := (PkAt.new w5 pA a5 88 c5).below hb6; have HRq6 : Hid (Rd8 w6 a5 88 c5 bA) := (hq5.below (below_box _ _)).below hb6; have HB16 : Hid (Below w1.heap.size w1 w6) := below_step (below_step HB15.out (below_box _ _)) hb6; have HB36 : Hid (Below (w2.alloc (msO mA a2 0 c2)).heap.size (w2.alloc (msO mA a2 0 c2)) w6) := below_step (below_step HB35.out (below_box _ _)) hb6; clear hb6 hr5 hq5)
    | (go_at_call 13; refine (open_Ac a4 c4 _ hr4).mono ?_; rintro x w5 ⟨a5, c5, rfl, hq5, hb5⟩; have hr5 := hr4.below hb5; have HB15 : Hid (Below w1.heap.size w1 w5) := below_step HB14.out hb5; have HB35 : Hid (Below (w2.alloc (msO mA a2 0 c2)).heap.size (w2.alloc (msO mA a2 0 c2)) w5) := below_step HB34.out hb5; clear hb5 hr4)
    | (go_at_call 11; refine (frame_A a1 c1 _ (((HRb.out.below hb2).below (below_box _ _)).below (below_box _ _))).mono ?_; rintro x w4 ⟨a4, c4, rfl, hr4, hb4⟩; have HB14 : Hid (Below w1.heap.size w1 w4) := below_step (below_step (below_step hb2 (below_box _ _)) (below_box _ _)) hb4; have HB34 : Hid (Below (w2.alloc (msO mA a2 0 c2)).heap.size (w2.alloc (msO mA a2 0 c2)) w4) := below_step (below_box _ _) hb4; clear hb4)
    | (go_at_call 8; refine (read_A a1 c1 _ hz1).mono ?_; rintro x w2 ⟨a2, c2, rfl, hp2, hb2⟩; have HMx : Hid (∀ W, Below (w2.alloc (msO mA a2 0 c2)).heap.size (w2.alloc (msO mA a2 0 c2)) W → MgAt W w2.heap.size mA a2 0 c2) := fun W hW => (MgAt.new w2 mA a2 0 c2).below hW; clear hp2)
    | (go_at_call 6; refine (bytes_A _).mono ?_; rintro x w1 ⟨a1, c1, rfl, hz1, hb1⟩; have HM1 : Hid (MgAt w1 w.heap.size mA none 0 0) := HM0.out.below hb1; have HRb : Hid (Rd8 w1 a1 88 c1 bA) := rd8_nb hz1 len_A (msgZ_bd _); have HB1 : Hid (Below w.heap.size w w1) := below_alloc (hb1.mono (by simp)); clear hb1)
    | (fail))
  go_ret
  exact ⟨rfl, HB9.out⟩

end Go.Proofs.Ytgeoeaadeemmcaa

namespace Go.Proofs.Ytgeoeaadeemmcaa
open Go.RowKit
set_option linter.unusedVariables false

theorem refRight_any (M : Mg) (ao : Option Addr) (nn cap : Nat) (w : World) (h : RdP w ao nn cap M.ps) (hnn : nn ≤ 1000) (hw : Wd M) :
    Calls Try.prog 53 #[msV M ao nn cap] w fun x w' => x = .returned (.bool (rightB M)) ∧ Below w.heap.size w w' := by
  obtain ⟨k, p, o, t, c, n, wr, ps, v0, v1, v2, v3⟩ := M
  have hv : ∀ x ∈ [v0, v1, v2, v3], wordB x := by
    intro x hx
    simp only [List.mem_cons, List.not_mem_nil, or_false] at hx
    rcases hx with rfl | rfl | rfl | rfl
    · exact hw.v0
    · exact hw.v1
    · exact hw.v2
    · exact hw.v3
  by_cases hout : k < 0 ∨ 8 < k ∨ p < 0 ∨ 5 < p ∨ o < 0 ∨ 3 < o ∨ t < 0 ∨ 16777215 < t ∨ n < 0 ∨ 15 < n
  · exact refRight_out k p o t c n wr ps v0 v1 v2 v3 ao nn cap w hout
  have hN : Nb k p o t n := by constructor <;> omega
  have hl : nn ≤ 140737488355328 := by omega
  have hk : k = 0 ∨ k = 1 ∨ k = 2 ∨ k = 3 ∨ k = 4 ∨ k = 5 ∨ k = 6 ∨ k = 7 ∨ k = 8 := by omega
  by_cases h0 : nn = 0
  · subst nn
    rcases hk with rfl | rfl | rfl | rfl | rfl | rfl | rfl | rfl | rfl
    · exact refRight_01z 0 (.inl rfl) p o t c n wr ps v0 v1 v2 v3 ao cap w h hN hv
    · exact refRight_01z 1 (.inr rfl) p o t c n wr ps v0 v1 v2 v3 ao cap w h hN hv
    · exact refRight_2 p o t c n wr ps v0 v1 v2 v3 ao 0 cap w h hl hN hv
    · exact refRight_3z p o t c n wr ps v0 v1 v2 v3 ao cap w h hN hv
    · exact refRight_46z 4 (.inl rfl) p o t c n wr ps v0 v1 v2 v3 ao cap w h hN hv
    · exact refRight_5z p o t c n wr ps v0 v1 v2 v3 ao cap w h hN hv
    · exact refRight_46z 6 (.inr rfl) p o t c n wr ps v0 v1 v2 v3 ao cap w h hN hv
    · exact refRight_7z p o t c n wr ps v0 v1 v2 v3 ao cap w h hN hv
    · exact refRight_8z p o t c n wr ps v0 v1 v2 v3 ao cap w h hN hv
  · rcases hk with rfl | rfl | rfl | rfl | rfl | rfl | rfl | rfl | rfl
    · exact refRight_01n 0 (.inl rfl) p o t c n wr ps v0 v1 v2 v3 ao nn cap w h hl h0 hN hv
    · exact refRight_01n 1 (.inr rfl) p o t c n wr ps v0 v1 v2 v3 ao nn cap w h hl h0 hN hv
    · exact refRight_2 p o t c n wr ps v0 v1 v2 v3 ao nn cap w h hl hN hv
    · exact refRight_3n p o t c n wr ps v0 v1 v2 v3 ao nn cap w h hl h0 hN hv
    · exact refRight_46n 4 (.inl rfl) p o t c n wr ps v0 v1 v2 v3 ao nn cap w h hl h0 hN hv
    · exact refRight_5n p o t c n wr ps v0 v1 v2 v3 ao nn cap w h hl h0 hN hv
    · exact refRight_46n 6 (.inr rfl) p o t c n wr ps v0 v1 v2 v3 ao nn cap w h hl h0 hN hv
    · exact refRight_7n p o t c n wr ps v0 v1 v2 v3 ao nn cap w h hl h0 hN hv
    · exact refRight_8n p o t c n wr ps v0 v1 v2 v3 ao nn cap w h hl h0 hN hv

end Go.Proofs.Ytgeoeaadeemmcaa

namespace Go.Proofs.Ytgeoeaadeemmcaa
open Go.RowKit

/-- The same where the step is guarded. -/
theorem step_append_rdG {P : Program} (w : World) {ops : Array Oper} {o : Oper} {a : Act} {K : Act → World → Prop} {Q : Exit → Act → World → Prop} {E : Prop} (hw : Region.wanted o (yielded ops a.tmps) = true) (s x : Operand) (t : TypeId)
    (ho : o.op = .call { callee := .builtin .append, args := #[s, x], argTypes := #[t, t] })
    (base : Nat) (e : TypeId) (k : IntKind) (z : Value) (bytes : Nat) (ht : P.underlying t = some (.slice e))
    (hinfo : (P.info? e).map (fun i => (i.zero, i.size, i.bytes)) = some (some z, 1, bytes)) (hzs : z.cells.size = 1)
    {ao : Option Addr} {cap n : Nat} {xs : List Int} {ao' : Option Addr} {cap' m : Nat} {ys : List Int}
    (hs : a.eval s = .slice ao n cap) (hx : a.eval x = .slice ao' m cap') (hown : OwnI w base e k ao cap xs) (hrd : RdI w k ao' cap' ys) (hn : xs.length = n) (hm : ys.length = m)
    (hbytes : (n + m) * bytes ≤ 140737488355328) (h63 : n + m ≤ maxLen) (hbase : base ≤ w.heap.size)
    (h : ∀ ao2 cap2 w', OwnI w' base e k ao2 cap2 (xs ++ ys) → Below base w w' → K (a.put o.dst (.slice ao2 (n + m) cap2)) w') :
    if Region.wanted o (yielded ops a.tmps) = true then Oper.wp P o a w K Q else E := by
  rw [if_pos hw]
  subst hn hm
  obtain ⟨ao2, cap2, w', hr, h2, h3⟩ := run_append_rd (P := P) base t o.type e z bytes ht hinfo hzs hown hrd (ints_one _ _) (by simpa using hbytes) (by simpa using h63) hbase
  simp only [List.length_map] at hr
  unfold Oper.wp execOp
  simp only [ho, resolve, invoke, builtin, Sem.run_bind, Sem.run_pure, Result.andThen_ok, List.map_toArray, List.map_cons, List.map_nil, hs, hx, hr]
  exact h ao2 cap2 w' (by unfold OwnI; rw [List.map_append]; exact h2) h3

/-- An empty slice that was just built behind another thing. -/
theorem OwnI.fresh2 (w : World) (o : Obj) (base : Nat) (e : TypeId) (k : IntKind) (hb : base ≤ w.heap.size + 1) : OwnI ((w.alloc o).alloc (.cells #[] e)) base e k (some ⟨w.heap.size + 1, 0, none⟩) 0 [] := by
  have h := OwnI.fresh (w.alloc o) base e k (by simpa using hb)
  rwa [show (w.alloc o).heap.size = w.heap.size + 1 by simp] at h

end Go.Proofs.Ytgeoeaadeemmcaa

namespace Go.Proofs.Ytgeoeaadeemmcaa
open Go.RowKit
set_option linter.unusedVariables false

set_option maxHeartbeats 4000000 in
theorem refSamePuts_eq (a1 a2 : Option Addr) (n c1 c2 : Nat) (ps : List PutG) (w : World) (h1 : RdP w a1 n c1 ps) (h2 : RdP w a2 n c2 ps) (hw : ∀ p ∈ ps, wordB p.c) (hn : n ≤ 140737488355328) :
    Calls Try.prog 30 #[.slice a1 n c1, .slice a2 n c2] w fun x w' => x = .returned (.bool true) ∧ Below w.heap.size w w' := by
  have H1 : Hid (RdP w a1 n c1 ps) := h1
  have H2 : Hid (RdP w a2 n c2 ps) := h2
  have HW : Hid (∀ p ∈ ps, wordB p.c) := hw
  clear h1 h2 hw
  go_enter Try.func30, Try.ntmps30
  go_wp2
  go_loopw [13] (fun i wr => ∃ (k j : Nat), k ≤ n ∧ i = .int .i64 k ∧ wr = w.drewN j) (fun i _ => n - (intOf i).toNat)
  case atStart => exact ⟨0, 0, Nat.zero_le _, rfl, rfl⟩
  case round =>
    obtain ⟨k, j, hk, rfl, rfl⟩ := hrel
    by_cases hlt : k < n
    · have hkl : k < ps.length := by rw [H1.out.len]; exact hlt
      have u := HW.out _ (List.getElem_mem hkl)
      obtain ⟨b1, o1, e1, hb1, p0, p1, p2⟩ := H1.out.cell k hkl
      obtain ⟨b2, o2, e2, hb2, r0, r1, r2⟩ := H2.out.cell k hkl
      generalize ps[k] = p at p0 p1 p2 r0 r1 r2 u
      clear H1 H2
      subst e1 e2
      go_wp2
      go_quiet ((first
        | (go_at_call 55; refine (refSame_any _ _ u u _).mono ?_; rw [sameB_self]; rintro x w0 ⟨rfl, hw⟩; subst w0; exact ⟨rfl, _, rfl⟩)))
      go_wp2
      go_roundw
      case rel => exact ⟨k + 1, _, by omega, by go_num, rfl⟩
      case measure => simp [intOf]; omega
    · go_wp2
      go_ret
      have hB := Below.refl w.heap.size w
      exact ⟨rfl, ⟨hB.os, hB.tape, hB.output, hB.size, hB.block⟩⟩

set_option maxHeartbeats 4000000 in
set_option maxRecDepth 100000 in
theorem refSame_eq (M : Mg) (a1 a2 : Option Addr) (n c1 c2 : Nat) (w : World) (h1 : RdP w a1 n c1 M.ps) (h2 : RdP w a2 n c2 M.ps) (hw : Wd M) (hn : n ≤ 140737488355328) :
    Calls Try.prog 10 #[msV M a1 n c1, msV M a2 n c2] w fun x w' => x = .returned (.bool true) ∧ Below w.heap.size w w' := by
  obtain ⟨k, p, o, t, c, nn, wr, ps, v0, v1, v2, v3⟩ := M
  have HV : Hid (∀ x ∈ [v0, v1, v2, v3], wordB x) := words4 hw.v0 hw.v1 hw.v2 hw.v3
  have HW : Hid (∀ p ∈ ps, wordB p.c) := hw.ps
  have H1 : Hid (RdP w a1 n c1 ps) := h1
  have H2 : Hid (RdP w a2 n c2 ps) := h2
  have HT : Hid _ := MgAt.two w ⟨k, p, o, t, c, nn, wr, ps, v0, v1, v2, v3⟩ ⟨k, p, o, t, c, nn, wr, ps, v0, v1, v2, v3⟩ a1 a2 n n c1 c2
  clear hw h1 h2
  go_enter Try.func10, Try.ntmps10
  go_wp2_with (first
    | (go_at_call 29; refine (refValues_any v0 v1 v2 v3 v0 v1 v2 v3 HV.out HV.out _).mono ?_; rw [allSame_self]; rintro x w1 ⟨rfl, hb1⟩; have hB1 : Below w.heap.size w w1 := (below2 w _ _).trans (hb1.mono (by simp; omega)); have t1 := (HT.out.1.below hb1).c7; have t2 := (HT.out.2.below hb1).c7; clear hb1)
    | (go_at_call 30; refine (refSamePuts_eq a1 a2 n c1 c2 ps _ (H1.out.below hB1) (H2.out.below hB1) HW.out hn).mono ?_; rintro x w2 ⟨rfl, hb2⟩; have hB2 : Below w.heap.size w w2 := below_step hB1 hb2; clear hb2)
    | (fail))
  go_ret
  exact ⟨rfl, hB2⟩

end Go.Proofs.Ytgeoeaadeemmcaa

namespace Go.Proofs.Ytgeoeaadeemmcaa
open Go.RowKit
set_option linter.unusedVariables false

theorem fin_some {M N : Mg} {r : List Int} (h : fin M r = some N) : N = M ∧ rightB M = true := by
  unfold fin at h
  split at h
  · rename_i hh
    cases h
    exact ⟨rfl, hh.2⟩
  · cases h

theorem parse_some_wd {zs : List Int} {M : Mg} (hb : ∀ z ∈ zs, 0 ≤ z ∧ z < 256) (h : parse zs = some M) : Wd M ∧ M.ps.length ≤ 24 := by
  have hbd : ∀ z ∈ zs.drop 24, 0 ≤ z ∧ z < 256 := fun z hz => hb z (List.mem_of_mem_drop hz)
  have z0 : wordB z2 := ⟨by decide, by decide⟩
  have key : Wd M ∧ rightB M = true := by
    unfold parse at h
    split at h
    · cases h
    · split at h
      · cases h
      · split at h
        · cases h
        · split at h
          · cases h
          · rename_i ps r hT
            obtain ⟨p1, p2, p3, p4⟩ := takeP_some _ hbd hT
            split at h
            · split at h
              · cases h
              · rename_i v s hV
                obtain ⟨q1, q2, q3, q4⟩ := takeV_some 4 p4 hV
                obtain ⟨a, b, c, d, rfl⟩ := list4 q2
                obtain ⟨rfl, hr⟩ := fin_some h
                exact ⟨⟨p3, q3 a (by simp), q3 b (by simp), q3 c (by simp), q3 d (by simp)⟩, hr⟩
            · obtain ⟨rfl, hr⟩ := fin_some h
              exact ⟨⟨p3, z0, z0, z0, z0⟩, hr⟩
  exact ⟨key.1, (putsB_mem (bd_of_right key.2).ps).1⟩

theorem parse_out {zs : List Int} (hb : ∀ z ∈ zs, 0 ≤ z ∧ z < 256) : Wd (outM (parse zs)) ∧ (outM (parse zs)).ps.length ≤ 24 := by
  cases h : parse zs with
  | none => exact ⟨wd_Z, Nat.zero_le _⟩
  | some M => exact parse_some_wd hb h

theorem readR_to {zs : List Int} {w : World} {x : Ending} {w' : World} {M : Mg} {E : Int} {L : Nat} (h : ReadR zs w x w') (hM : outM (parse zs) = M) (hE : outE (parse zs) = E) (hL : M.ps.length = L) :
    ∃ a c, x = .returned (.tuple #[msV M a L c, .int .i64 E]) ∧ RdP w' a L c M.ps ∧ Below w.heap.size w w' := by
  obtain ⟨a, n, c, hx, hr, hb⟩ := h
  rw [hM] at hx hr
  rw [hE] at hx
  obtain rfl : L = n := hL.symm.trans hr.len
  exact ⟨a, c, hx, hr, hb⟩

set_option maxHeartbeats 8000000 in
set_option maxRecDepth 100000 in
theorem reads_any (ao : Option Addr) (cap n : Nat) (zs : List Int) (w : World) (HRd : ∀ (W : World) (a : Option Addr) (c : Nat), RdI W .u8 a c zs → Calls Try.prog 9 #[.slice a n c] W (ReadR zs W)) (h : RdI w .u8 ao cap zs) (hn : zs.length = n) (hb : ∀ z ∈ zs, 0 ≤ z ∧ z < 256) (hlen : n ≤ 140737488351232) :
    Calls Try.prog 4 #[.slice ao n cap] w fun x w' => x = .returned (.bool true) ∧ Below w.heap.size w w' := by
  have hst := fun (ad : Addr) (re im : Nat) (W : World) => run_store Try.prog W ad (.complex .f64 re im) .plain rfl
  obtain ⟨hw, hl24⟩ := parse_out hb
  have HR : Hid (RdI w .u8 ao cap zs) := h
  have HB : Hid (∀ z ∈ zs, 0 ≤ z ∧ z < 256) := hb
  have HRD : Hid _ := HRd
  obtain ⟨M, hM⟩ : ∃ M, outM (parse zs) = M := ⟨_, rfl⟩
  obtain ⟨E, hE⟩ : ∃ E, outE (parse zs) = E := ⟨_, rfl⟩
  rw [hM] at hw hl24
  obtain ⟨L, hL⟩ : ∃ L, M.ps.length = L := ⟨_, rfl⟩
  rw [hL] at hl24
  have HM : Hid (outM (parse zs) = M) := hM
  have HE : Hid (outE (parse zs) = E) := hE
  have HL : Hid (M.ps.length = L) := hL
  have HWd : Hid (Wd M) := hw
  clear hM hE hL hw h hb HRd
  go_enter Try.func4, Try.ntmps4
  go_wp2_with (first
    | (go_at_call 10; refine (refSame_eq M a2 a3 L c2 c3 _ HP4.out HQ4.out HWd.out (by omega)).mono ?_; rintro x w5 ⟨rfl, hb5⟩; have HW5 : Hid (Below w.heap.size w w5) := below_step HW4.out hb5; clear hb5)
    | (go_at_call 7; refine (alive_any _).mono ?_; rintro x w4 ⟨rfl, hb4⟩; have HW4 : Hid (Below w.heap.size w w4) := below_step HW3.out hb4; have HP4 : Hid (RdP w4 a2 L c2 M.ps) := HP3.out.below hb4; have HQ4 : Hid (RdP w4 a3 L c3 M.ps) := HQ3.out.below hb4; have t1 := HM3.out.below hb4; have t2 := HN3.out.below hb4; have q0 : w4.cell? ⟨w2.heap.size, 0, none⟩ = some (.int .i64 M.k) := t1.c0; have q1 : w4.cell? ⟨w2.heap.size, 1, none⟩ = some (.int .i64 M.p) := t1.c1; have q2 : w4.cell? ⟨w2.heap.size, 2, none⟩ = some (.int .i64 M.o) := t1.c2; have q3 : w4.cell? ⟨w2.heap.size, 3, none⟩ = some (.int .i64 M.t) := t1.c3; have q4 : w4.cell? ⟨w2.heap.size, 4, none⟩ = some (.int .i64 M.c) := t1.c4; have q5 : w4.cell? ⟨w2.heap.size, 5, none⟩ = some (.int .i64 M.n) := t1.c5; have q6 : w4.cell? ⟨w2.heap.size, 6, none⟩ = some (.bool M.wr) := t1.c6; have q7 : w4.cell? ⟨w2.heap.size, 7, none⟩ = some (.slice a2 L c2) := t1.c7; have q8 : w4.cell? ⟨w2.heap.size, 8, none⟩ = some (.complex .f64 M.v0.1 M.v0.2) := t1.c8; have q9 : w4.cell? ⟨w2.heap.size, 9, none⟩ = some (.complex .f64 M.v1.1 M.v1.2) := t1.c9; have q10 : w4.cell? ⟨w2.heap.size, 10, none⟩ = some (.complex .f64 M.v2.1 M.v2.2) := t1.cA; have q11 : w4.cell? ⟨w2.heap.size, 11, none⟩ = some (.complex .f64 M.v3.1 M.v3.2) := t1.cB; have r0 : w4.cell? ⟨w3.heap.size, 0, none⟩ = some (.int .i64 M.k) := t2.c0; have r1 : w4.cell? ⟨w3.heap.size, 1, none⟩ = some (.int .i64 M.p) := t2.c1; have r2 : w4.cell? ⟨w3.heap.size, 2, none⟩ = some (.int .i64 M.o) := t2.c2; have r3 : w4.cell? ⟨w3.heap.size, 3, none⟩ = some (.int .i64 M.t) := t2.c3; have r4 : w4.cell? ⟨w3.heap.size, 4, none⟩ = some (.int .i64 M.c) := t2.c4; have r5 : w4.cell? ⟨w3.heap.size, 5, none⟩ = some (.int .i64 M.n) := t2.c5; have r6 : w4.cell? ⟨w3.heap.size, 6, none⟩ = some (.bool M.wr) := t2.c6; have r7 : w4.cell? ⟨w3.heap.size, 7, none⟩ = some (.slice a3 L c3) := t2.c7; have r8 : w4.cell? ⟨w3.heap.size, 8, none⟩ = some (.complex .f64 M.v0.1 M.v0.2) := t2.c8; have r9 : w4.cell? ⟨w3.heap.size, 9, none⟩ = some (.complex .f64 M.v1.1 M.v1.2) := t2.c9; have r10 : w4.cell? ⟨w3.heap.size, 10, none⟩ = some (.complex .f64 M.v2.1 M.v2.2) := t2.cA; have r11 : w4.cell? ⟨w3.heap.size, 11, none⟩ = some (.complex .f64 M.v3.1 M.v3.2) := t2.cB; clear t1 t2 hb4)
    | (go_at_call 9; refine (HRD.out _ _ _ (HR.out.below HW2.out)).mono ?_; intro x w3 hx3; obtain ⟨a3, c3, rfl, hp3, hb3⟩ := readR_to hx3 HM.out HE.out HL.out; have hbx := below_step hb3 (below_box w3 (msO M a3 L c3)); have HW3 : Hid (Below w.heap.size w (w3.alloc (msO M a3 L c3))) := below_step HW2.out hbx; have HP3 : Hid (RdP (w3.alloc (msO M a3 L c3)) a2 L c2 M.ps) := HP2.out.below hbx; have HQ3 : Hid (RdP (w3.alloc (msO M a3 L c3)) a3 L c3 M.ps) := hp3.below (below_box _ _); have HM3 : Hid (MgAt (w3.alloc (msO M a3 L c3)) w2.heap.size M a2 L c2) := HM2.out.below hbx; have HN3 : Hid (MgAt (w3.alloc (msO M a3 L c3)) w3.heap.size M a3 L c3) := MgAt.new w3 M a3 L c3; clear hbx hb3 hp3 hx3)
    | (go_at_call 8; refine (read_any a1 c1 n zs _ hf1 hn HB.out (by omega)).mono ?_; intro x w2 hx2; obtain ⟨a2, c2, rfl, hp2, hb2⟩ := readR_to hx2 HM.out HE.out HL.out; have hbx := below_step hb2 (below_box w2 (msO M a2 L c2)); have HW2 : Hid (Below w.heap.size w (w2.alloc (msO M a2 L c2))) := below_step HW1.out hbx; have HP2 : Hid (RdP (w2.alloc (msO M a2 L c2)) a2 L c2 M.ps) := hp2.below (below_box _ _); have HM2 : Hid (MgAt (w2.alloc (msO M a2 L c2)) w2.heap.size M a2 L c2) := MgAt.new w2 M a2 L c2; clear hbx hb2 hp2 hx2 hf1)
    | (at_builtin; refine wpList_append_rdI _ rfl (.tmp 8) (.tmp 9) 22 rfl w.heap.size 5 .u8 (.int .u8 0) 1 Try.underlying22 info5 rfl rfl rfl (OwnI.fresh w _ _ _ (Nat.le_refl _)) (HR.out.alloc _) rfl hn (by omega) (by unfold maxLen; omega) (by simp) ?_; intro a1 c1 w1 hf1' hb1; have HW1 : Hid (Below w.heap.size w w1) := below_alloc hb1; have hf1 : RdI w1 .u8 a1 c1 zs := (by simpa using hf1'.rd); clear hf1' hb1)
    | (fail))
  go_ret
  exact ⟨rfl, HW5.out⟩

end Go.Proofs.Ytgeoeaadeemmcaa

namespace Go.Proofs.Ytgeoeaadeemmcaa.msgReads
open Go.ChangeShapes Go.WideShapes Go.ChangeAt Go.RowKit
set_option linter.unusedVariables false

theorem own : ownKnob Try.prog.godebug = none := by kernel_rfl
theorem laidOut : laidOutB Try.prog = true := by kernel_rfl
theorem bytes5 : Try.prog.bytesOf 5 = 1 := by kernel_rfl

theorem bytes_of {zs : List Int} (b : ∀ z ∈ zs, (Lit.int .u8 z).wf = true) : ∀ z ∈ zs, 0 ≤ z ∧ z < 256 := by
  intro z hz
  have := b z hz
  simp [Lit.wf, IntKind.min, IntKind.max, IntKind.bits, IntKind.signed] at this
  omega

theorem refRead_any (ao : Option Addr) (cap n : Nat) (zs : List Int) (w : World) (hrd : RdI w .u8 ao cap zs) (hn : zs.length = n) (hb : ∀ z ∈ zs, 0 ≤ z ∧ z < 256) (hlen : n ≤ 140737488355328) :
    Calls Try.prog 9 #[.slice ao n cap] w (ReadR zs w) := by
  by_cases h24 : n < 24
  · have hp : parse zs = none := by rw [parse, if_pos (by omega)]
    exact (refRead_short ao cap n w h24).mono fun x w' hx => readR_none hp hx.1 hx.2
  by_cases h7 : nAt zs 7 ≤ 25
  · exact refRead_few ao cap n zs w (fun M a m c W h1 h2 h3 => refRight_any M a m c W h1 h2 h3) hrd hn hb (by omega) hlen h7
  · exact refRead_many ao cap n zs w (fun M a m c W h1 h2 h3 => refRight_any M a m c W h1 h2 h3) hrd hn hb (by omega) hlen (by omega)

theorem walk (a0 : Option Addr) (c0 n0 : Nat) (z0 : List Int) (w : World) (r0 : RdI w .u8 a0 c0 z0) (l0 : z0.length = n0) (b0 : ∀ z ∈ z0, (Lit.int .u8 z).wf = true) (s0 : n0 * 1 ≤ 140737488351232) :
    Calls Try.prog 4 #[.slice a0 n0 c0] w fun e w' => e = .returned (.bool true) ∧ Below w.heap.size w w' :=
  reads_any a0 c0 n0 z0 w (fun W a c h => refRead_any a c n0 z0 W h l0 (bytes_of b0) (by omega)) r0 l0 (bytes_of b0) (by omega)

set_option maxRecDepth 100000 in
theorem lifted (os : Os) (started : os.Started) (H : Type) (enc : TypeId × Value → H) :
    ReturnsInHanded {} Try.checked os 4 .any (Rows.msgReadsSpec.pre6 enc Try.prog Try.f4 Rows.msgReadsRow.domain false) (Rows.msgReadsSpec.post enc Try.prog Try.f4 false true false false) := by
  refine returnsInHanded_of_change_sized (C := Try.checked) own started (by kernel_rfl) Try.func4
    (ChangeSpec.witness6 (enc := enc) (C := Try.checked) false ⟨#[], #[.slice none 0 0], []⟩ 8 (by kernel_rfl) (by kernel_rfl) (by kernel_rfl) (by kernel_rfl)) ?_
  intro W base args ds gs before hval0 hW hcnd hsz0 _
  have hval : ∀ (j : Nat) t v, Try.f4.params[j]? = some t → args[j]? = some v → Value.okWide Try.prog W .any base t v := hval0
  have hsz : (DataW.weightsEach Try.prog (Try.f4.params.toList ++ Rows.msgReadsSpec.plain.varTypes Try.prog) (ds ++ gs)).all (· ≤ reachBytes) = true := hsz0
  have hW' := hW
  obtain ⟨p, q, hA0, hV, rfl, hfz, hnd⟩ := hW
  have hA : DataW.TrodAll enc Try.prog W 0 (fun _ => true) true Try.f4.params.toList args.toList ds p := hA0
  rw [Try.params4] at hA hval hsz
  obtain ⟨v0, vs0, d0, ds0, p0, q0, hargs, rfl, rfl, h0, r0⟩ := trodAll_cons hA
  obtain ⟨rfl, rfl, rfl⟩ := trodAll_nil r0
  obtain rfl : args = #[v0] := by cases args; simp_all
  obtain ⟨rfl, rfl⟩ := trodVars_none hV
  obtain ⟨a0, n0, c0, rfl⟩ := okWide_slice Try.underlying22 (hval 0 22 v0 rfl rfl)
  have k0 := h0
  have lt0 : ∀ x ∈ p0, x.block < W.heap.size := by obtain ⟨m, hm⟩ := k0; exact DataW.trod_lt m _ _ _ hm
  obtain ⟨z0, r0', l0, b0, s0⟩ : ∃ zs, RdI W .u8 a0 c0 zs ∧ zs.length = n0 ∧ (∀ z ∈ zs, (Lit.int .u8 z).wf = true) ∧ n0 * 1 ≤ 140737488351232 := by
    obtain ⟨fuel, hf⟩ := h0
    rcases open_ints Try.underlying22 Try.underlying5 (by kernel_rfl) hf with ⟨hcs, _⟩ | ⟨x, l, c, zs, hcs, _, hl, hm, hz, hx, hcell, hwz⟩
    · simp [Value.cells] at hcs
      obtain ⟨rfl, rfl, rfl⟩ := hcs
      exact ⟨[], RdI.empty W .u8, rfl, by simp, by omega⟩
    · simp [Value.cells] at hcs
      obtain ⟨rfl, rfl, rfl⟩ := hcs
      have hd : d0 = .slice (lits .u8 (zs.take n0)) (lits .u8 (zs.drop n0)) := (Prod.mk.inj hx).1
      have hs := sized_slice hsz (j := 0) (t := 22) (e := 5) rfl (by rw [hd]; rfl) Try.underlying22
      have hz2 : zs.length = c0 := by simpa using hz
      rw [bytes5] at hs
      simp only [lits, List.length_map, List.length_take, List.length_drop, reachBytes] at hs
      exact ⟨zs.take n0, rdI_of_row hl hm hz2 hcell, by simp; omega, fun z h => hwz z (List.mem_of_mem_take h), by omega⟩
  clear hA0 hval0
  refine (walk a0 c0 n0 z0 W r0' l0 b0 s0).mono fun e W' ⟨he, bel⟩ => ?_
  subst he
  exact ⟨_, rfl, _, _, _, [], _, [], hW', trodAll_mk1 (shut_bool Try.underlying4 _), (trodAll_cons_mk (Below.trod laidOut (by kernel_rfl) (of_decide_eq_true (by kernel_rfl)) k0 bel lt0) trodAll_mk0), rfl, bel.frame _, fun h => by cases h⟩

theorem over : Rows.msgReadsRow.holds Try.pinned (OpenSpec.ofChange Rows.msgReadsSpec) :=
  OpenClaim.holds_of_wide 4 Try.f4 rfl rfl rfl rfl rfl rfl rfl ⟨rfl, rfl, rfl, rfl, rfl⟩ rfl rfl rfl rfl rfl (by kernel_rfl) Try.func4 (by kernel_rfl)
    (of_decide_eq_true (by kernel_rfl)) (by unfold Func.isWrapper; first | (rw [if_pos (by decide +kernel)]; kernel_rfl) | (rw [if_neg (by decide +kernel)]; exact ⟨rfl, rfl⟩))
    (fun os started H enc _ => lifted os started H enc)

theorem proved : Rows.MsgReadsSaid := over
#print axioms proved
end Go.Proofs.Ytgeoeaadeemmcaa.msgReads
