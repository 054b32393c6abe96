/- What Read of package msg does with any bytes, walked. -/
import Derived.Test.YtgeoeaadeemmcaaMa
import Derived.Deep.RegionHeld
namespace Go.Proofs.Ytgeoeaadeemmcaa
open Go.RowKit
set_option linter.unusedVariables false

/-- What is told: a message, or none. -/
def outM (o : Option Mg) : Mg := o.getD mgZ

def outE (o : Option Mg) : Int := if o.isSome then 0 else 101

/-- How Read may end. -/
def ReadR (zs : List Int) (w : World) (x : Ending) (w' : World) : Prop :=
  ∃ a' n' c', x = .returned (.tuple #[msV (outM (parse zs)) a' n' c', .int .i64 (outE (parse zs))]) ∧ RdP w' a' n' c' (outM (parse zs)).ps ∧ Below w.heap.size w w'

theorem readR_none {zs : List Int} {w : World} {x : Ending} {w' : World} (hp : parse zs = none) (hx : x = .returned (.tuple #[msV mgZ none 0 0, .int .i64 101])) (hb : Below w.heap.size w w') : ReadR zs w x w' :=
  ⟨none, 0, 0, by rw [hp]; exact hx, by rw [hp]; exact RdP.none _, hb⟩

theorem readR_some {zs : List Int} {w : World} {x : Ending} {w' : World} {M : Mg} {a : Option Addr} {n c : Nat} (hp : parse zs = some M) (hx : x = .returned (.tuple #[msV M a n c, .int .i64 0])) (hr : RdP w' a n c M.ps) (hb : Below w.heap.size w w') : ReadR zs w x w' :=
  ⟨a, n, c, by rw [hp]; exact hx, by rw [hp]; exact hr, hb⟩

set_option maxHeartbeats 1600000 in
set_option maxRecDepth 100000 in
theorem read_D (ao : Option Addr) (cap n q : Nat) (zs : List Int) (w : World) (hrd : RdI w .u8 ao cap zs) (hn : zs.length = n) (hb : ∀ z ∈ zs, 0 ≤ z ∧ z < 256) (h24 : 24 ≤ n) (hlen : n ≤ 140737488355328) (hf : isFlg (nAt zs 6) = true) (hq : nAt zs 7 = (q : Int)) (h7 : (q : Int) ≤ 24) (hT : takeP q (zs.drop 24) = none) :
    Calls Try.prog 8 #[.slice ao n cap] w (ReadR zs w) := by
  have hst := fun (ad : Addr) (re im : Nat) (W : World) => run_store Try.prog W ad (.complex .f64 re im) .plain rfl
  have hr0 := hrd.alloc (msO mgZ none 0 0)
  have hM0 := MgAt.new w mgZ none 0 0
  have HB : Hid (∀ z ∈ zs, 0 ≤ z ∧ z < 256) := hb
  have HBD : Hid (∀ z ∈ zs.drop 24, 0 ≤ z ∧ z < 256) := fun z hz => hb z (List.mem_of_mem_drop hz)
  have HDL : Hid ((zs.drop 24).length = n - 24) := by simp [Hid, hn]
  have HQ : Hid (nAt zs 7 = (q : Int)) := hq
  have HPa : Hid (parse zs = match takeP q (zs.drop 24) with
    | none => none
    | some (ps, r) =>
      if nAt zs 0 = 5 then match takeV 4 r with
        | none => none
        | some (v, s) => fin (withV (mg0 zs ps) v) s
      else fin (mg0 zs ps) r) := by
    have e7 : ¬ 24 < nAt zs 7 := by omega
    rw [Hid, parse, if_neg (by omega), if_neg (by rw [hf]; simp), if_neg e7, hq]; rfl
  clear hb hrd hq
  rw [hT] at HPa
  have HT : Hid _ := hT
  clear hT
  go_enter Try.func8, Try.ntmps8
  go_upto_region 4 with (first
    | (go_at_call 22; refine (get_eight _ _ _ (n - 24) zs _ hr0 hn HB.out h24 rfl hlen).mono ?_; rintro x w1 ⟨b, f, c1, a2, c2, rfl, hbl, p0, p1, p2, p3, p4, p5, p6, p7, ho, hb1⟩; rw [HQ.out] at p7; have s7 : (w1.alloc (.cells #[.int .i64 (nAt zs 0), .int .i64 (nAt zs 1), .int .i64 (nAt zs 2), .int .i64 (nAt zs 3), .int .i64 (nAt zs 4), .int .i64 (nAt zs 5), .bool (nAt zs 6 == 1), .slice none 0 0, .complex .f64 0 0, .complex .f64 0 0, .complex .f64 0 0, .complex .f64 0 0] 30)).drew.cell? ⟨b, f + 7, none⟩ = some (.int .i64 (q : Int)) := ((below_box w1 (.cells #[.int .i64 (nAt zs 0), .int .i64 (nAt zs 1), .int .i64 (nAt zs 2), .int .i64 (nAt zs 3), .int .i64 (nAt zs 4), .int .i64 (nAt zs 5), .bool (nAt zs 6 == 1), .slice none 0 0, .complex .f64 0 0, .complex .f64 0 0, .complex .f64 0 0, .complex .f64 0 0] 30)).cell (p := ⟨b, f + 7, none⟩) hbl.2).trans p7; have HMZ : Hid (MgAt (w1.alloc (.cells #[.int .i64 (nAt zs 0), .int .i64 (nAt zs 1), .int .i64 (nAt zs 2), .int .i64 (nAt zs 3), .int .i64 (nAt zs 4), .int .i64 (nAt zs 5), .bool (nAt zs 6 == 1), .slice none 0 0, .complex .f64 0 0, .complex .f64 0 0, .complex .f64 0 0, .complex .f64 0 0] 30)).drew w.heap.size mgZ none 0 0) := ((hM0.below hb1).below (below_box w1 (.cells #[.int .i64 (nAt zs 0), .int .i64 (nAt zs 1), .int .i64 (nAt zs 2), .int .i64 (nAt zs 3), .int .i64 (nAt zs 4), .int .i64 (nAt zs 5), .bool (nAt zs 6 == 1), .slice none 0 0, .complex .f64 0 0, .complex .f64 0 0, .complex .f64 0 0, .complex .f64 0 0] 30))).below (Below.refl _ _).drew; have HM : Hid (MgAt (w1.alloc (.cells #[.int .i64 (nAt zs 0), .int .i64 (nAt zs 1), .int .i64 (nAt zs 2), .int .i64 (nAt zs 3), .int .i64 (nAt zs 4), .int .i64 (nAt zs 5), .bool (nAt zs 6 == 1), .slice none 0 0, .complex .f64 0 0, .complex .f64 0 0, .complex .f64 0 0, .complex .f64 0 0] 30)).drew w1.heap.size (mg0 zs []) none 0 0) := (MgAt.new w1 (mg0 zs []) none 0 0).below (Below.refl _ _).drew; have HB1 : Hid (Below w.heap.size w (w1.alloc (.cells #[.int .i64 (nAt zs 0), .int .i64 (nAt zs 1), .int .i64 (nAt zs 2), .int .i64 (nAt zs 3), .int .i64 (nAt zs 4), .int .i64 (nAt zs 5), .bool (nAt zs 6 == 1), .slice none 0 0, .complex .f64 0 0, .complex .f64 0 0, .complex .f64 0 0, .complex .f64 0 0] 30)).drew) := (below_step (below_alloc (hb1.mono (by simp))) (below_box _ _)).drew; have HG : Hid (w.heap.size < w1.heap.size) := (hM0.below hb1).lt; have HO : Hid (RdI (w1.alloc (.cells #[.int .i64 (nAt zs 0), .int .i64 (nAt zs 1), .int .i64 (nAt zs 2), .int .i64 (nAt zs 3), .int .i64 (nAt zs 4), .int .i64 (nAt zs 5), .bool (nAt zs 6 == 1), .slice none 0 0, .complex .f64 0 0, .complex .f64 0 0, .complex .f64 0 0, .complex .f64 0 0] 30)).drew .u8 a2 c2 (zs.drop 24)) := (ho.rd.alloc _).drew; have HOB : Hid (∀ y, a2 = some y → y.block < w1.heap.size) := fun y hy => (ho.blk y hy).2; clear hb1 ho)
    | (go_at_call 23; refine (isFlag_any _ _).mono ?_; rw [hf]; rintro x w0 ⟨rfl, hw⟩; subst w0)
    | (fail))
  have HS : Hid (∀ W, Below w1.heap.size w1 W → (W.cell? ⟨b, f, none⟩ = some (.int .i64 (nAt zs 0)) ∧ W.cell? ⟨b, f + 1, none⟩ = some (.int .i64 (nAt zs 1)) ∧ W.cell? ⟨b, f + 2, none⟩ = some (.int .i64 (nAt zs 2)) ∧ W.cell? ⟨b, f + 3, none⟩ = some (.int .i64 (nAt zs 3)) ∧ W.cell? ⟨b, f + 4, none⟩ = some (.int .i64 (nAt zs 4)) ∧ W.cell? ⟨b, f + 5, none⟩ = some (.int .i64 (nAt zs 5)) ∧ W.cell? ⟨b, f + 6, none⟩ = some (.int .i64 (nAt zs 6)))) := fun W hW => ⟨(hW.cell (p := ⟨b, f, none⟩) hbl.2).trans p0, (hW.cell (p := ⟨b, f + 1, none⟩) hbl.2).trans p1, (hW.cell (p := ⟨b, f + 2, none⟩) hbl.2).trans p2, (hW.cell (p := ⟨b, f + 3, none⟩) hbl.2).trans p3, (hW.cell (p := ⟨b, f + 4, none⟩) hbl.2).trans p4, (hW.cell (p := ⟨b, f + 5, none⟩) hbl.2).trans p5, (hW.cell (p := ⟨b, f + 6, none⟩) hbl.2).trans p6⟩
  clear p0 p1 p2 p3 p4 p5 p6 p7
  first
    | go_region_held (fun W => W.cell? ⟨b, f, none⟩ = some (.int .i64 (nAt zs 0)) ∧ W.cell? ⟨b, f + 1, none⟩ = some (.int .i64 (nAt zs 1)) ∧ W.cell? ⟨b, f + 2, none⟩ = some (.int .i64 (nAt zs 2)) ∧ W.cell? ⟨b, f + 3, none⟩ = some (.int .i64 (nAt zs 3)) ∧ W.cell? ⟨b, f + 4, none⟩ = some (.int .i64 (nAt zs 4)) ∧ W.cell? ⟨b, f + 5, none⟩ = some (.int .i64 (nAt zs 5)) ∧ W.cell? ⟨b, f + 6, none⟩ = some (.int .i64 (nAt zs 6)))
      (first | exact HS.out _ (Below.refl _ _) | exact HS.out _ (Below.refl _ _).drew | exact HS.out _ ((Below.refl _ _).drew.alloc (Nat.le_refl _) _) | exact HS.out _ ((Below.refl _ _).alloc (Nat.le_refl _) _).drew | fail)
      (fail)
    | fail
  clear HS hbl
  generalize (w1.alloc (.cells #[.int .i64 (nAt zs 0), .int .i64 (nAt zs 1), .int .i64 (nAt zs 2), .int .i64 (nAt zs 3), .int .i64 (nAt zs 4), .int .i64 (nAt zs 5), .bool (nAt zs 6 == 1), .slice none 0 0, .complex .f64 0 0, .complex .f64 0 0, .complex .f64 0 0, .complex .f64 0 0] 30)).drew = W1 at *
  generalize w1.heap.size = g at *
  have hgW : g < W1.heap.size := HM.out.lt
  go_wp2_with (first
    | (go_at_call 24; refine (takePuts_any a2 c2 (n - 24) q (zs.drop 24) W1 HO.out HDL.out HBD.out (by omega) (by omega)).mono ?_; intro x w2 hP; have hP2 : x = .returned (.tuple #[.slice none 0 0, .slice none 0 0, .int .i64 21]) ∧ Below W1.heap.size W1 w2 := (by rcases hP with ⟨-, h1, h2⟩ | ⟨ps, r, a, c, a3, c3, e, -⟩; (exact ⟨h1, h2⟩); (rw [HT.out] at e; cases e)); obtain ⟨rfl, hb2⟩ := hP2; have tM := HM.out.below hb2; have tZ := HMZ.out.below hb2; have q0 : w2.cell? ⟨g, 0, none⟩ = some (.int .i64 (nAt zs 0)) := tM.c0; have q1 : w2.cell? ⟨g, 1, none⟩ = some (.int .i64 (nAt zs 1)) := tM.c1; have q2 : w2.cell? ⟨g, 2, none⟩ = some (.int .i64 (nAt zs 2)) := tM.c2; have q3 : w2.cell? ⟨g, 3, none⟩ = some (.int .i64 (nAt zs 3)) := tM.c3; have q4 : w2.cell? ⟨g, 4, none⟩ = some (.int .i64 (nAt zs 4)) := tM.c4; have q5 : w2.cell? ⟨g, 5, none⟩ = some (.int .i64 (nAt zs 5)) := tM.c5; have q6 : w2.cell? ⟨g, 6, none⟩ = some (.bool (nAt zs 6 == 1)) := tM.c6; have q7 : w2.cell? ⟨g, 7, none⟩ = some (.slice none 0 0) := tM.c7; have q8 : w2.cell? ⟨g, 8, none⟩ = some (.complex .f64 0 0) := tM.c8; have q9 : w2.cell? ⟨g, 9, none⟩ = some (.complex .f64 0 0) := tM.c9; have q10 : w2.cell? ⟨g, 10, none⟩ = some (.complex .f64 0 0) := tM.cA; have q11 : w2.cell? ⟨g, 11, none⟩ = some (.complex .f64 0 0) := tM.cB; have y := tM.fz; have z0 : w2.cell? ⟨w.heap.size, 0, none⟩ = some (.int .i64 0) := tZ.c0; have z1 : w2.cell? ⟨w.heap.size, 1, none⟩ = some (.int .i64 0) := tZ.c1; have z2 : w2.cell? ⟨w.heap.size, 2, none⟩ = some (.int .i64 0) := tZ.c2; have z3 : w2.cell? ⟨w.heap.size, 3, none⟩ = some (.int .i64 0) := tZ.c3; have z4 : w2.cell? ⟨w.heap.size, 4, none⟩ = some (.int .i64 0) := tZ.c4; have z5 : w2.cell? ⟨w.heap.size, 5, none⟩ = some (.int .i64 0) := tZ.c5; have z6 : w2.cell? ⟨w.heap.size, 6, none⟩ = some (.bool false) := tZ.c6; have z7 : w2.cell? ⟨w.heap.size, 7, none⟩ = some (.slice none 0 0) := tZ.c7; have z8 : w2.cell? ⟨w.heap.size, 8, none⟩ = some (.complex .f64 0 0) := tZ.c8; have z9 : w2.cell? ⟨w.heap.size, 9, none⟩ = some (.complex .f64 0 0) := tZ.c9; have z10 : w2.cell? ⟨w.heap.size, 10, none⟩ = some (.complex .f64 0 0) := tZ.cA; have z11 : w2.cell? ⟨w.heap.size, 11, none⟩ = some (.complex .f64 0 0) := tZ.cB; have yz := tZ.fz; have hB2 : Below w.heap.size w w2 := below_step HB1.out hb2; have hgn : g ≠ w.heap.size := (by have := HG.out; omega); clear tM tZ hP)
    | (fail))
  refine bodyPost_ret (by simp [results, Try.results8, go_sem, z0, z1, z2, z3, z4, z5, z6, z7, z8, z9, z10, z11]; try rfl) rfl ?_
  have le := Nat.le_refl w.heap.size
  have le2 := Nat.le_of_lt HG.out
  exact readR_none HPa.out rfl (((((((((((((hB2.setCell le2 _).setCell le _).setCell le _).setCell le _).setCell le _).setCell le _).setCell le _).setCell le _).setCell le _).setCell le _).setCell le _).setCell le _).setCell le _)

end Go.Proofs.Ytgeoeaadeemmcaa
