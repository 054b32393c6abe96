/- A script and itself, read at two places: the document's Same, walked. -/
import Derived.Test.YtemldmjpanmdbaaGreatDoorTA
namespace Go.Proofs.YtemldmjpanmdbaaGreatDoor
open Go.RowKit
set_option linter.unusedVariables false

theorem fields25 : (Tryz.prog.fieldsOf 25).toList.map (fun f => (f.name, f.type, f.offset)) = [("Clients", 3, 0), ("Frames", 3, 1), ("Many", 3, 2), ("Patience", 3, 3), ("Room", 3, 4)] := by kernel_rfl
theorem eq25 (W : World) (c f m p r : Int) : (Op.equalIn 10000 25 (.agg #[.int .i64 c, .int .i64 f, .int .i64 m, .int .i64 p, .int .i64 r]) (.agg #[.int .i64 c, .int .i64 f, .int .i64 m, .int .i64 p, .int .i64 r])).run Tryz.prog W = .ok true W := by
  rw [run_equalIn_agg W 9999 25 _ _ (by kernel_rfl) (by kernel_rfl), eqF_eq, fields25]
  simp [eqF, go_sem]

theorem sameO_self (a b c : Int) (v : Nat × Nat) : sameO a b c v a b c v = true := by simp [sameO, sameB]

set_option maxHeartbeats 3200000 in
set_option maxRecDepth 100000 in
theorem same_self (c f m p r : Int) (ss : List Sg) (a1 a2 : Option Addr) (n c1 c2 : Nat) (w : World) (h1 : RdR stC w a1 c1 ss) (h2 : RdR stC w a2 c2 ss) (hn : ss.length = n) (hw : ∀ s ∈ ss, wordB s.v) :
    Calls Tryz.prog 9 #[scV ⟨c, f, m, p, r, ss⟩ a1 n c1, scV ⟨c, f, m, p, r, ss⟩ a2 n c2] w fun x w' => x = .returned (.bool true) ∧ Below w.heap.size w w' := by
  have hst := fun (ad : Addr) (re im : Nat) (W : World) => run_store Tryz.prog W ad (.complex .f64 re im) .plain rfl
  have hq := fun W => eq25 W c f m p r
  have hB1 := below_box w (scO ⟨c, f, m, p, r, ss⟩ a1 n c1)
  have hs1 := ScAt.new w ⟨c, f, m, p, r, ss⟩ a1 n c1
  have hB2 := below_box (w.alloc (scO ⟨c, f, m, p, r, ss⟩ a1 n c1)) (scO ⟨c, f, m, p, r, ss⟩ a2 n c2)
  have hs2 := ScAt.new (w.alloc (scO ⟨c, f, m, p, r, ss⟩ a1 n c1)) ⟨c, f, m, p, r, ss⟩ a2 n c2
  have hs1' := hs1.below hB2
  have hle1 := h1.le
  have hle2 := h2.le
  have hmx1 := h1.mx
  have h63 : n ≤ 9223372036854775807 := by have := hmx1; unfold maxLen at this; omega
  have hsz : (w.alloc (scO ⟨c, f, m, p, r, ss⟩ a1 n c1)).heap.size = w.heap.size + 1 := Array.size_push _
  have hB : Below w.heap.size w ((w.alloc (scO ⟨c, f, m, p, r, ss⟩ a1 n c1)).alloc (scO ⟨c, f, m, p, r, ss⟩ a2 n c2)) := hB1.trans (hB2.mono hB1.size)
  rw [hsz] at hs2
  go_enter Tryz.func9, Tryz.ntmps9
  go_upto_region 1 with fail
  generalize (w.alloc (scO ⟨c, f, m, p, r, ss⟩ a1 n c1)).alloc (scO ⟨c, f, m, p, r, ss⟩ a2 n c2) = W at *
  clear hB1 hB2 hs1 hsz
  have HS : Hid (ScAt W w.heap.size ⟨c, f, m, p, r, ss⟩ a1 n c1 ∧ ScAt W (w.heap.size + 1) ⟨c, f, m, p, r, ss⟩ a2 n c2 ∧ Below w.heap.size w W ∧ RdR stC W a1 c1 ss ∧ RdR stC W a2 c2 ss ∧ ∀ s ∈ ss, wordB s.v) := ⟨hs1', hs2, hB, h1.below hB, h2.below hB, hw⟩
  obtain ⟨x0, x1, x2, x3, x4, x5⟩ := hs1'.cells
  obtain ⟨y0, y1, y2, y3, y4, y5⟩ := hs2.cells
  simp only at x0 x1 x2 x3 x4 x5 y0 y1 y2 y3 y4 y5
  clear hs1' hs2 hB h1 h2 hw
  go_upto_region 4 with fail
  go_loopw [25] (fun i wr => ∃ k : Nat, k ≤ n ∧ i = .int .i64 k ∧ Below W.heap.size W wr) (fun i _ => n - (intOf i).toNat)
  case atStart => exact ⟨0, Nat.zero_le _, rfl, Below.refl _ _⟩
  case round =>
    obtain ⟨k, hk, rfl, hbel⟩ := hrel
    have hsw := hbel.size
    clear x0 x1 x2 x3 x4 x5 y0 y1 y2 y3 y4 y5
    by_cases hlt : k < n
    · have hsw0 := HS.out.2.2.2.2.2 ss[k] (List.getElem_mem _)
      obtain ⟨b1, o1, rfl, hb1, hq1⟩ := (HS.out.2.2.2.1.below hbel).at stE (t := k) (by omega)
      obtain ⟨b2, o2, rfl, hb2, hq2⟩ := (HS.out.2.2.2.2.1.below hbel).at stE (t := k) (by omega)
      generalize ss[k] = s at *
      obtain ⟨sk, sc, sl, sn, sa, sm, sok, sop, soo, vx, vy⟩ := s
      have HQ1 := stIn _ _ _ _ hq1
      have HQ2 := stIn _ _ _ _ hq2
      simp only at HQ1 HQ2
      obtain ⟨q0, q1, q2, q3, q4, q5, q6, q7, q8, q9⟩ := HQ1
      obtain ⟨r0, r1, r2, r3, r4, r5, r6, r7, r8, r9⟩ := HQ2
      obtain ⟨x0, x1, x2, x3, x4, x5⟩ := (HS.out.1.below hbel).cells
      obtain ⟨y0, y1, y2, y3, y4, y5⟩ := (HS.out.2.1.below hbel).cells
      have HBL : Hid (Below W.heap.size W wr) := hbel
      have HLT : Hid (k < n) := hlt
      have hgA : w.heap.size < wr.heap.size := (HS.out.1.below hbel).lt
      have hgB : w.heap.size + 1 < wr.heap.size := (HS.out.2.1.below hbel).lt
      clear hq1 hq2 hbel
      go_upto_region 6 with fail
      have hO : ∀ U : World, Calls Tryz.prog 21 #[opV sok sop soo (vx, vy), opV sok sop soo (vx, vy)] U fun x w' => x = .returned (.bool true) ∧ Below U.heap.size U w' := by
        intro U
        have := sameOp_any sok sop soo (vx, vy) sok sop soo (vx, vy) hsw0 hsw0 U
        rwa [sameO_self] at this
      have hsz6 : (wr.alloc (sgO ⟨sk, sc, sl, sn, sa, sm, sok, sop, soo, (vx, vy)⟩)).heap.size = wr.heap.size + 1 := Array.size_push _
      have hA6 := (SgAt.new wr ⟨sk, sc, sl, sn, sa, sm, sok, sop, soo, (vx, vy)⟩).below (below_box (wr.alloc (sgO ⟨sk, sc, sl, sn, sa, sm, sok, sop, soo, (vx, vy)⟩)) (sgO ⟨sk, sc, sl, sn, sa, sm, sok, sop, soo, (vx, vy)⟩))
      have hB6 := SgAt.new (wr.alloc (sgO ⟨sk, sc, sl, sn, sa, sm, sok, sop, soo, (vx, vy)⟩)) ⟨sk, sc, sl, sn, sa, sm, sok, sop, soo, (vx, vy)⟩
      rw [hsz6] at hB6
      have hC6 : Below W.heap.size W ((wr.alloc (sgO ⟨sk, sc, sl, sn, sa, sm, sok, sop, soo, (vx, vy)⟩)).alloc (sgO ⟨sk, sc, sl, sn, sa, sm, sok, sop, soo, (vx, vy)⟩)).drew := by
        have h := (HBL.out.alloc hsw (sgO ⟨sk, sc, sl, sn, sa, sm, sok, sop, soo, (vx, vy)⟩)).alloc (by rw [hsz6]; omega) (sgO ⟨sk, sc, sl, sn, sa, sm, sok, sop, soo, (vx, vy)⟩)
        exact ⟨h.os, h.tape, h.output, h.size, h.block⟩
      have H6 : Hid (SgAt ((wr.alloc (sgO ⟨sk, sc, sl, sn, sa, sm, sok, sop, soo, (vx, vy)⟩)).alloc (sgO ⟨sk, sc, sl, sn, sa, sm, sok, sop, soo, (vx, vy)⟩)).drew wr.heap.size ⟨sk, sc, sl, sn, sa, sm, sok, sop, soo, (vx, vy)⟩ ∧ SgAt ((wr.alloc (sgO ⟨sk, sc, sl, sn, sa, sm, sok, sop, soo, (vx, vy)⟩)).alloc (sgO ⟨sk, sc, sl, sn, sa, sm, sok, sop, soo, (vx, vy)⟩)).drew (wr.heap.size + 1) ⟨sk, sc, sl, sn, sa, sm, sok, sop, soo, (vx, vy)⟩ ∧ Below W.heap.size W ((wr.alloc (sgO ⟨sk, sc, sl, sn, sa, sm, sok, sop, soo, (vx, vy)⟩)).alloc (sgO ⟨sk, sc, sl, sn, sa, sm, sok, sop, soo, (vx, vy)⟩)).drew) := ⟨hA6, hB6, hC6⟩
      clear hA6 hB6 hC6 hsw0 hsz6
      go_region
      all_goals
        go_upto_region 7 with fail
        clear q0 q1 q2 q3 q4 q5 q6 q7 q8 q9 r0 r1 r2 r3 r4 r5 r6 r7 r8 r9 x0 x1 x2 x3 x4 x5 y0 y1 y2 y3 y4 y5
        generalize ((wr.alloc (sgO ⟨sk, sc, sl, sn, sa, sm, sok, sop, soo, (vx, vy)⟩)).alloc (sgO ⟨sk, sc, sl, sn, sa, sm, sok, sop, soo, (vx, vy)⟩)).drew = W6 at *
        obtain ⟨q0, q1, q2, q3, q4, q5, q6, q7, q8, q9⟩ := H6.out.1.cells
        obtain ⟨r0, r1, r2, r3, r4, r5, r6, r7, r8, r9⟩ := H6.out.2.1.cells
        simp only at q0 q1 q2 q3 q4 q5 q6 q7 q8 q9 r0 r1 r2 r3 r4 r5 r6 r7 r8 r9
        go_wp2_with (first
          | (go_at_call 21; refine (hO _).mono ?_; rintro x w7 ⟨rfl, hb7⟩))
        go_roundw
        case rel =>

          exact ⟨k + 1, by have := HLT.out; omega, by go_num, H6.out.2.2.trans (hb7.mono H6.out.2.2.size)⟩
        case measure => have := HLT.out; simp [intOf]; omega
    · go_wp2
      go_ret
      exact ⟨rfl, HS.out.2.2.1.trans (hbel.mono HS.out.2.2.1.size)⟩
end Go.Proofs.YtemldmjpanmdbaaGreatDoor
