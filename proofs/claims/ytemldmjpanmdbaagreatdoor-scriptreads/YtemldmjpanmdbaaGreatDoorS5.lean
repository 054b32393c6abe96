/- Which scripts are right: canBe, New of a Config that can't be, and Right, walked. -/
import Derived.Test.YtemldmjpanmdbaaGreatDoorA4
import Derived.Test.YtemldmjpanmdbaaGreatDoorNl
import Derived.Test.YtemldmjpanmdbaaGreatDoorB6
namespace Go.Proofs.YtemldmjpanmdbaaGreatDoor
open Go.RowKit
set_option linter.unusedVariables false

theorem hwithin_any (n a b : Int) (w : World) : Calls Tryz.prog 57 #[.int .i64 n, .int .i64 a, .int .i64 b] w fun e w' => e = .returned (.bool (bw n a b)) ∧ w' = w := by
  go_enter Tryz.func57, Tryz.ntmps57
  go_wp2
  all_goals
    go_ret
    exact ⟨ret_bool (by first | (simp_all [bw]; done) | (simp_all [bw]; omega)), rfl⟩

set_option maxHeartbeats 400000 in
theorem canBe_any (c f m p r : Int) (w : World) : Calls Tryz.prog 30 #[cfV c f m p r] w fun x w' => x = .returned (.bool (rightSc.canC c f m p r)) ∧ Below w.heap.size w w' := by
  have hB0 : Below w.heap.size w (w.alloc (.cells #[.int .i64 c, .int .i64 f, .int .i64 m, .int .i64 p, .int .i64 r] 25)) := below_box _ _
  unfold cfV
  go_enter Tryz.func30, Tryz.ntmps30
  go_wp2_with (first
    | (go_at_call 57; refine (hwithin_any _ _ _ _).mono ?_; rintro x w0 ⟨rfl, hw⟩; subst w0))
  all_goals
    go_ret
    exact ⟨ret_bool (by simp_all [rightSc.canC]), hB0⟩

theorem new_wrong {c f m p r : Int} (h : rightSc.canC c f m p r = false) (w : World) : Calls Tryz.prog 15 #[cfV c f m p r] w fun x w' => x = .returned (.tuple #[.pointer none, .int .i64 211]) ∧ Below w.heap.size w w' := by
  have hB0 : Below w.heap.size w (w.alloc (.cells #[.int .i64 c, .int .i64 f, .int .i64 m, .int .i64 p, .int .i64 r] 25)) := below_box _ _
  have HC := fun w => canBe_any c f m p r w
  rw [h] at HC
  clear h
  unfold cfV at *
  go_enter Tryz.func15, Tryz.ntmps15
  go_wp2_with (first
    | (go_at_call 30; refine (HC _).mono ?_; rintro x w1 ⟨rfl, hb1⟩; have hB1 : Below w.heap.size w w1 := hB0.trans (hb1.mono (by simp))))
  go_ret2
  exact ⟨rfl, hB1⟩

/-- The error of New. -/
def newE (c f m p r : Int) : Int := if rightSc.canC c f m p r then 0 else 211
theorem new_any (c f m p r : Int) (w : World) : Calls Tryz.prog 15 #[cfV c f m p r] w fun x w' => (∃ a, x = .returned (.tuple #[.pointer a, .int .i64 (newE c f m p r)])) ∧ Below w.heap.size w w' := by
  unfold newE
  cases h : rightSc.canC c f m p r
  · refine (new_wrong h w).mono ?_
    rintro x w' ⟨rfl, hb⟩
    exact ⟨⟨none, rfl⟩, hb⟩
  · refine (new_right (c := c) (f := f) (m := m) (p := p) (r := r) h w).mono ?_
    rintro x w' ⟨⟨a, rfl⟩, hb⟩
    exact ⟨⟨some a, rfl⟩, hb⟩

/-- The cells of a step. -/
def stC (s : Sg) : List Value := [.int .i64 s.k, .int .i64 s.c, .int .i64 s.l, .int .i64 s.n, .int .i64 s.a, .int .u16 s.m, .int .i64 s.ok, .int .i64 s.op, .int .i64 s.oo, .complex .f64 s.v.1 s.v.2]
theorem stE : Enc stC 10 := ⟨fun _ => rfl, fun x u hu => by simp only [stC, List.mem_cons, List.not_mem_nil, or_false] at hu; rcases hu with rfl | rfl | rfl | rfl | rfl | rfl | rfl | rfl | rfl | rfl <;> rfl, by omega⟩
theorem stIn (s : Sg) (w : World) (g o : Nat) (h : ∀ j u, (stC s)[j]? = some u → w.cell? ⟨g, o + j, none⟩ = some u) :
    w.cell? ⟨g, o, none⟩ = some (.int .i64 s.k) ∧ w.cell? ⟨g, o + 1, none⟩ = some (.int .i64 s.c) ∧ w.cell? ⟨g, o + 2, none⟩ = some (.int .i64 s.l) ∧ w.cell? ⟨g, o + 3, none⟩ = some (.int .i64 s.n) ∧ w.cell? ⟨g, o + 4, none⟩ = some (.int .i64 s.a) ∧
    w.cell? ⟨g, o + 5, none⟩ = some (.int .u16 s.m) ∧ w.cell? ⟨g, o + 6, none⟩ = some (.int .i64 s.ok) ∧ w.cell? ⟨g, o + 7, none⟩ = some (.int .i64 s.op) ∧ w.cell? ⟨g, o + 8, none⟩ = some (.int .i64 s.oo) ∧ w.cell? ⟨g, o + 9, none⟩ = some (.complex .f64 s.v.1 s.v.2) :=
  ⟨h 0 _ rfl, h 1 _ rfl, h 2 _ rfl, h 3 _ rfl, h 4 _ rfl, h 5 _ rfl, h 6 _ rfl, h 7 _ rfl, h 8 _ rfl, h 9 _ rfl⟩

/-- A script as a value, and in a block. -/
abbrev scV (S : Scr) (ao : Option Addr) (n cap : Nat) : Value := .agg #[.int .i64 S.c, .int .i64 S.f, .int .i64 S.m, .int .i64 S.p, .int .i64 S.r, .slice ao n cap]
abbrev scO (S : Scr) (ao : Option Addr) (n cap : Nat) : Obj := .cells #[.int .i64 S.c, .int .i64 S.f, .int .i64 S.m, .int .i64 S.p, .int .i64 S.r, .slice ao n cap] 28
def ScAt (w : World) (g : Nat) (S : Scr) (ao : Option Addr) (n cap : Nat) : Prop := w.heap[g]? = some (scO S ao n cap)
section
variable {w w' : World} {g : Nat} {S : Scr} {ao : Option Addr} {n cap : Nat}
theorem ScAt.lt (h : ScAt w g S ao n cap) : g < w.heap.size := (Array.getElem?_eq_some_iff.1 h).1
theorem ScAt.below (h : ScAt w g S ao n cap) (hb : Below w.heap.size w w') : ScAt w' g S ao n cap := (hb.block g h.lt).trans h
theorem ScAt.new (w : World) (S : Scr) (ao : Option Addr) (n cap : Nat) : ScAt (w.alloc (scO S ao n cap)) w.heap.size S ao n cap := heap_alloc_new w _
theorem ScAt.cells (h : ScAt w g S ao n cap) : w.cell? ⟨g, 0, none⟩ = some (.int .i64 S.c) ∧ w.cell? ⟨g, 1, none⟩ = some (.int .i64 S.f) ∧ w.cell? ⟨g, 2, none⟩ = some (.int .i64 S.m) ∧
    w.cell? ⟨g, 3, none⟩ = some (.int .i64 S.p) ∧ w.cell? ⟨g, 4, none⟩ = some (.int .i64 S.r) ∧ w.cell? ⟨g, 5, none⟩ = some (.slice ao n cap) := by
  refine ⟨?_, ?_, ?_, ?_, ?_, ?_⟩ <;> (rw [cell_of_row _ _ _ _ _ _ h]; rfl)
end

set_option maxHeartbeats 1600000 in
theorem right_any (c f m p r : Int) (ss : List Sg) (ao : Option Addr) (n cap : Nat) (w : World) (h : RdR stC w ao cap ss) (hn : ss.length = n) :
    Calls Tryz.prog 6 #[scV ⟨c, f, m, p, r, ss⟩ ao n cap] w fun x w' => x = .returned (.bool (rightSc ⟨c, f, m, p, r, ss⟩)) ∧ Below w.heap.size w w' := by
  have hst := fun (ad : Addr) (re im : Nat) (W : World) => run_store Tryz.prog W ad (.complex .f64 re im) .plain rfl
  have hB0 : Below w.heap.size w (w.alloc (scO ⟨c, f, m, p, r, ss⟩ ao n cap)) := below_box _ _
  have hle := h.le
  have hmx := h.mx
  by_cases h5 : 500 < n
  · have hR : rightSc ⟨c, f, m, p, r, ss⟩ = false := by simp [rightSc]; omega
    rw [hR]
    clear hR
    go_enter Tryz.func6, Tryz.ntmps6
    go_wp2
    go_ret
    exact ⟨rfl, hB0⟩
  · have hR : rightSc ⟨c, f, m, p, r, ss⟩ = (ss.all rightS && rightSc.canC c f m p r) := by
      unfold rightSc
      rw [decide_eq_true (show ss.length ≤ 500 by omega), Bool.true_and]
    rw [hR]
    clear hR
    have h1 : RdR stC (w.alloc (scO ⟨c, f, m, p, r, ss⟩ ao n cap)) ao cap ss := h.below hB0
    have hs := ScAt.new w ⟨c, f, m, p, r, ss⟩ ao n cap
    have hsz : w.heap.size ≤ (w.alloc (scO ⟨c, f, m, p, r, ss⟩ ao n cap)).heap.size := by simp
    go_enter Tryz.func6, Tryz.ntmps6
    go_upto_region 1 with fail
    generalize w.alloc (scO ⟨c, f, m, p, r, ss⟩ ao n cap) = W at *
    obtain ⟨a0, a1, a2, a3, a4, a5⟩ := hs.cells
    simp only at a0 a1 a2 a3 a4 a5
    have HS : Hid (ScAt W w.heap.size ⟨c, f, m, p, r, ss⟩ ao n cap) := hs
    have H1 : Hid (RdR stC W ao cap ss) := h1
    have HB0 : Hid (Below w.heap.size w W) := hB0
    clear hs h1 hB0 h
    go_wp2
    go_loopw [14] (fun i wr => ∃ k : Nat, k ≤ n ∧ i = .int .i64 k ∧ ss.all rightS = (ss.drop k).all rightS ∧ Below W.heap.size W wr) (fun i _ => n - (intOf i).toNat)
    case atStart => exact ⟨0, Nat.zero_le _, rfl, by simp, Below.refl _ _⟩
    case round =>
      obtain ⟨k, hk, rfl, hall, hbel⟩ := hrel
      have hsw := hbel.size
      by_cases hlt : k < n
      · obtain ⟨b, off, rfl, hb, hq⟩ := (H1.out.below hbel).at stE (t := k) (by omega)
        rw [List.drop_eq_getElem_cons (by omega), List.all_cons] at hall
        generalize ss[k] = s at *
        obtain ⟨sk, sc, sl, sn, sa, sm, sok, sop, soo, vx, vy⟩ := s
        obtain ⟨q0, q1, q2, q3, q4, q5, q6, q7, q8, q9⟩ := stIn _ _ _ _ hq
        simp only at q0 q1 q2 q3 q4 q5 q6 q7 q8 q9
        clear hq
        have HA : Hid (ss.all rightS = (rightS ⟨sk, sc, sl, sn, sa, sm, sok, sop, soo, vx, vy⟩ && (ss.drop (k + 1)).all rightS)) := hall
        clear hall
        have HBL : Hid (Below W.heap.size W wr) := hbel
        clear hbel
        have hR := fun W => rightStep_any ⟨sk, sc, sl, sn, sa, sm, sok, sop, soo, vx, vy⟩ W
        cases hr : rightS ⟨sk, sc, sl, sn, sa, sm, sok, sop, soo, vx, vy⟩
        · rw [hr] at hR
          go_wp2_with (first
            | (go_at_call 14; refine (hR _).mono ?_; rintro x w1 ⟨rfl, hb1⟩))
          go_ret
          exact ⟨ret_bool (by rw [HA.out, hr]; rfl), HB0.out.trans (((HBL.out.alloc hsw _).trans (hb1.mono (by simp; omega))).mono HB0.out.size)⟩
        · rw [hr] at hR
          go_wp2_with (first
            | (go_at_call 14; refine (hR _).mono ?_; rintro x w1 ⟨rfl, hb1⟩))
          go_roundw
          case rel => exact ⟨k + 1, by omega, by go_num, by rw [HA.out, hr, Bool.true_and], (HBL.out.alloc hsw _).trans (hb1.mono (by simp; omega))⟩
          case measure => simp [intOf]; omega
      · have hk2 : k = n := by omega
        subst hk2
        have hd : ss.all rightS = true := by rw [hall, List.drop_of_length_le (by omega)]; rfl
        have HD : Hid (ss.all rightS = true) := hd
        clear hd hall
        obtain ⟨b0, b1, b2, b3, b4, b5⟩ := (HS.out.below hbel).cells
        simp only at b0 b1 b2 b3 b4 b5
        have HBL : Hid (Below W.heap.size W wr) := hbel
        clear hbel a0 a1 a2 a3 a4 a5
        have hN := fun W => new_any c f m p r W
        unfold newE cfV at hN
        cases hc : rightSc.canC c f m p r
        all_goals
          rw [hc] at hN
          simp only [if_true, Bool.false_eq_true, if_false] at hN
          go_wp2_with (first
            | (go_at_call 15; refine (hN _).mono ?_; rintro x w1 ⟨⟨aa, rfl⟩, hb1⟩))
          go_ret
          exact ⟨ret_bool (by rw [HD.out, hc]; rfl), HB0.out.trans ((HBL.out.trans (hb1.mono hsw)).mono HB0.out.size)⟩
end Go.Proofs.YtemldmjpanmdbaaGreatDoor
