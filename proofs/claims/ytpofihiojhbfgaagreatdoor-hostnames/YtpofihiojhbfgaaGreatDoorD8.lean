/- answer and Handle of package desk, walked. -/
import Derived.Test.YtpofihiojhbfgaaGreatDoorC9
namespace Go.Proofs.YtpofihiojhbfgaaGreatDoor.Dsk
open Go.RowKit Go.Maps
set_option linter.unusedVariables false
set_option maxRecDepth 8000

def ans1 (T : Nat → Nat) (c p : Int) (k : Nat) (K : List Ck) : List Ck :=
  if (Tab.owI T c p).testBit k then (if (Tab.cpI T c p).testBit k then K else ansK K ⟨c, p, (k : Int), true⟩) else ansK (if (Tab.cpI T c p).testBit k then K else ansK K ⟨c, p, (k : Int), true⟩) ⟨c, p, (k : Int), false⟩
def ansU (T : Nat → Nat) (c p : Int) : Nat → List Ck → List Ck
  | 0, K => K
  | k + 1, K => ans1 T c p k (ansU T c p k K)
theorem cpI_lt {T : Nat → Nat} (hT : ∀ i, T i < 16) (c p : Int) : Tab.cpI T c p < 16 := by unfold Tab.cpI; split; exact hT _; decide
theorem owI_lt {T : Nat → Nat} (hT : ∀ i, T i < 16) (c p : Int) : Tab.owI T c p < 16 := by unfold Tab.owI; split; exact hT _; decide

set_option maxHeartbeats 6400000 in
theorem answer_desk {B : Nat} {V : Nat → Prop} {w : World} {d g q : Nat} {S : St} {n : Nat} (H : Dk B V w d g q S n) (hV : ∀ k, V k → k < w.heap.size) (c p : Int) (hc : inR c) (hp : inR p) : Calls Tryz.prog 125 #[dp d, .int .i64 c, .int .i64 p] w fun e w' => e = .returned (.tuple #[]) ∧ Dx B V w w' d g q ⟨S.T, S.L, ansU S.T c p 4 S.K⟩ n := by
  have HD : Hid (Dk B V w d g q S n ∧ (∀ k, V k → k < w.heap.size) ∧ inR c ∧ inR p) := ⟨H, hV, hc, hp⟩
  have h16 := cpI_lt H.tb.le c p
  have o16 := owI_lt H.tb.le c p
  have HC : Hid (Calls Tryz.prog 158 #[Tab.tp g, .int .i64 c, .int .i64 p] w.drew fun e w' => e = .returned (.int .i64 (Tab.cpI S.T c p : Nat)) ∧ w' = w.drew) := Tab.copies_any _ g _ (H.below (bel0 w)).tb c p
  have HO : Hid (Calls Tryz.prog 34 #[Tab.tp g, .int .i64 c, .int .i64 p] w.drew fun e w' => e = .returned (.int .i64 (Tab.owI S.T c p : Nat)) ∧ w' = w.drew) := Tab.own_any _ g _ (H.below (bel0 w)).tb c p
  have HK : Hid (∀ (k : Nat) (K : List Ck), ans1 S.T c p k K = if (Tab.owI S.T c p).testBit k then (if (Tab.cpI S.T c p).testBit k then K else ansK K ⟨c, p, (k : Int), true⟩) else ansK (if (Tab.cpI S.T c p).testBit k then K else ansK K ⟨c, p, (k : Int), true⟩) ⟨c, p, (k : Int), false⟩) := fun _ _ => rfl
  have hc0 := (H.below (bel0 w)).c0
  clear H hV hc hp
  generalize Tab.cpI S.T c p = CP at *
  generalize Tab.owI S.T c p = OW at *
  go_enter Tryz.func125, Tryz.ntmps125
  go_upto_region 0 with fail
  refine wp_region_held (S := fun U => U.cell? ⟨d, 0, none⟩ = some (Tab.tp g)) (by kernel_rfl) ?_
  have hS : w.drew.cell? ⟨d, 0, none⟩ = some (Tab.tp g) := hc0
  refine held_val (i := 0) ?_ 9 rfl rfl (by kernel_rfl) (by kernel_rfl) (by kernel_rfl) (by rfl) (fun _ _ _ h => h) hS ?_ ?_
  rotate_left
  · (intro w hSw; go_simp; first | done | with_reducible rfl)
  simp only [Act.put, List.setIfInBounds_toArray, List.set_cons_zero, List.set_cons_succ]
  refine held_val (i := 1) ?_ 10 rfl rfl (by kernel_rfl) (by kernel_rfl) (by kernel_rfl) (by rfl) (fun _ _ _ h => h) hS ?_ ?_
  rotate_left
  · (intro w hSw; go_simp; first | done | with_reducible rfl)
  simp only [Act.put, List.setIfInBounds_toArray, List.set_cons_zero, List.set_cons_succ]
  refine held_val (i := 2) ?_ 11 rfl rfl (by kernel_rfl) (by kernel_rfl) (by kernel_rfl) (by rfl) (fun _ _ _ h => h) hS ?_ ?_
  rotate_left
  · (intro w hSw; go_simp; first | done | with_reducible rfl)
  simp only [Act.put, List.setIfInBounds_toArray, List.set_cons_zero, List.set_cons_succ]
  refine held_val (i := 3) ?_ 12 rfl rfl (by kernel_rfl) (by kernel_rfl) (by kernel_rfl) (by rfl) (fun _ _ _ h => h) hS ?_ ?_
  rotate_left
  · (intro w hSw; have hk0 := hSw; go_simp; first | done | with_reducible rfl)
  simp only [Act.put, List.setIfInBounds_toArray, List.set_cons_zero, List.set_cons_succ]
  refine held_val (i := 4) ?_ 13 rfl rfl (by kernel_rfl) (by kernel_rfl) (by kernel_rfl) (by rfl) (fun _ _ _ h => h) hS ?_ ?_
  rotate_left
  · (intro w hSw; go_simp; first | done | with_reducible rfl)
  simp only [Act.put, List.setIfInBounds_toArray, List.set_cons_zero, List.set_cons_succ]
  refine held_val (i := 5) ?_ 14 rfl rfl (by kernel_rfl) (by kernel_rfl) (by kernel_rfl) (by rfl) (fun _ _ _ h => h) hS ?_ ?_
  rotate_left
  · (intro w hSw; go_simp; first | done | with_reducible rfl)
  simp only [Act.put, List.setIfInBounds_toArray, List.set_cons_zero, List.set_cons_succ]
  refine held_val (i := 7) ?_ 16 rfl rfl (by kernel_rfl) (by kernel_rfl) (by kernel_rfl) (by rfl) (fun _ _ _ h => h) hS ?_ ?_
  rotate_left
  · (intro w hSw; go_simp; first | done | with_reducible rfl)
  simp only [Act.put, List.setIfInBounds_toArray, List.set_cons_zero, List.set_cons_succ]
  refine held_val (i := 8) ?_ 17 rfl rfl (by kernel_rfl) (by kernel_rfl) (by kernel_rfl) (by rfl) (fun _ _ _ h => h) hS ?_ ?_
  rotate_left
  · (intro w hSw; go_simp; first | done | with_reducible rfl)
  simp only [Act.put, List.setIfInBounds_toArray, List.set_cons_zero, List.set_cons_succ]
  refine held_val (i := 9) ?_ 18 rfl rfl (by kernel_rfl) (by kernel_rfl) (by kernel_rfl) (by rfl) (fun _ _ _ h => h) hS ?_ ?_
  rotate_left
  · (intro w hSw; go_simp; first | done | with_reducible rfl)
  simp only [Act.put, List.setIfInBounds_toArray, List.set_cons_zero, List.set_cons_succ]
  refine held_val (i := 10) ?_ 19 rfl rfl (by kernel_rfl) (by kernel_rfl) (by kernel_rfl) (by rfl) (fun _ _ _ h => h) hS ?_ ?_
  rotate_left
  · (intro w hSw; have hk0 := hSw; go_simp; first | done | with_reducible rfl)
  simp only [Act.put, List.setIfInBounds_toArray, List.set_cons_zero, List.set_cons_succ]
  refine held_val (i := 11) ?_ 20 rfl rfl (by kernel_rfl) (by kernel_rfl) (by kernel_rfl) (by rfl) (fun _ _ _ h => h) hS ?_ ?_
  rotate_left
  · (intro w hSw; go_simp; first | done | with_reducible rfl)
  simp only [Act.put, List.setIfInBounds_toArray, List.set_cons_zero, List.set_cons_succ]
  refine held_val (i := 12) ?_ 21 rfl rfl (by kernel_rfl) (by kernel_rfl) (by kernel_rfl) (by rfl) (fun _ _ _ h => h) hS ?_ ?_
  rotate_left
  · (intro w hSw; go_simp; first | done | with_reducible rfl)
  simp only [Act.put, List.setIfInBounds_toArray, List.set_cons_zero, List.set_cons_succ]
  refine held_call (i := 6) 15 158 #[Tab.tp g, .int .i64 c, .int .i64 p] rfl rfl (by kernel_rfl) (by rfl) (by simp [go_sem]) HC.out ?_
  rintro e w6 ⟨rfl, rfl⟩
  refine ⟨_, rfl, hS, ?_⟩
  simp only [Act.put, List.setIfInBounds_toArray, List.set_cons_zero, List.set_cons_succ]
  refine held_call (i := 13) 22 34 #[Tab.tp g, .int .i64 c, .int .i64 p] rfl rfl (by kernel_rfl) (by rfl) (by simp [go_sem]) HO.out ?_
  rintro e w13 ⟨rfl, rfl⟩
  refine ⟨_, rfl, hS, ?_⟩
  simp only [Act.put, List.setIfInBounds_toArray, List.set_cons_zero, List.set_cons_succ]
  refine held_val (i := 14) ?_ 6 rfl rfl (by kernel_rfl) (by kernel_rfl) (by kernel_rfl) (by rfl) (fun _ _ _ h => h) hS ?_ ?_
  rotate_left
  · (intro w hSw; go_simp; first | done | with_reducible rfl)
  simp only [Act.put, List.setIfInBounds_toArray, List.set_cons_zero, List.set_cons_succ]
  refine held_val (i := 15) ?_ 7 rfl rfl (by kernel_rfl) (by kernel_rfl) (by kernel_rfl) (by rfl) (fun _ _ _ h => h) hS ?_ ?_
  rotate_left
  · (intro w hSw; go_simp; first | done | with_reducible rfl)
  simp only [Act.put, List.setIfInBounds_toArray, List.set_cons_zero, List.set_cons_succ]
  refine wpAnyH_done (by kernel_rfl) ?_ _
  clear hS hc0 HC HO
  go_wp2
  go_loopw [23] (fun i wr => ∃ k : Nat, k ≤ 4 ∧ i = .int .i64 k ∧ Hid (Dx B V w wr d g q ⟨S.T, S.L, ansU S.T c p k S.K⟩ n)) (fun i _ => 4 - (intOf i).toNat)
  case atStart => exact ⟨0, by omega, rfl, HD.out.1.dx (bel0 w) HD.out.2.1⟩
  case round =>
    obtain ⟨k, hk, rfl, HI⟩ := hrel
    rename World => wr
    by_cases hlt : k < 4
    · have e0' : decide ((k : Int) < 4) = true := by simp; omega
      have HS : Hid (ansU S.T c p (k + 1) S.K = if OW.testBit k then (if CP.testBit k then ansU S.T c p k S.K else ansK (ansU S.T c p k S.K) ⟨c, p, (k : Int), true⟩) else ansK (if CP.testBit k then ansU S.T c p k S.K else ansK (ansU S.T c p k S.K) ⟨c, p, (k : Int), true⟩) ⟨c, p, (k : Int), false⟩) := HK.out k _
      have HOk : Hid (∀ u : Bool, (⟨c, p, (k : Int), u⟩ : Wt).ok) := fun u => ⟨HD.out.2.2.1, HD.out.2.2.2, by unfold inR; simp only; omega⟩
      obtain ⟨b1, hb1⟩ : ∃ b1, CP.testBit k = b1 := ⟨_, rfl⟩
      obtain ⟨b2, hb2⟩ : ∃ b2, OW.testBit k = b2 := ⟨_, rfl⟩
      have H1 : Hid (∀ U : World, Calls Tryz.prog 159 #[.int .i64 (CP : Int), .int .i64 (k : Int)] U fun e w' => e = .returned (.bool b1) ∧ w' = U) := fun U => by have := has_nat CP k h16 hlt U; rw [hb1] at this; exact this
      have H2 : Hid (∀ U : World, Calls Tryz.prog 159 #[.int .i64 (OW : Int), .int .i64 (k : Int)] U fun e w' => e = .returned (.bool b2) ∧ w' = U) := fun U => by have := has_nat OW k o16 hlt U; rw [hb2] at this; exact this
      rw [hb1, hb2] at HS
      clear hb1 hb2
      have HA : Hid (∀ (U : World) (K : List Ck) (u : Bool), Dx B V w U d g q ⟨S.T, S.L, K⟩ n → Calls Tryz.prog 160 #[qp q, .int .i64 c, .int .i64 p, .int .i64 (k : Int), .bool u] U fun e w' => e = .returned (.tuple #[]) ∧ Hid (Dx B V w w' d g q ⟨S.T, S.L, ansK K ⟨c, p, (k : Int), u⟩⟩ n) ∧ w'.cell? ⟨d, 1, none⟩ = some (qp q)) := fun U K u hU => by
        refine (answerK hU.dk (fun j hj => Nat.lt_of_lt_of_le (HD.out.2.1 j hj) hU.size) ⟨c, p, (k : Int), u⟩ (HOk.out u)).mono ?_
        rintro e w' ⟨rfl, h⟩
        exact ⟨rfl, hU.trans h, h.dk.c1⟩
      have h1 := HI.out.dk.c1
      cases b1
      · cases b2
        · have HS2 : Hid (ansU S.T c p (k + 1) S.K = ansK (ansK (ansU S.T c p k S.K) ⟨c, p, (k : Int), true⟩) ⟨c, p, (k : Int), false⟩) := HS.out
          clear HS
          go_wp2_with (first
            | (go_at_call 159; with_reducible refine (H1.out _).mono ?_; rintro e w1 ⟨rfl, hw1⟩; subst w1)
            | (go_at_call 159; with_reducible refine (H2.out _).mono ?_; rintro e w1 ⟨rfl, hw1⟩; subst w1)
            | (go_at_call 160; with_reducible refine (HA.out wr _ true HI.out).mono ?_; rintro e w3 ⟨rfl, H3, h3⟩)
            | (go_at_call 160; with_reducible refine (HA.out w3 _ false H3.out).mono ?_; rintro e w4 ⟨rfl, H4, h4⟩)
            | fail)
          go_roundw
          case rel => exact ⟨k + 1, by omega, by go_num, by rw [HS2.out]; exact H4⟩
          case measure => simp [intOf]; omega
        · have HS2 : Hid (ansU S.T c p (k + 1) S.K = ansK (ansU S.T c p k S.K) ⟨c, p, (k : Int), true⟩) := HS.out
          clear HS
          go_wp2_with (first
            | (go_at_call 159; with_reducible refine (H1.out _).mono ?_; rintro e w1 ⟨rfl, hw1⟩; subst w1)
            | (go_at_call 159; with_reducible refine (H2.out _).mono ?_; rintro e w1 ⟨rfl, hw1⟩; subst w1)
            | (go_at_call 160; with_reducible refine (HA.out wr _ true HI.out).mono ?_; rintro e w3 ⟨rfl, H3, h3⟩)
            | fail)
          go_roundw
          case rel => exact ⟨k + 1, by omega, by go_num, by rw [HS2.out]; exact H3⟩
          case measure => simp [intOf]; omega
      · cases b2
        · have HS2 : Hid (ansU S.T c p (k + 1) S.K = ansK (ansU S.T c p k S.K) ⟨c, p, (k : Int), false⟩) := HS.out
          clear HS
          go_wp2_with (first
            | (go_at_call 159; with_reducible refine (H1.out _).mono ?_; rintro e w1 ⟨rfl, hw1⟩; subst w1)
            | (go_at_call 159; with_reducible refine (H2.out _).mono ?_; rintro e w1 ⟨rfl, hw1⟩; subst w1)
            | (go_at_call 160; with_reducible refine (HA.out wr _ false HI.out).mono ?_; rintro e w3 ⟨rfl, H3, h3⟩)
            | fail)
          go_roundw
          case rel => exact ⟨k + 1, by omega, by go_num, by rw [HS2.out]; exact H3⟩
          case measure => simp [intOf]; omega
        · have HS2 : Hid (ansU S.T c p (k + 1) S.K = ansU S.T c p k S.K) := HS.out
          clear HS
          go_wp2_with (first
            | (go_at_call 159; with_reducible refine (H1.out _).mono ?_; rintro e w1 ⟨rfl, hw1⟩; subst w1)
            | (go_at_call 159; with_reducible refine (H2.out _).mono ?_; rintro e w1 ⟨rfl, hw1⟩; subst w1)
            | fail)
          go_roundw
          case rel => exact ⟨k + 1, by omega, by go_num, by rw [HS2.out]; exact HI⟩
          case measure => simp [intOf]; omega
    · obtain rfl : k = 4 := by omega
      go_wp2
      go_end0
      exact ⟨rfl, HI.out⟩

theorem Dx.dr {B : Nat} {V : Nat → Prop} {W w1 w2 : World} {d g q : Nat} {S S2 : St} {n n2 : Nat} {a : Option Addr} {c : Nat} {A : List Sa} (h : Dx B V W w1 d g q S n) (hB : B ≤ W.heap.size) (h2 : Dr B V w1 w2 d g q S2 n2 a c A) : Dr B V W w2 d g q S2 n2 a c A :=
  ⟨h2.dk, fun k hk => (h2.keep k hk).trans (h.keep k hk), h.bel.trans h2.bel, h2.own, fun y hy => Nat.le_trans h.size (h2.new y hy), hB⟩

def hanS (S : St) (cl mk mp mo mc mn : Int) (mw : Bool) : St :=
  if mk = 0 then ⟨S.T, addL S.L ⟨cl, mp, mo, false⟩, S.K⟩
  else if mk = 1 then ⟨S.T, addL S.L ⟨cl, mp, mo, true⟩, S.K⟩
  else if mk = 3 then ⟨Tab.dT S.T cl mp mc mn, S.L, ansU (Tab.dT S.T cl mp mc mn) cl mp 4 S.K⟩
  else if mk = 4 then ⟨S.T, S.L, busK S.K ⟨cl, mp, mo, mw⟩⟩
  else S

def Mx (d g q b : Nat) (mk mp mo mc mn : Int) (mw : Bool) (U : World) : Prop := U.cell? ⟨d, 0, none⟩ = some (Tab.tp g) ∧ U.cell? ⟨d, 1, none⟩ = some (qp q) ∧ U.cell? ⟨b, 0, none⟩ = some (.int .i64 mk) ∧ U.cell? ⟨b, 1, none⟩ = some (.int .i64 mp) ∧ U.cell? ⟨b, 2, none⟩ = some (.int .i64 mo) ∧ U.cell? ⟨b, 4, none⟩ = some (.int .i64 mc) ∧ U.cell? ⟨b, 5, none⟩ = some (.int .i64 mn) ∧ U.cell? ⟨b, 6, none⟩ = some (.bool mw)

set_option maxHeartbeats 12800000 in
theorem handle_any {B : Nat} {V : Nat → Prop} {w : World} {d g q : Nat} {S : St} {n : Nat} (H : Dk B V w d g q S n) (hV : ∀ k, V k → k < w.heap.size) (hn : n ≤ 500000) (hT : Wai.Tz w) (hB2 : 2 < B) (cl mk mp mo mt mc mn : Int) (mw : Bool) (pa : Option Addr) (pn pc x0 y0 x1 y1 x2 y2 x3 y3 : Nat) (hcl : inR cl) (hmp : inR mp) (hmo : inR mo) :
    Calls Tryz.prog 88 #[dp d, .int .i64 cl, .agg #[.int .i64 mk, .int .i64 mp, .int .i64 mo, .int .i64 mt, .int .i64 mc, .int .i64 mn, .bool mw, .slice pa pn pc, .complex .f64 x0 y0, .complex .f64 x1 y1, .complex .f64 x2 y2, .complex .f64 x3 y3]] w fun e w' => ∃ a c, e = .returned (.slice a (setl (hanS S cl mk mp mo mc mn mw)).2.length c) ∧ Dr B V w w' d g q (setl (hanS S cl mk mp mo mc mn mw)).1 (n + 700) a c (setl (hanS S cl mk mp mo mc mn mw)).2 := by
  have hbA : Below w.heap.size w (w.alloc (.cells #[.int .i64 mk, .int .i64 mp, .int .i64 mo, .int .i64 mt, .int .i64 mc, .int .i64 mn, .bool mw, .slice pa pn pc, .complex .f64 x0 y0, .complex .f64 x1 y1, .complex .f64 x2 y2, .complex .f64 x3 y3] 47)) := (Below.refl _ _).alloc (Nat.le_refl _) _
  obtain ⟨V1, hV1⟩ : ∃ V1 : Nat → Prop, V1 = fun k => V k ∨ k = w.heap.size := ⟨_, rfl⟩
  have HW : Hid (Dk B V1 (w.alloc (.cells #[.int .i64 mk, .int .i64 mp, .int .i64 mo, .int .i64 mt, .int .i64 mc, .int .i64 mn, .bool mw, .slice pa pn pc, .complex .f64 x0 y0, .complex .f64 x1 y1, .complex .f64 x2 y2, .complex .f64 x3 y3] 47)) d g q S n) := H.more hbA (by
    subst hV1
    rintro k (h | h)
    · exact .inl h
    · exact .inr (by omega))
  have HV : Hid ((∀ k, V k → V1 k) ∧ V1 w.heap.size ∧ (∀ k, V1 k → k < (w.alloc (.cells #[.int .i64 mk, .int .i64 mp, .int .i64 mo, .int .i64 mt, .int .i64 mc, .int .i64 mn, .bool mw, .slice pa pn pc, .complex .f64 x0 y0, .complex .f64 x1 y1, .complex .f64 x2 y2, .complex .f64 x3 y3] 47)).heap.size)) := by
    subst hV1
    refine ⟨fun k h => .inl h, .inr rfl, ?_⟩
    rintro k (h | h)
    · have := hV k h; simp; omega
    · simp; omega
  have HB : Hid (Below w.heap.size w (w.alloc (.cells #[.int .i64 mk, .int .i64 mp, .int .i64 mo, .int .i64 mt, .int .i64 mc, .int .i64 mn, .bool mw, .slice pa pn pc, .complex .f64 x0 y0, .complex .f64 x1 y1, .complex .f64 x2 y2, .complex .f64 x3 y3] 47)) ∧ B ≤ w.heap.size ∧ (∀ k, V k → k < w.heap.size) ∧ Wai.Tz w ∧ 2 < B ∧ inR cl ∧ inR mp ∧ inR mo) := ⟨hbA, H.hB, hV, hT, hB2, hcl, hmp, hmo⟩
  have HM : Hid ((w.alloc (.cells #[.int .i64 mk, .int .i64 mp, .int .i64 mo, .int .i64 mt, .int .i64 mc, .int .i64 mn, .bool mw, .slice pa pn pc, .complex .f64 x0 y0, .complex .f64 x1 y1, .complex .f64 x2 y2, .complex .f64 x3 y3] 47)).heap[w.heap.size]? = some (.cells #[.int .i64 mk, .int .i64 mp, .int .i64 mo, .int .i64 mt, .int .i64 mc, .int .i64 mn, .bool mw, .slice pa pn pc, .complex .f64 x0 y0, .complex .f64 x1 y1, .complex .f64 x2 y2, .complex .f64 x3 y3] 47)) := heap_alloc_new w _
  clear hbA hV1 H hV hT hcl hmp hmo
  go_enter Tryz.func88, Tryz.ntmps88
  go_upto_region 1 with fail
  obtain ⟨b, hb⟩ : ∃ b, w.heap.size = b := ⟨_, rfl⟩
  rw [hb] at HM HV ⊢
  have HBb : Hid (w.heap.size = b) := hb
  clear hb
  show Code.wp _ _ _ _ (w.alloc (.cells #[.int .i64 mk, .int .i64 mp, .int .i64 mo, .int .i64 mt, .int .i64 mc, .int .i64 mn, .bool mw, .slice pa pn pc, .complex .f64 x0 y0, .complex .f64 x1 y1, .complex .f64 x2 y2, .complex .f64 x3 y3] 47))
  generalize w.alloc (.cells #[.int .i64 mk, .int .i64 mp, .int .i64 mo, .int .i64 mt, .int .i64 mc, .int .i64 mn, .bool mw, .slice pa pn pc, .complex .f64 x0 y0, .complex .f64 x1 y1, .complex .f64 x2 y2, .complex .f64 x3 y3] 47) = W at *
  have HX : Hid (∀ (U : World) (S1 : St) (n1 : Nat), Dx B V1 W U d g q S1 n1 → Mx d g q b mk mp mo mc mn mw U) := fun U S1 n1 h => by
    have hb := (h.keep b HV.out.2.1).trans HM.out
    refine ⟨h.dk.c0, h.dk.c1, ?_, ?_, ?_, ?_, ?_, ?_⟩
    all_goals rw [cell_of_row _ _ _ _ _ _ hb]; rfl
  have HE : Hid (∀ (U : World) (S1 : St) (n1 : Nat), Dx B V1 W U d g q S1 n1 → n1 ≤ n + 100 → S1 = hanS S cl mk mp mo mc mn mw → Calls Tryz.prog 72 #[dp d] U fun e w' => ∃ a c l, e = .returned (.slice a l c) ∧ Hid ((setl (hanS S cl mk mp mo mc mn mw)).2.length = l ∧ Dr B V w w' d g q (setl (hanS S cl mk mp mo mc mn mw)).1 (n + 700) a c (setl (hanS S cl mk mp mo mc mn mw)).2)) := fun U S1 n1 h hn1 he => by
    subst he
    obtain ⟨e1, e2, e3, e4, e5, _⟩ := HB.out
    have htz : Wai.Tz U := e4.below e5 ((e1.mono e2).trans h.bel)
    refine (settle_any h.dk (fun k hk => Nat.lt_of_lt_of_le (HV.out.2.2 k hk) h.size) (by omega) htz e5).mono ?_
    rintro e w' ⟨a, c, rfl, h2⟩
    exact ⟨a, c, _, rfl, ⟨rfl, ((h.dr HW.out.hB h2).close HV.out.1 e1 e3 e2).le (by omega)⟩⟩
  have h0 := HW.out.dx (Below.refl _ _) HV.out.2.2
  have H0 : Hid (Dx B V1 W W d g q S n) := h0
  obtain ⟨k0, k1, k2, k3, k4, k5, k6, k7⟩ := HX.out W _ _ h0
  have HD0 : Hid (Dk B V1 W.drew d g q S n) := HW.out.below (bel0 W)
  clear h0
  by_cases m0 : mk = 0
  · subst m0
    have HC : Hid (Calls Tryz.prog 123 #[qp q, .agg #[.int .i64 cl, .int .i64 mp, .int .i64 mo, .bool false]] W.drew fun e w' => (∃ u, e = .returned (.bool u)) ∧ Mx d g q b 0 mp mo mc mn mw w' ∧ Hid (Dx B V1 W w' d g q ⟨S.T, addL S.L ⟨cl, mp, mo, false⟩, S.K⟩ n)) := by
      refine (addK HD0.out HV.out.2.2 ⟨cl, mp, mo, false⟩).mono ?_
      rintro e w' ⟨rfl, h⟩
      have h' := (HW.out.dx (bel0 W) HV.out.2.2).trans h
      exact ⟨⟨_, rfl⟩, HX.out _ _ _ h', h'⟩
    go_upto_region 4 with fail
    refine wp_region_held (S := Mx d g q b 0 mp mo mc mn mw) (by kernel_rfl) ?_
    have hS : Mx d g q b 0 mp mo mc mn mw W.drew := HX.out _ _ _ (HW.out.dx (bel0 W) HV.out.2.2)
    refine held_val (i := 0) ?_ 12 rfl rfl (by kernel_rfl) (by kernel_rfl) (by kernel_rfl) (by rfl) (fun _ _ _ h => h) hS ?_ ?_
    rotate_left
    · (intro w hSw; go_simp; first | done | with_reducible rfl)
    simp only [Act.put, List.setIfInBounds_toArray, List.set_cons_zero, List.set_cons_succ]
    refine held_val (i := 1) ?_ 13 rfl rfl (by kernel_rfl) (by kernel_rfl) (by kernel_rfl) (by rfl) (fun _ _ _ h => h) hS ?_ ?_
    rotate_left
    · (intro w hSw; go_simp; first | done | with_reducible rfl)
    simp only [Act.put, List.setIfInBounds_toArray, List.set_cons_zero, List.set_cons_succ]
    refine held_val (i := 2) ?_ 14 rfl rfl (by kernel_rfl) (by kernel_rfl) (by kernel_rfl) (by rfl) (fun _ _ _ h => h) hS ?_ ?_
    rotate_left
    · (intro w hSw; go_simp; first | done | with_reducible rfl)
    simp only [Act.put, List.setIfInBounds_toArray, List.set_cons_zero, List.set_cons_succ]
    refine held_val (i := 3) ?_ 15 rfl rfl (by kernel_rfl) (by kernel_rfl) (by kernel_rfl) (by rfl) (fun _ _ _ h => h) hS ?_ ?_
    rotate_left
    · (intro w hSw; obtain ⟨j0, j1, j2, j3, j4, j5, j6, j7⟩ := hSw; go_simp; first | done | with_reducible rfl)
    simp only [Act.put, List.setIfInBounds_toArray, List.set_cons_zero, List.set_cons_succ]
    refine held_val (i := 4) ?_ 16 rfl rfl (by kernel_rfl) (by kernel_rfl) (by kernel_rfl) (by rfl) (fun _ _ _ h => h) hS ?_ ?_
    rotate_left
    · (intro w hSw; go_simp; first | done | with_reducible rfl)
    simp only [Act.put, List.setIfInBounds_toArray, List.set_cons_zero, List.set_cons_succ]
    refine held_val (i := 5) ?_ 17 rfl rfl (by kernel_rfl) (by kernel_rfl) (by kernel_rfl) (by rfl) (fun _ _ _ h => h) hS ?_ ?_
    rotate_left
    · (intro w hSw; go_simp; first | done | with_reducible rfl)
    simp only [Act.put, List.setIfInBounds_toArray, List.set_cons_zero, List.set_cons_succ]
    refine held_val (i := 6) ?_ 18 rfl rfl (by kernel_rfl) (by kernel_rfl) (by kernel_rfl) (by rfl) (fun _ _ _ h => h) hS ?_ ?_
    rotate_left
    · (intro w hSw; obtain ⟨j0, j1, j2, j3, j4, j5, j6, j7⟩ := hSw; go_simp; first | done | with_reducible rfl)
    simp only [Act.put, List.setIfInBounds_toArray, List.set_cons_zero, List.set_cons_succ]
    refine held_val (i := 7) ?_ 19 rfl rfl (by kernel_rfl) (by kernel_rfl) (by kernel_rfl) (by rfl) (fun _ _ _ h => h) hS ?_ ?_
    rotate_left
    · (intro w hSw; go_simp; first | done | with_reducible rfl)
    simp only [Act.put, List.setIfInBounds_toArray, List.set_cons_zero, List.set_cons_succ]
    refine held_val (i := 8) ?_ 20 rfl rfl (by kernel_rfl) (by kernel_rfl) (by kernel_rfl) (by rfl) (fun _ _ _ h => h) hS ?_ ?_
    rotate_left
    · (intro w hSw; obtain ⟨j0, j1, j2, j3, j4, j5, j6, j7⟩ := hSw; go_simp; first | done | with_reducible rfl)
    simp only [Act.put, List.setIfInBounds_toArray, List.set_cons_zero, List.set_cons_succ]
    refine held_val (i := 9) ?_ 21 rfl rfl (by kernel_rfl) (by kernel_rfl) (by kernel_rfl) (by rfl) (fun _ _ _ h => h) hS ?_ ?_
    rotate_left
    · (intro w hSw; go_simp; first | done | with_reducible rfl)
    simp only [Act.put, List.setIfInBounds_toArray, List.set_cons_zero, List.set_cons_succ]
    refine held_val (i := 10) ?_ 22 rfl rfl (by kernel_rfl) (by kernel_rfl) (by kernel_rfl) (by rfl) (fun _ _ _ h => h) hS ?_ ?_
    rotate_left
    · (intro w hSw; obtain ⟨j0, j1, j2, j3, j4, j5, j6, j7⟩ := hSw; go_simp; first | done | with_reducible rfl)
    simp only [Act.put, List.setIfInBounds_toArray, List.set_cons_zero, List.set_cons_succ]
    refine held_val (i := 11) (.bool false) 23 rfl rfl (by kernel_rfl) (by kernel_rfl) (by kernel_rfl) (by rfl) (fun _ _ _ h => h) hS ?_ ?_
    · (intro w hSw; go_simp; first | done | with_reducible rfl)
    simp only [Act.put, List.setIfInBounds_toArray, List.set_cons_zero, List.set_cons_succ]
    refine held_val (i := 12) ?_ 24 rfl rfl (by kernel_rfl) (by kernel_rfl) (by kernel_rfl) (by rfl) (fun _ _ _ h => h) hS ?_ ?_
    rotate_left
    · (intro w hSw; go_simp; first | done | with_reducible rfl)
    simp only [Act.put, List.setIfInBounds_toArray, List.set_cons_zero, List.set_cons_succ]
    refine held_call (i := 13) 25 123 #[qp q, .agg #[.int .i64 cl, .int .i64 mp, .int .i64 mo, .bool false]] rfl rfl (by kernel_rfl) (by rfl) (by simp [go_sem]) HC.out ?_
    rintro e w13 ⟨⟨u, rfl⟩, hS13, HD6⟩
    refine ⟨_, rfl, hS13, ?_⟩
    have hS13 := hS13
    simp only [Act.put, List.setIfInBounds_toArray, List.set_cons_zero, List.set_cons_succ]
    refine wpAnyH_done (by kernel_rfl) ?_ _
    clear hS hS13 HC k0 k1 k2 k3 k4 k5 k6 k7
    have HG : Hid (Calls Tryz.prog 72 #[dp d] w13 fun e w' => ∃ a c l, e = .returned (.slice a l c) ∧ Hid ((setl (hanS S cl 0 mp mo mc mn mw)).2.length = l ∧ Dr B V w w' d g q (setl (hanS S cl 0 mp mo mc mn mw)).1 (n + 700) a c (setl (hanS S cl 0 mp mo mc mn mw)).2)) := HE.out w13 _ _ HD6.out (by omega) rfl
    clear HE HX
    go_wp2_with (first
      | (go_at_call 72; refine HG.out.mono ?_; rintro e w9 ⟨a, c, l, rfl, HF⟩)
      | fail)
    go_ret
    exact ⟨a, c, by rw [HF.out.1]; rfl, HF.out.2⟩
  by_cases m1 : mk = 1
  · subst m1
    have HC : Hid (Calls Tryz.prog 123 #[qp q, .agg #[.int .i64 cl, .int .i64 mp, .int .i64 mo, .bool true]] W.drew fun e w' => (∃ u, e = .returned (.bool u)) ∧ Mx d g q b 1 mp mo mc mn mw w' ∧ Hid (Dx B V1 W w' d g q ⟨S.T, addL S.L ⟨cl, mp, mo, true⟩, S.K⟩ n)) := by
      refine (addK HD0.out HV.out.2.2 ⟨cl, mp, mo, true⟩).mono ?_
      rintro e w' ⟨rfl, h⟩
      have h' := (HW.out.dx (bel0 W) HV.out.2.2).trans h
      exact ⟨⟨_, rfl⟩, HX.out _ _ _ h', h'⟩
    go_upto_region 4 with fail
    refine wp_region_held (S := Mx d g q b 1 mp mo mc mn mw) (by kernel_rfl) ?_
    have hS : Mx d g q b 1 mp mo mc mn mw W.drew := HX.out _ _ _ (HW.out.dx (bel0 W) HV.out.2.2)
    refine held_val (i := 0) ?_ 12 rfl rfl (by kernel_rfl) (by kernel_rfl) (by kernel_rfl) (by rfl) (fun _ _ _ h => h) hS ?_ ?_
    rotate_left
    · (intro w hSw; go_simp; first | done | with_reducible rfl)
    simp only [Act.put, List.setIfInBounds_toArray, List.set_cons_zero, List.set_cons_succ]
    refine held_val (i := 1) ?_ 13 rfl rfl (by kernel_rfl) (by kernel_rfl) (by kernel_rfl) (by rfl) (fun _ _ _ h => h) hS ?_ ?_
    rotate_left
    · (intro w hSw; go_simp; first | done | with_reducible rfl)
    simp only [Act.put, List.setIfInBounds_toArray, List.set_cons_zero, List.set_cons_succ]
    refine held_val (i := 2) ?_ 14 rfl rfl (by kernel_rfl) (by kernel_rfl) (by kernel_rfl) (by rfl) (fun _ _ _ h => h) hS ?_ ?_
    rotate_left
    · (intro w hSw; go_simp; first | done | with_reducible rfl)
    simp only [Act.put, List.setIfInBounds_toArray, List.set_cons_zero, List.set_cons_succ]
    refine held_val (i := 3) ?_ 15 rfl rfl (by kernel_rfl) (by kernel_rfl) (by kernel_rfl) (by rfl) (fun _ _ _ h => h) hS ?_ ?_
    rotate_left
    · (intro w hSw; obtain ⟨j0, j1, j2, j3, j4, j5, j6, j7⟩ := hSw; go_simp; first | done | with_reducible rfl)
    simp only [Act.put, List.setIfInBounds_toArray, List.set_cons_zero, List.set_cons_succ]
    refine held_val (i := 4) ?_ 16 rfl rfl (by kernel_rfl) (by kernel_rfl) (by kernel_rfl) (by rfl) (fun _ _ _ h => h) hS ?_ ?_
    rotate_left
    · (intro w hSw; go_simp; first | done | with_reducible rfl)
    simp only [Act.put, List.setIfInBounds_toArray, List.set_cons_zero, List.set_cons_succ]
    refine held_val (i := 5) ?_ 17 rfl rfl (by kernel_rfl) (by kernel_rfl) (by kernel_rfl) (by rfl) (fun _ _ _ h => h) hS ?_ ?_
    rotate_left
    · (intro w hSw; go_simp; first | done | with_reducible rfl)
    simp only [Act.put, List.setIfInBounds_toArray, List.set_cons_zero, List.set_cons_succ]
    refine held_val (i := 6) ?_ 18 rfl rfl (by kernel_rfl) (by kernel_rfl) (by kernel_rfl) (by rfl) (fun _ _ _ h => h) hS ?_ ?_
    rotate_left
    · (intro w hSw; obtain ⟨j0, j1, j2, j3, j4, j5, j6, j7⟩ := hSw; go_simp; first | done | with_reducible rfl)
    simp only [Act.put, List.setIfInBounds_toArray, List.set_cons_zero, List.set_cons_succ]
    refine held_val (i := 7) ?_ 19 rfl rfl (by kernel_rfl) (by kernel_rfl) (by kernel_rfl) (by rfl) (fun _ _ _ h => h) hS ?_ ?_
    rotate_left
    · (intro w hSw; go_simp; first | done | with_reducible rfl)
    simp only [Act.put, List.setIfInBounds_toArray, List.set_cons_zero, List.set_cons_succ]
    refine held_val (i := 8) ?_ 20 rfl rfl (by kernel_rfl) (by kernel_rfl) (by kernel_rfl) (by rfl) (fun _ _ _ h => h) hS ?_ ?_
    rotate_left
    · (intro w hSw; obtain ⟨j0, j1, j2, j3, j4, j5, j6, j7⟩ := hSw; go_simp; first | done | with_reducible rfl)
    simp only [Act.put, List.setIfInBounds_toArray, List.set_cons_zero, List.set_cons_succ]
    refine held_val (i := 9) ?_ 21 rfl rfl (by kernel_rfl) (by kernel_rfl) (by kernel_rfl) (by rfl) (fun _ _ _ h => h) hS ?_ ?_
    rotate_left
    · (intro w hSw; go_simp; first | done | with_reducible rfl)
    simp only [Act.put, List.setIfInBounds_toArray, List.set_cons_zero, List.set_cons_succ]
    refine held_val (i := 10) ?_ 22 rfl rfl (by kernel_rfl) (by kernel_rfl) (by kernel_rfl) (by rfl) (fun _ _ _ h => h) hS ?_ ?_
    rotate_left
    · (intro w hSw; obtain ⟨j0, j1, j2, j3, j4, j5, j6, j7⟩ := hSw; go_simp; first | done | with_reducible rfl)
    simp only [Act.put, List.setIfInBounds_toArray, List.set_cons_zero, List.set_cons_succ]
    refine held_val (i := 11) (.bool true) 23 rfl rfl (by kernel_rfl) (by kernel_rfl) (by kernel_rfl) (by rfl) (fun _ _ _ h => h) hS ?_ ?_
    · (intro w hSw; go_simp; first | done | with_reducible rfl)
    simp only [Act.put, List.setIfInBounds_toArray, List.set_cons_zero, List.set_cons_succ]
    refine held_val (i := 12) ?_ 24 rfl rfl (by kernel_rfl) (by kernel_rfl) (by kernel_rfl) (by rfl) (fun _ _ _ h => h) hS ?_ ?_
    rotate_left
    · (intro w hSw; go_simp; first | done | with_reducible rfl)
    simp only [Act.put, List.setIfInBounds_toArray, List.set_cons_zero, List.set_cons_succ]
    refine held_call (i := 13) 25 123 #[qp q, .agg #[.int .i64 cl, .int .i64 mp, .int .i64 mo, .bool true]] rfl rfl (by kernel_rfl) (by rfl) (by simp [go_sem]) HC.out ?_
    rintro e w13 ⟨⟨u, rfl⟩, hS13, HD6⟩
    refine ⟨_, rfl, hS13, ?_⟩
    have hS13 := hS13
    simp only [Act.put, List.setIfInBounds_toArray, List.set_cons_zero, List.set_cons_succ]
    refine wpAnyH_done (by kernel_rfl) ?_ _
    clear hS hS13 HC k0 k1 k2 k3 k4 k5 k6 k7
    have HG : Hid (Calls Tryz.prog 72 #[dp d] w13 fun e w' => ∃ a c l, e = .returned (.slice a l c) ∧ Hid ((setl (hanS S cl 1 mp mo mc mn mw)).2.length = l ∧ Dr B V w w' d g q (setl (hanS S cl 1 mp mo mc mn mw)).1 (n + 700) a c (setl (hanS S cl 1 mp mo mc mn mw)).2)) := HE.out w13 _ _ HD6.out (by omega) rfl
    clear HE HX
    go_wp2_with (first
      | (go_at_call 72; refine HG.out.mono ?_; rintro e w9 ⟨a, c, l, rfl, HF⟩)
      | fail)
    go_ret
    exact ⟨a, c, by rw [HF.out.1]; rfl, HF.out.2⟩
  by_cases m3 : mk = 3
  · subst m3
    have HC : Hid (Calls Tryz.prog 124 #[Tab.tp g, .int .i64 cl, .int .i64 mp, .int .i64 mc, .int .i64 mn] W.drew fun e w' => e = .returned (.tuple #[]) ∧ Mx d g q b 3 mp mo mc mn mw w' ∧ Hid (Dx B V1 W w' d g q ⟨Tab.dT S.T cl mp mc mn, S.L, S.K⟩ n)) := by
      refine (dropK HD0.out HV.out.2.2 cl mp mc mn).mono ?_
      rintro e w' ⟨rfl, h⟩
      have h' := (HW.out.dx (bel0 W) HV.out.2.2).trans h
      exact ⟨rfl, HX.out _ _ _ h', h'⟩
    go_upto_region 6 with fail
    refine wp_region_held (S := Mx d g q b 3 mp mo mc mn mw) (by kernel_rfl) ?_
    have hS : Mx d g q b 3 mp mo mc mn mw W.drew := HX.out _ _ _ (HW.out.dx (bel0 W) HV.out.2.2)
    refine held_val (i := 0) ?_ 28 rfl rfl (by kernel_rfl) (by kernel_rfl) (by kernel_rfl) (by rfl) (fun _ _ _ h => h) hS ?_ ?_
    rotate_left
    · (intro w hSw; go_simp; first | done | with_reducible rfl)
    simp only [Act.put, List.setIfInBounds_toArray, List.set_cons_zero, List.set_cons_succ]
    refine held_val (i := 1) ?_ 29 rfl rfl (by kernel_rfl) (by kernel_rfl) (by kernel_rfl) (by rfl) (fun _ _ _ h => h) hS ?_ ?_
    rotate_left
    · (intro w hSw; go_simp; first | done | with_reducible rfl)
    simp only [Act.put, List.setIfInBounds_toArray, List.set_cons_zero, List.set_cons_succ]
    refine held_val (i := 2) ?_ 30 rfl rfl (by kernel_rfl) (by kernel_rfl) (by kernel_rfl) (by rfl) (fun _ _ _ h => h) hS ?_ ?_
    rotate_left
    · (intro w hSw; go_simp; first | done | with_reducible rfl)
    simp only [Act.put, List.setIfInBounds_toArray, List.set_cons_zero, List.set_cons_succ]
    refine held_val (i := 3) ?_ 31 rfl rfl (by kernel_rfl) (by kernel_rfl) (by kernel_rfl) (by rfl) (fun _ _ _ h => h) hS ?_ ?_
    rotate_left
    · (intro w hSw; obtain ⟨j0, j1, j2, j3, j4, j5, j6, j7⟩ := hSw; go_simp; first | done | with_reducible rfl)
    simp only [Act.put, List.setIfInBounds_toArray, List.set_cons_zero, List.set_cons_succ]
    refine held_val (i := 4) ?_ 32 rfl rfl (by kernel_rfl) (by kernel_rfl) (by kernel_rfl) (by rfl) (fun _ _ _ h => h) hS ?_ ?_
    rotate_left
    · (intro w hSw; go_simp; first | done | with_reducible rfl)
    simp only [Act.put, List.setIfInBounds_toArray, List.set_cons_zero, List.set_cons_succ]
    refine held_val (i := 5) ?_ 33 rfl rfl (by kernel_rfl) (by kernel_rfl) (by kernel_rfl) (by rfl) (fun _ _ _ h => h) hS ?_ ?_
    rotate_left
    · (intro w hSw; go_simp; first | done | with_reducible rfl)
    simp only [Act.put, List.setIfInBounds_toArray, List.set_cons_zero, List.set_cons_succ]
    refine held_val (i := 6) ?_ 34 rfl rfl (by kernel_rfl) (by kernel_rfl) (by kernel_rfl) (by rfl) (fun _ _ _ h => h) hS ?_ ?_
    rotate_left
    · (intro w hSw; obtain ⟨j0, j1, j2, j3, j4, j5, j6, j7⟩ := hSw; go_simp; first | done | with_reducible rfl)
    simp only [Act.put, List.setIfInBounds_toArray, List.set_cons_zero, List.set_cons_succ]
    refine held_val (i := 7) ?_ 35 rfl rfl (by kernel_rfl) (by kernel_rfl) (by kernel_rfl) (by rfl) (fun _ _ _ h => h) hS ?_ ?_
    rotate_left
    · (intro w hSw; go_simp; first | done | with_reducible rfl)
    simp only [Act.put, List.setIfInBounds_toArray, List.set_cons_zero, List.set_cons_succ]
    refine held_val (i := 8) ?_ 36 rfl rfl (by kernel_rfl) (by kernel_rfl) (by kernel_rfl) (by rfl) (fun _ _ _ h => h) hS ?_ ?_
    rotate_left
    · (intro w hSw; obtain ⟨j0, j1, j2, j3, j4, j5, j6, j7⟩ := hSw; go_simp; first | done | with_reducible rfl)
    simp only [Act.put, List.setIfInBounds_toArray, List.set_cons_zero, List.set_cons_succ]
    refine held_val (i := 9) ?_ 37 rfl rfl (by kernel_rfl) (by kernel_rfl) (by kernel_rfl) (by rfl) (fun _ _ _ h => h) hS ?_ ?_
    rotate_left
    · (intro w hSw; go_simp; first | done | with_reducible rfl)
    simp only [Act.put, List.setIfInBounds_toArray, List.set_cons_zero, List.set_cons_succ]
    refine held_val (i := 10) ?_ 38 rfl rfl (by kernel_rfl) (by kernel_rfl) (by kernel_rfl) (by rfl) (fun _ _ _ h => h) hS ?_ ?_
    rotate_left
    · (intro w hSw; obtain ⟨j0, j1, j2, j3, j4, j5, j6, j7⟩ := hSw; go_simp; first | done | with_reducible rfl)
    simp only [Act.put, List.setIfInBounds_toArray, List.set_cons_zero, List.set_cons_succ]
    refine held_call (i := 11) 39 124 #[Tab.tp g, .int .i64 cl, .int .i64 mp, .int .i64 mc, .int .i64 mn] rfl rfl (by kernel_rfl) (by rfl) (by simp [go_sem]) HC.out ?_
    rintro e w11 ⟨rfl, hS11, HD6⟩
    refine ⟨_, rfl, hS11, ?_⟩
    have hS11 := hS11
    simp only [Act.put, List.setIfInBounds_toArray, List.set_cons_zero, List.set_cons_succ]
    refine wpAnyH_done (by kernel_rfl) ?_ _
    clear hS hS11 HC k0 k1 k2 k3 k4 k5 k6 k7
    obtain ⟨j0, j1, j2, j3, j4, j5, j6, j7⟩ := HX.out _ _ _ HD6.out
    have HA : Hid (Calls Tryz.prog 125 #[dp d, .int .i64 cl, .int .i64 mp] w11 fun e w' => e = .returned (.tuple #[]) ∧ Hid (Dx B V1 W w' d g q ⟨Tab.dT S.T cl mp mc mn, S.L, ansU (Tab.dT S.T cl mp mc mn) cl mp 4 S.K⟩ n)) := by
      obtain ⟨-, -, -, -, -, e6, e7, -⟩ := HB.out
      refine (answer_desk HD6.out.dk (fun k hk => Nat.lt_of_lt_of_le (HV.out.2.2 k hk) HD6.out.size) cl mp e6 e7).mono ?_
      rintro e w' ⟨rfl, h⟩
      exact ⟨rfl, HD6.out.trans h⟩
    go_upto_region 10 with (first
      | (go_at_call 125; refine HA.out.mono ?_; rintro e w12 ⟨rfl, HD7⟩)
      | fail)
    clear j0 j1 j2 j3 j4 j5 j6 j7 HA HD6
    have HG : Hid (Calls Tryz.prog 72 #[dp d] w12 fun e w' => ∃ a c l, e = .returned (.slice a l c) ∧ Hid ((setl (hanS S cl 3 mp mo mc mn mw)).2.length = l ∧ Dr B V w w' d g q (setl (hanS S cl 3 mp mo mc mn mw)).1 (n + 700) a c (setl (hanS S cl 3 mp mo mc mn mw)).2)) := HE.out w12 _ _ HD7.out (by omega) rfl
    clear HE HX
    go_wp2_with (first
      | (go_at_call 72; refine HG.out.mono ?_; rintro e w9 ⟨a, c, l, rfl, HF⟩)
      | fail)
    go_ret
    exact ⟨a, c, by rw [HF.out.1]; rfl, HF.out.2⟩
  by_cases m4 : mk = 4
  · subst m4
    have HC : Hid (Calls Tryz.prog 126 #[qp q, .int .i64 cl, .agg #[.int .i64 0, .int .i64 mp, .int .i64 mo, .bool mw]] W.drew fun e w' => (∃ u, e = .returned (.bool u)) ∧ Mx d g q b 4 mp mo mc mn mw w' ∧ Hid (Dx B V1 W w' d g q ⟨S.T, S.L, busK S.K ⟨cl, mp, mo, mw⟩⟩ (n + 1))) := by
      obtain ⟨-, -, -, -, -, e6, e7, e8⟩ := HB.out
      refine (busyK HD0.out HV.out.2.2 (by omega) cl ⟨0, mp, mo, mw⟩ ⟨e6, e7, e8⟩).mono ?_
      rintro e w' ⟨rfl, h⟩
      have h' := (HW.out.dx (bel0 W) HV.out.2.2).trans h
      exact ⟨⟨_, rfl⟩, HX.out _ _ _ h', h'⟩
    go_upto_region 9 with fail
    refine wp_region_held (S := Mx d g q b 4 mp mo mc mn mw) (by kernel_rfl) ?_
    have hS : Mx d g q b 4 mp mo mc mn mw W.drew := HX.out _ _ _ (HW.out.dx (bel0 W) HV.out.2.2)
    refine held_val (i := 0) ?_ 47 rfl rfl (by kernel_rfl) (by kernel_rfl) (by kernel_rfl) (by rfl) (fun _ _ _ h => h) hS ?_ ?_
    rotate_left
    · (intro w hSw; go_simp; first | done | with_reducible rfl)
    simp only [Act.put, List.setIfInBounds_toArray, List.set_cons_zero, List.set_cons_succ]
    refine held_val (i := 1) ?_ 48 rfl rfl (by kernel_rfl) (by kernel_rfl) (by kernel_rfl) (by rfl) (fun _ _ _ h => h) hS ?_ ?_
    rotate_left
    · (intro w hSw; go_simp; first | done | with_reducible rfl)
    simp only [Act.put, List.setIfInBounds_toArray, List.set_cons_zero, List.set_cons_succ]
    refine held_val (i := 2) ?_ 49 rfl rfl (by kernel_rfl) (by kernel_rfl) (by kernel_rfl) (by rfl) (fun _ _ _ h => h) hS ?_ ?_
    rotate_left
    · (intro w hSw; go_simp; first | done | with_reducible rfl)
    simp only [Act.put, List.setIfInBounds_toArray, List.set_cons_zero, List.set_cons_succ]
    refine held_val (i := 3) ?_ 50 rfl rfl (by kernel_rfl) (by kernel_rfl) (by kernel_rfl) (by rfl) (fun _ _ _ h => h) hS ?_ ?_
    rotate_left
    · (intro w hSw; obtain ⟨j0, j1, j2, j3, j4, j5, j6, j7⟩ := hSw; go_simp; first | done | with_reducible rfl)
    simp only [Act.put, List.setIfInBounds_toArray, List.set_cons_zero, List.set_cons_succ]
    refine held_val (i := 4) ?_ 51 rfl rfl (by kernel_rfl) (by kernel_rfl) (by kernel_rfl) (by rfl) (fun _ _ _ h => h) hS ?_ ?_
    rotate_left
    · (intro w hSw; go_simp; first | done | with_reducible rfl)
    simp only [Act.put, List.setIfInBounds_toArray, List.set_cons_zero, List.set_cons_succ]
    refine held_val (i := 5) ?_ 52 rfl rfl (by kernel_rfl) (by kernel_rfl) (by kernel_rfl) (by rfl) (fun _ _ _ h => h) hS ?_ ?_
    rotate_left
    · (intro w hSw; go_simp; first | done | with_reducible rfl)
    simp only [Act.put, List.setIfInBounds_toArray, List.set_cons_zero, List.set_cons_succ]
    refine held_val (i := 6) ?_ 53 rfl rfl (by kernel_rfl) (by kernel_rfl) (by kernel_rfl) (by rfl) (fun _ _ _ h => h) hS ?_ ?_
    rotate_left
    · (intro w hSw; obtain ⟨j0, j1, j2, j3, j4, j5, j6, j7⟩ := hSw; go_simp; first | done | with_reducible rfl)
    simp only [Act.put, List.setIfInBounds_toArray, List.set_cons_zero, List.set_cons_succ]
    refine held_val (i := 7) ?_ 54 rfl rfl (by kernel_rfl) (by kernel_rfl) (by kernel_rfl) (by rfl) (fun _ _ _ h => h) hS ?_ ?_
    rotate_left
    · (intro w hSw; go_simp; first | done | with_reducible rfl)
    simp only [Act.put, List.setIfInBounds_toArray, List.set_cons_zero, List.set_cons_succ]
    refine held_val (i := 8) ?_ 55 rfl rfl (by kernel_rfl) (by kernel_rfl) (by kernel_rfl) (by rfl) (fun _ _ _ h => h) hS ?_ ?_
    rotate_left
    · (intro w hSw; obtain ⟨j0, j1, j2, j3, j4, j5, j6, j7⟩ := hSw; go_simp; first | done | with_reducible rfl)
    simp only [Act.put, List.setIfInBounds_toArray, List.set_cons_zero, List.set_cons_succ]
    refine held_val (i := 9) ?_ 56 rfl rfl (by kernel_rfl) (by kernel_rfl) (by kernel_rfl) (by rfl) (fun _ _ _ h => h) hS ?_ ?_
    rotate_left
    · (intro w hSw; go_simp; first | done | with_reducible rfl)
    simp only [Act.put, List.setIfInBounds_toArray, List.set_cons_zero, List.set_cons_succ]
    refine held_val (i := 10) ?_ 57 rfl rfl (by kernel_rfl) (by kernel_rfl) (by kernel_rfl) (by rfl) (fun _ _ _ h => h) hS ?_ ?_
    rotate_left
    · (intro w hSw; obtain ⟨j0, j1, j2, j3, j4, j5, j6, j7⟩ := hSw; go_simp; first | done | with_reducible rfl)
    simp only [Act.put, List.setIfInBounds_toArray, List.set_cons_zero, List.set_cons_succ]
    refine held_val (i := 11) ?_ 58 rfl rfl (by kernel_rfl) (by kernel_rfl) (by kernel_rfl) (by rfl) (fun _ _ _ h => h) hS ?_ ?_
    rotate_left
    · (intro w hSw; go_simp; first | done | with_reducible rfl)
    simp only [Act.put, List.setIfInBounds_toArray, List.set_cons_zero, List.set_cons_succ]
    refine held_call (i := 12) 59 126 #[qp q, .int .i64 cl, .agg #[.int .i64 0, .int .i64 mp, .int .i64 mo, .bool mw]] rfl rfl (by kernel_rfl) (by rfl) (by simp [go_sem]) HC.out ?_
    rintro e w12 ⟨⟨u, rfl⟩, hS12, HD6⟩
    refine ⟨_, rfl, hS12, ?_⟩
    have hS12 := hS12
    simp only [Act.put, List.setIfInBounds_toArray, List.set_cons_zero, List.set_cons_succ]
    refine wpAnyH_done (by kernel_rfl) ?_ _
    clear hS hS12 HC k0 k1 k2 k3 k4 k5 k6 k7
    have HG : Hid (Calls Tryz.prog 72 #[dp d] w12 fun e w' => ∃ a c l, e = .returned (.slice a l c) ∧ Hid ((setl (hanS S cl 4 mp mo mc mn mw)).2.length = l ∧ Dr B V w w' d g q (setl (hanS S cl 4 mp mo mc mn mw)).1 (n + 700) a c (setl (hanS S cl 4 mp mo mc mn mw)).2)) := HE.out w12 _ _ HD6.out (by omega) rfl
    clear HE HX
    go_wp2_with (first
      | (go_at_call 72; refine HG.out.mono ?_; rintro e w9 ⟨a, c, l, rfl, HF⟩)
      | fail)
    go_ret
    exact ⟨a, c, by rw [HF.out.1]; rfl, HF.out.2⟩
  have e0 : (mk == 0) = false := by simp [m0]
  have e1 : (mk == 1) = false := by simp [m1]
  have e3 : (mk == 3) = false := by simp [m3]
  have e4 : (mk == 4) = false := by simp [m4]
  have HG : Hid (Calls Tryz.prog 72 #[dp d] W fun e w' => ∃ a c l, e = .returned (.slice a l c) ∧ Hid ((setl (hanS S cl mk mp mo mc mn mw)).2.length = l ∧ Dr B V w w' d g q (setl (hanS S cl mk mp mo mc mn mw)).1 (n + 700) a c (setl (hanS S cl mk mp mo mc mn mw)).2)) := HE.out W S n H0.out (by omega) (by unfold hanS; rw [if_neg m0, if_neg m1, if_neg m3, if_neg m4])
  clear HE HX m0 m1 m3 m4
  go_wp2_with (first
    | (go_at_call 72; refine HG.out.mono ?_; rintro e w9 ⟨a, c, l, rfl, HF⟩)
    | fail)
  go_ret
  exact ⟨a, c, by rw [HF.out.1]; rfl, HF.out.2⟩

end Go.Proofs.YtpofihiojhbfgaaGreatDoor.Dsk
