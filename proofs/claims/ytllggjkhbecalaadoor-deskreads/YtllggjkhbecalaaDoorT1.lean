/- What the short functions of package table do, walked. -/
import Derived.Test.YtllggjkhbecalaaDoorT0
import Derived.Handy
import Derived.BigQuiet
import Derived.Deep.RegionHeldLaw
import Derived.Deep.DeepCutAuto
import Derived.Deep.CutBlock
namespace Go.Proofs.YtllggjkhbecalaaDoor.Tab
open Go.RowKit
set_option linter.unusedVariables false
set_option maxRecDepth 8000

/-- The pointer to a table. -/
abbrev tp (g : Nat) : Value := .pointer (some ⟨g, 0, none⟩)

theorem ret_int {a b : Int} (h : a = b) : Ending.returned (.int .i64 a) = .returned (.int .i64 b) := by rw [h]
theorem ret_bool {a b : Bool} (h : a = b) : Ending.returned (.bool a) = .returned (.bool b) := by rw [h]

theorem client_any (c : Int) (w : World) : Calls Tryd.prog 46 #[.int .i64 c] w fun e w' => e = .returned (.bool (clB c)) ∧ w' = w := by
  cases hd : decide (0 ≤ c)
  all_goals
    have h' := hd
    simp only [decide_eq_true_eq, decide_eq_false_iff_not] at h'
    go_enter Tryd.func46, Tryd.ntmps46
    go_wp2
    go_ret
    exact ⟨ret_bool (by simp only [clB, hd, Bool.true_and, Bool.false_and]), rfl⟩

theorem mask_any (c : Int) (w : World) : Calls Tryd.prog 34 #[.int .i64 c] w fun e w' => e = .returned (.bool (maB c)) ∧ w' = w := by
  cases hd : decide (0 ≤ c)
  all_goals
    have h' := hd
    simp only [decide_eq_true_eq, decide_eq_false_iff_not] at h'
    go_enter Tryd.func34, Tryd.ntmps34
    go_wp2
    go_ret
    exact ⟨ret_bool (by simp only [maB, hd, Bool.true_and, Bool.false_and]), rfl⟩

theorem place_any (c p : Int) (w : World) : Calls Tryd.prog 33 #[.int .i64 c, .int .i64 p] w fun e w' => e = .returned (.bool (plB c p)) ∧ w' = w := by
  cases hc : clB c <;> cases hd : decide (0 ≤ p)
  all_goals
    have h' := hd
    simp only [decide_eq_true_eq, decide_eq_false_iff_not] at h'
    go_enter Tryd.func33, Tryd.ntmps33
    go_wp2_with (go_at_call 46; refine (client_any c _).mono ?_; rw [hc]; rintro e w1 ⟨rfl, hw⟩; subst w1)
    go_ret
    exact ⟨ret_bool (by simp only [plB, hc, hd, Bool.true_and, Bool.false_and]), rfl⟩

theorem new_any (w : World) : Calls Tryd.prog 13 #[] w fun e w' => e = .returned (tp w.heap.size) ∧ Tb w' w.heap.size (fun _ => 0) ∧ Below w.heap.size w w' := by
  go_enter Tryd.func13, Tryd.ntmps13
  go_wp2
  go_ret
  refine ⟨rfl, ?_, by go_grown⟩
  have h := heap_alloc_new w (.cells (Array.replicate 48 (.int .i64 0)) 74)
  refine ⟨fun i hi => ?_, fun j => frozen_of_row _ _ _ _ _ h, by simp, fun _ => by decide⟩
  refine (cell_of_row _ _ _ _ _ _ h).trans ?_
  simp [hi]

theorem nat_of_cl {c : Int} (h : clB c = true) : ∃ k : Nat, k < 4 ∧ c = k := by
  simp only [clB, Bool.and_eq_true, decide_eq_true_eq] at h
  exact ⟨c.toNat, by omega, by omega⟩
theorem nat_of_pl {c p : Int} (h : plB c p = true) : ∃ k l : Nat, k < 4 ∧ l < 6 ∧ c = k ∧ p = l := by
  simp only [plB, clB, Bool.and_eq_true, decide_eq_true_eq] at h
  exact ⟨c.toNat, p.toNat, by omega, by omega, by omega, by omega⟩
theorem nat_of_ma {m : Int} (h : maB m = true) : ∃ k : Nat, k < 16 ∧ m = k := by
  simp only [maB, Bool.and_eq_true, decide_eq_true_eq] at h
  exact ⟨m.toNat, by omega, by omega⟩
theorem cl_nat {c : Nat} (h : c < 4) : clB c = true := by simp [clB]; omega
theorem pl_nat {c p : Nat} (h : c < 4) (k : p < 6) : plB c p = true := by simp [plB, clB]; omega
theorem ma_nat {m : Nat} (h : m < 16) : maB m = true := by simp [maB]; omega

/-- What a client has of a page, and owns of it. -/
def cpI (T : Nat → Nat) (c p : Int) : Nat := if plB c p then cp T c.toNat p.toNat else 0
def owI (T : Nat → Nat) (c p : Int) : Nat := if plB c p then ow T c.toNat p.toNat else 0

theorem copies_any (w : World) (g : Nat) (T : Nat → Nat) (H : Tb w g T) (c p : Int) : Calls Tryd.prog 21 #[tp g, .int .i64 c, .int .i64 p] w fun e w' => e = .returned (.int .i64 (cpI T c p : Nat)) ∧ w' = w := by
  cases h1 : plB c p
  · go_enter Tryd.func21, Tryd.ntmps21
    go_wp2_with (go_at_call 33; refine (place_any c p _).mono ?_; rw [h1]; rintro e w1 ⟨rfl, hw⟩; subst w1)
    go_ret
    exact ⟨ret_int (by simp [cpI, h1]), rfl⟩
  · obtain ⟨k, l, hk, hl, rfl, rfl⟩ := nat_of_pl h1
    have h2 := H.cell (k * 12 + l * 2) (by omega)
    go_enter Tryd.func21, Tryd.ntmps21
    go_wp2_with (go_at_call 33; refine (place_any k l _).mono ?_; rw [h1]; rintro e w1 ⟨rfl, hw⟩; subst w1)
    go_ret
    exact ⟨ret_int (by simp [cpI, h1, cp]), rfl⟩

theorem own_any (w : World) (g : Nat) (T : Nat → Nat) (H : Tb w g T) (c p : Int) : Calls Tryd.prog 20 #[tp g, .int .i64 c, .int .i64 p] w fun e w' => e = .returned (.int .i64 (owI T c p : Nat)) ∧ w' = w := by
  cases h1 : plB c p
  · go_enter Tryd.func20, Tryd.ntmps20
    go_wp2_with (go_at_call 33; refine (place_any c p _).mono ?_; rw [h1]; rintro e w1 ⟨rfl, hw⟩; subst w1)
    go_ret
    exact ⟨ret_int (by simp [owI, h1]), rfl⟩
  · obtain ⟨k, l, hk, hl, rfl, rfl⟩ := nat_of_pl h1
    have h2 := H.cell (k * 12 + l * 2 + 1) (by omega)
    go_enter Tryd.func20, Tryd.ntmps20
    go_wp2_with (go_at_call 33; refine (place_any k l _).mono ?_; rw [h1]; rintro e w1 ⟨rfl, hw⟩; subst w1)
    go_ret
    exact ⟨ret_int (by simp [owI, h1, ow]), rfl⟩

/-- Two masks lie in a block. -/
structure C2 (w : World) (b : Nat) (x y : Nat) : Prop where
  blk : w.heap[b]? = some (.cells #[.int .i64 ((x : Nat) : Int), .int .i64 ((y : Nat) : Int)] 70 (0, 0))

section
variable {w w' : World} {b x y : Nat}
theorem C2.c0 (h : C2 w b x y) : w.cell? ⟨b, 0, none⟩ = some (.int .i64 (x : Int)) := by rw [cell_of_row _ _ _ _ _ _ h.blk]; rfl
theorem C2.c1 (h : C2 w b x y) : w.cell? ⟨b, 1, none⟩ = some (.int .i64 (y : Int)) := by rw [cell_of_row _ _ _ _ _ _ h.blk]; rfl
theorem C2.fz (h : C2 w b x y) (j : Nat) : w.frozen? ⟨b, j, none⟩ = false := frozen_of_row _ _ _ _ _ h.blk
theorem C2.lt (h : C2 w b x y) : b < w.heap.size := (Array.getElem?_eq_some_iff.1 h.blk).1
theorem C2.keep (h : C2 w b x y) (hb : w'.heap[b]? = w.heap[b]?) : C2 w' b x y := ⟨hb.trans h.blk⟩
theorem C2.put0 (h : C2 w b x y) (u : Nat) : C2 (w.setCell ⟨b, 0, none⟩ (.int .i64 (u : Int))) b u y := ⟨by rw [heap_setCell_same w b 0 _ 70 _ h.blk]; rfl⟩
theorem C2.put1 (h : C2 w b x y) (u : Nat) : C2 (w.setCell ⟨b, 1, none⟩ (.int .i64 (u : Int))) b x u := ⟨by rw [heap_setCell_same w b 1 _ 70 _ h.blk]; rfl⟩
end

theorem below_set {B : Nat} {w w' : World} (h : Below B w w') {p : Addr} (hp : B ≤ p.block) (u : Value) : Below B w (w'.setCell p u) :=
  h.trans ⟨rfl, rfl, rfl, by simp [World.setCell], fun k hk => Below.heap_setCell _ _ _ _ (by omega)⟩

set_option maxHeartbeats 800000 in
theorem others_in (w : World) (g : Nat) (T : Nat → Nat) (H : Tb w g T) (c p : Nat) (hc : c < 4) (hp : p < 6) : Calls Tryd.prog 68 #[tp g, .int .i64 (c : Int), .int .i64 (p : Int)] w fun e w' => e = .returned (.agg #[.int .i64 (oc T c p : Nat), .int .i64 (oo T c p : Nat)]) ∧ Below w.heap.size w w' := by
  have hlt := H.lt
  go_enter Tryd.func68, Tryd.ntmps68
  go_wp2
  go_loopw [9] (fun i wr => ∃ k : Nat, k ≤ 4 ∧ i = .int .i64 k ∧ C2 wr w.heap.size 0 0 ∧ C2 wr (w.heap.size + 1) (orr (fun d => cp T d p) c k) (orr (fun d => ow T d p) c k) ∧ Below w.heap.size w wr) (fun i _ => 4 - (intOf i).toNat)
  case atStart =>
    refine ⟨0, by omega, rfl, ?_, ?_, by go_grown⟩
    · exact ⟨(((Below.refl _ _).alloc (Nat.le_refl _) _).block _ (by simp)).trans (heap_alloc_new w (.cells #[.int .i64 0, .int .i64 0] 70))⟩
    · have h2 := heap_alloc_new (w.alloc (.cells #[.int .i64 0, .int .i64 0] 70)) (.cells #[.int .i64 0, .int .i64 0] 70)
      rw [show (w.alloc (.cells #[.int .i64 0, .int .i64 0] 70)).heap.size = w.heap.size + 1 from by simp] at h2
      exact ⟨h2⟩
  case round =>
    obtain ⟨k, hk, rfl, hA, hC, hbel⟩ := hrel
    rename World => wr
    by_cases hlt4 : k < 4
    · have HT := H.below hbel
      by_cases hkc : k = c
      · have e1 : ((k : Int) != (c : Int)) = false := by simp; omega
        have HK : Hid (k = c) := hkc
        clear hkc
        go_wp2
        go_roundw
        case rel =>
          have := HK.out
          exact ⟨k + 1, by omega, by go_num, hA, by rw [orr_eq _ this, orr_eq _ this]; exact hC, hbel⟩
        case measure => simp [intOf]; omega
      · have e1 : ((k : Int) != (c : Int)) = true := by simp; omega
        have HK : Hid (k ≠ c) := hkc
        clear hkc
        obtain ⟨X, hX⟩ : ∃ X, orr (fun d => cp T d p) c k = X := ⟨_, rfl⟩
        obtain ⟨Y, hY⟩ : ∃ Y, orr (fun d => ow T d p) c k = Y := ⟨_, rfl⟩
        have hXl : X < 16 := by rw [← hX]; exact orr_lt _ _ (fun d => H.le _) _
        have hYl : Y < 16 := by rw [← hY]; exact orr_lt _ _ (fun d => H.le _) _
        rw [hX, hY] at hC
        have HXY : Hid (orr (fun d => cp T d p) c k = X ∧ orr (fun d => ow T d p) c k = Y) := ⟨hX, hY⟩
        clear hX hY
        have t0 := HT.cell (k * 12 + p * 2) (by omega)
        have t1 := HT.cell (k * 12 + p * 2 + 1) (by omega)
        have c0 := hC.c0
        have c1 := hC.c1
        have f0 := hC.fz 0
        have f1 := hC.fz 1
        have b0 := bor hXl (H.le (k * 12 + p * 2))
        have b1 := bor hYl (H.le (k * 12 + p * 2 + 1))
        go_upto_region 6 with fail
        go_big_region
        go_wp2
        have hC6 : C2 ((wr.setCell ⟨w.heap.size + 1, 0, none⟩ (.int .i64 ((X ||| T (k * 12 + p * 2) : Nat) : Int))).drew) (w.heap.size + 1) (X ||| T (k * 12 + p * 2)) Y := ⟨(hC.put0 _).blk⟩
        have hA6 : C2 ((wr.setCell ⟨w.heap.size + 1, 0, none⟩ (.int .i64 ((X ||| T (k * 12 + p * 2) : Nat) : Int))).drew) w.heap.size 0 0 := hA.keep (Below.heap_setCell _ _ _ _ (by simp))
        have hB6 : Below w.heap.size w ((wr.setCell ⟨w.heap.size + 1, 0, none⟩ (.int .i64 ((X ||| T (k * 12 + p * 2) : Nat) : Int))).drew) := by
          have := below_set hbel (p := ⟨w.heap.size + 1, 0, none⟩) (Nat.le_succ _) (.int .i64 ((X ||| T (k * 12 + p * 2) : Nat) : Int))
          exact ⟨this.os, this.tape, this.output, this.size, this.block⟩
        generalize ((wr.setCell ⟨w.heap.size + 1, 0, none⟩ (.int .i64 ((X ||| T (k * 12 + p * 2) : Nat) : Int))).drew) = W6 at *
        clear t0 t1 c0 c1 f0 f1
        have t1 := (H.below hB6).cell (k * 12 + p * 2 + 1) (by omega)
        have c1 := hC6.c1
        have f1 := hC6.fz 1
        go_big_region
        go_wp2
        go_roundw
        case rel =>
          have e2 := HK.out
          obtain ⟨eX, eY⟩ := HXY.out
          refine ⟨k + 1, by omega, by go_num, hA6.keep (Below.heap_setCell _ _ _ _ (by simp)), ?_, ?_⟩
          · rw [orr_ne _ e2, orr_ne _ e2, eX, eY]
            exact ⟨(hC6.put1 _).blk⟩
          · have := below_set hB6 (p := ⟨w.heap.size + 1, 1, none⟩) (Nat.le_succ _) (.int .i64 ((Y ||| T (k * 12 + p * 2 + 1) : Nat) : Int))
            exact ⟨this.os, this.tape, this.output, this.size, this.block⟩
        case measure => simp [intOf]; omega
    · obtain rfl : k = 4 := by omega
      have a0 := hA.c0
      have a1 := hA.c1
      have f0 := hA.fz 0
      have f1 := hA.fz 1
      have c0 := hC.c0
      have c1 := hC.c1
      go_wp2
      have hF : C2 ((wr.setCell ⟨w.heap.size, 0, none⟩ (.int .i64 ((orr (fun d => cp T d p) c 4 : Nat) : Int))).setCell ⟨w.heap.size, 1, none⟩ (.int .i64 ((orr (fun d => ow T d p) c 4 : Nat) : Int))) w.heap.size (oc T c p) (oo T c p) := (hA.put0 _).put1 _
      have hB : Below w.heap.size w ((wr.setCell ⟨w.heap.size, 0, none⟩ (.int .i64 ((orr (fun d => cp T d p) c 4 : Nat) : Int))).setCell ⟨w.heap.size, 1, none⟩ (.int .i64 ((orr (fun d => ow T d p) c 4 : Nat) : Int))) := below_set (below_set hbel (Nat.le_refl _) _) (Nat.le_refl _) _
      generalize ((wr.setCell ⟨w.heap.size, 0, none⟩ (.int .i64 ((orr (fun d => cp T d p) c 4 : Nat) : Int))).setCell ⟨w.heap.size, 1, none⟩ (.int .i64 ((orr (fun d => ow T d p) c 4 : Nat) : Int))) = W9 at *
      have e0 := hF.c0
      have e1 := hF.c1
      refine bodyPost_ret (by simp [results, Tryd.results68, go_sem, e0, e1]; try rfl) rfl ?_
      exact ⟨rfl, hB⟩

/-- What a Grant answers, and what it leaves. -/
def grB (T : Nat → Nat) (c p a b : Nat) : Bool := (oo T c p &&& (a ||| b) == 0) && (oc T c p &&& b == 0)
def grT (T : Nat → Nat) (c p a b : Nat) : Nat → Nat := put (put T (c * 12 + p * 2) (cp T c p ||| (a ||| b))) (c * 12 + p * 2 + 1) (ow T c p ||| b)
def argB (c p a b : Int) : Bool := plB c p && maB a && maB b

theorem arg_no {c p a b : Int} (h : argB c p a b = false) : plB c p = false ∨ (plB c p = true ∧ maB a = false) ∨ (plB c p = true ∧ maB a = true ∧ maB b = false) := by
  unfold argB at h
  cases h1 : plB c p <;> cases h2 : maB a <;> cases h3 : maB b <;> simp_all

theorem grant_no (g : Nat) (w : World) (c p a b : Int) (h : argB c p a b = false) : Calls Tryd.prog 60 #[tp g, .int .i64 c, .int .i64 p, .int .i64 a, .int .i64 b] w fun e w' => e = .returned (.bool false) ∧ w' = w := by
  rcases arg_no h with h1 | ⟨h1, h2⟩ | ⟨h1, h2, h3⟩
  · clear h
    go_enter Tryd.func60, Tryd.ntmps60
    go_wp2_with (first
      | (go_at_call 33; refine (place_any c p _).mono ?_; rw [h1]; rintro e w1 ⟨rfl, hw⟩; subst w1))
    go_ret
    exact ⟨rfl, rfl⟩
  · clear h
    go_enter Tryd.func60, Tryd.ntmps60
    go_wp2_with (first
      | (go_at_call 33; refine (place_any c p _).mono ?_; rw [h1]; rintro e w1 ⟨rfl, hw⟩; subst w1)
      | (go_at_call 34; with_reducible refine (mask_any a _).mono ?_; rw [h2]; rintro e w1 ⟨rfl, hw⟩; subst w1))
    go_ret
    exact ⟨rfl, rfl⟩
  · clear h
    go_enter Tryd.func60, Tryd.ntmps60
    go_wp2_with (first
      | (go_at_call 33; refine (place_any c p _).mono ?_; rw [h1]; rintro e w1 ⟨rfl, hw⟩; subst w1)
      | (go_at_call 34; with_reducible refine (mask_any a _).mono ?_; rw [h2]; rintro e w1 ⟨rfl, hw⟩; subst w1)
      | (go_at_call 34; with_reducible refine (mask_any b _).mono ?_; rw [h3]; rintro e w1 ⟨rfl, hw⟩; subst w1))
    go_ret
    exact ⟨rfl, rfl⟩

set_option maxHeartbeats 800000 in
theorem grant_in (w : World) (g : Nat) (T : Nat → Nat) (H : Tb w g T) (c p a b : Nat) (hc : c < 4) (hp : p < 6) (ha : a < 16) (hb : b < 16) :
    Calls Tryd.prog 60 #[tp g, .int .i64 (c : Int), .int .i64 (p : Int), .int .i64 (a : Int), .int .i64 (b : Int)] w fun e w' => e = .returned (.bool (grB T c p a b)) ∧ Tb w' g (if grB T c p a b then grT T c p a b else T) ∧ Off g w w' := by
  have h1 := pl_nat hc hp
  have h2 := ma_nat ha
  have h3 := ma_nat hb
  have hlt := H.lt
  have g1 := bor ha hb
  have hab := lor ha hb
  obtain ⟨X, hX⟩ : ∃ X, oc T c p = X := ⟨_, rfl⟩
  obtain ⟨Y, hY⟩ : ∃ Y, oo T c p = Y := ⟨_, rfl⟩
  have hXl : X < 16 := by rw [← hX]; exact orr_lt _ _ (fun d => H.le _) _
  have hYl : Y < 16 := by rw [← hY]; exact orr_lt _ _ (fun d => H.le _) _
  have g2 := band hYl hab
  have g3 := band hXl hb
  have HO := others_in w g T H c p hc hp
  rw [hX, hY] at HO
  have hgr : grB T c p a b = ((Y &&& (a ||| b) == 0) && (X &&& b == 0)) := by unfold grB; rw [hX, hY]
  rw [hgr]
  clear hX hY
  cases q1 : (Y &&& (a ||| b) == 0)
  · have q2 : (((Y &&& (a ||| b) : Nat) : Int) != 0) = true := by simp at q1; simp; omega
    clear hgr q1
    go_enter Tryd.func60, Tryd.ntmps60
    go_wp2_with (first
      | (go_at_call 68; refine HO.mono ?_; rintro e w2 ⟨rfl, hb2⟩; have hs2 := hb2.size)
      | (go_at_call 33; refine (place_any c p _).mono ?_; rw [h1]; rintro e w1 ⟨rfl, hw⟩; subst w1)
      | (go_at_call 34; with_reducible refine (mask_any a _).mono ?_; rw [h2]; rintro e w1 ⟨rfl, hw⟩; subst w1)
      | (go_at_call 34; with_reducible refine (mask_any b _).mono ?_; rw [h3]; rintro e w1 ⟨rfl, hw⟩; subst w1))
    go_ret
    refine ⟨rfl, ?_, ?_⟩
    · exact H.below (by go_grown)
    · exact Off.of_below (by go_grown)
  · have q2 : (((Y &&& (a ||| b) : Nat) : Int) != 0) = false := by simp at q1; simp; omega
    clear q1
    cases q3 : (X &&& b == 0)
    · have q4 : (((X &&& b : Nat) : Int) != 0) = true := by simp at q3; simp; omega
      clear hgr q3
      go_enter Tryd.func60, Tryd.ntmps60
      go_wp2_with (first
        | (go_at_call 68; refine HO.mono ?_; rintro e w2 ⟨rfl, hb2⟩; have hs2 := hb2.size)
        | (go_at_call 33; refine (place_any c p _).mono ?_; rw [h1]; rintro e w1 ⟨rfl, hw⟩; subst w1)
        | (go_at_call 34; with_reducible refine (mask_any a _).mono ?_; rw [h2]; rintro e w1 ⟨rfl, hw⟩; subst w1)
        | (go_at_call 34; with_reducible refine (mask_any b _).mono ?_; rw [h3]; rintro e w1 ⟨rfl, hw⟩; subst w1))
      go_ret
      refine ⟨rfl, ?_, ?_⟩
      · exact H.below (by go_grown)
      · exact Off.of_below (by go_grown)
    · have q4 : (((X &&& b : Nat) : Int) != 0) = false := by simp at q3; simp; omega
      clear hgr q3
      have g4 := bor (H.le (c * 12 + p * 2)) hab
      have g5 := bor (H.le (c * 12 + p * 2 + 1)) hb
      go_enter Tryd.func60, Tryd.ntmps60
      go_upto_region 6 with (first
        | (go_at_call 68; refine HO.mono ?_; rintro e w2 ⟨rfl, hb2⟩; have hs2 := hb2.size)
        | (go_at_call 33; refine (place_any c p _).mono ?_; rw [h1]; rintro e w1 ⟨rfl, hw⟩; subst w1)
        | (go_at_call 34; with_reducible refine (mask_any a _).mono ?_; rw [h2]; rintro e w1 ⟨rfl, hw⟩; subst w1)
        | (go_at_call 34; with_reducible refine (mask_any b _).mono ?_; rw [h3]; rintro e w1 ⟨rfl, hw⟩; subst w1))
      have hB3 : Below w.heap.size w (w2.alloc (.cells #[.int .i64 (X : Int), .int .i64 (Y : Int)] 70)) := by go_grown
      generalize (w2.alloc (.cells #[.int .i64 (X : Int), .int .i64 (Y : Int)] 70)) = W3 at *
      have H3 := H.below hB3
      have t0 := H3.cell (c * 12 + p * 2) (by omega)
      have t1 := H3.cell (c * 12 + p * 2 + 1) (by omega)
      have f0 := H3.fz (c * 12 + p * 2)
      have f1 := H3.fz (c * 12 + p * 2 + 1)
      go_wp2
      go_ret
      refine ⟨rfl, ?_, ?_⟩
      · exact (H3.put (by omega) (lor (H.le _) hab)).put (by omega) (lor (H.le _) hb)
      · exact ((Off.of_below hB3).set _ _).set _ _

end Go.Proofs.YtllggjkhbecalaaDoor.Tab
