/- The walk of NetFull. -/
import Derived.Test.YtfllkhimlambhaaN6
namespace Go.Proofs.Ytfllkhimlambhaa
open Go.RowKit
set_option linter.unusedVariables false
set_option maxRecDepth 8000

/-- What lies on the lane behind k Puts. -/
def fuL (k : Nat) : List It := (List.range (min k 200)).map fun i => ([i], false)
theorem fuL_len (k : Nat) : (fuL k).length = min k 200 := by simp [fuL]
theorem fuL_snoc {k : Nat} (h : k < 200) : fuL (k + 1) = fuL k ++ [([k], false)] := by
  unfold fuL
  rw [Nat.min_eq_left (by omega), Nat.min_eq_left (by omega), List.range_succ, List.map_append]
  rfl
theorem fuL_more {k : Nat} (h : ¬ k < 200) : fuL (k + 1) = fuL k := by
  unfold fuL
  rw [Nat.min_eq_right (by omega), Nat.min_eq_right (by omega)]
/-- The first two. -/
theorem fuL_two {k : Nat} (h : 2 ≤ k) : ∃ M, fuL k = ([0], false) :: ([1], false) :: M := by
  unfold fuL
  obtain ⟨j, hj⟩ : ∃ j, min k 200 = j + 2 := ⟨min k 200 - 2, by omega⟩
  rw [hj, List.range_succ_eq_map, List.range_succ_eq_map]
  exact ⟨_, rfl⟩

theorem bel_of {B : Nat} {w w1 w2 : World} (h : Below B w w1) (k : OffN (fun j => B ≤ j) w1 w2) (hB : B ≤ w1.heap.size) : Below B w w2 := h.trans (k.off.below (fun _ h => h) hB)

/-- The world behind the Late: the other lanes are empty, and the Take. -/
def Fin (B l g : Nat) (w W : World) (tb : Bool) (p : Fv → Prop) : Prop :=
  (∀ j : Nat, j < 8 → j ≠ l → Calls Try.prog 12 #[np g, .int .i64 (j : Int)] W fun e w' => e = .returned (.int .i64 0) ∧ w' = W) ∧
  Calls Try.prog 14 #[np g, .int .i64 (l : Int), .int .i64 0] W fun e w' => ∃ y : Fv, e = .returned (.tuple #[.slice y.ao y.n y.cap, .bool tb]) ∧ Hid (Below B w w') ∧ p y ∧ (tb = true → Hid (Fb w' (fun k => B ≤ k) y))

theorem fin_yes {B l g : Nat} {w W : World} {L : List It} (hl : l < 8) (H : NL B l g W L) (hb : Below B w W) {x : It} {M : List It} (hL : L = x :: M) : Fin B l g w W true (fun y => y.it = x) := by
  refine ⟨fun j hj hne => lenL_other H j hj hne, (takeL H hl hL rfl).mono ?_⟩
  rintro e w' ⟨y, rfl, h1, h2, h3, h4⟩
  exact ⟨y, rfl, bel_of hb h4 H.2, h1, fun _ => h2⟩
theorem fin_no {B l g : Nat} {w W : World} (H : NL B l g W []) (hb : Below B w W) : Fin B l g w W false (fun _ => True) := by
  refine ⟨fun j hj hne => lenL_other H j hj hne, (takeL_no H 0 rfl).mono ?_⟩
  rintro e w' ⟨rfl, rfl⟩
  exact ⟨⟨none, 0, 0, [], false⟩, rfl, hb, trivial, fun h => by cases h⟩
/-- The first byte of what was taken. -/
theorem one_at {w : World} {V : Nat → Prop} {y : Fv} (h : Fb w V y) (e : y.it = ([1], false)) : ∃ b off, y.ao = some ⟨b, off, none⟩ ∧ y.n = 1 ∧ w.cell? ⟨b, off, none⟩ = some (.int .u8 1) := by
  have e1 : y.bs = [1] := congrArg Prod.fst e
  have hn : y.n = 1 := by rw [← h.rd.len, e1]; rfl
  obtain ⟨b, off, h1, h2, h3⟩ := h.rd.at (t := 0) (by omega)
  refine ⟨b, off, h1, hn, ?_⟩
  simpa [e1] using h3

set_option maxHeartbeats 1600000 in
/-- What is asked behind the Puts, of any lane: how many there are, what a Double answers, and what is first behind it. -/
theorem full_main (l m : Nat) (hl : l < 8) (hm : m ≤ 250) (w : World) : Calls Try.prog 6 #[.int .i64 (l : Int), .int .i64 (m : Int)] w fun e w' => e = .returned (.bool true) ∧ Below w.heap.size w w' := by
  have hm0 : ¬ (m : Int) < 0 := by omega
  have hm2 : ¬ (250 : Int) < (m : Int) := by omega
  have hl0 : ¬ (l : Int) < 0 := by omega
  have hl7 : ¬ (7 : Int) < (l : Int) := by omega
  obtain ⟨B, hB⟩ : ∃ B, w.heap.size = B := ⟨_, rfl⟩
  have HA : Hid (Calls Try.prog 9 #[] w fun e w' => e = .returned (.bool true) ∧ Hid (Below B w w')) := hB ▸ alive_any w
  have HNew : Hid (∀ W, Below B w W → Calls Try.prog 8 #[] W fun e w' => e = .returned (np W.heap.size) ∧ Hid (NL B l W.heap.size w' [] ∧ Below B w w')) := by
    intro W hW
    refine (newL W l).mono ?_
    rintro e w' ⟨rfl, h1, h2⟩
    have hs : B ≤ W.heap.size := hB ▸ hW.size
    exact ⟨rfl, ⟨h1.1.mono fun k _ h => Nat.le_trans hs h, Nat.le_trans hs h1.2⟩, hW.trans (h2.mono hs)⟩
  have HBe : Hid (w.heap.size = B) := hB
  clear hB
  go_enter Try.func6, Try.ntmps6
  go_wp2_with (first
    | (go_at_call 8; refine (HNew.out _ HA1.out).mono ?_; rintro e w2 ⟨rfl, HN0⟩)
    | (go_at_call 9; refine HA.out.mono ?_; rintro e w1 ⟨rfl, HA1⟩))
  generalize w1.heap.size = g at *
  go_loopw [6] (fun i wr => ∃ k : Nat, k ≤ m ∧ i = .int .i64 k ∧ Hid (NL B l g wr (fuL k) ∧ Below B w wr)) (fun i _ => m - (intOf i).toNat)
  case atStart => exact ⟨0, Nat.zero_le _, rfl, HN0⟩
  case round =>
    obtain ⟨k, hk, rfl, HN⟩ := hrel
    clear HN0 HA HNew
    by_cases hlt : k < m
    · have hu8 : IntKind.u8.wrap (k : Int) = (k : Int) := by rw [IntKind.wrap_u8]; omega
      have hb1 : Below wr.heap.size wr (wr.alloc (.cells #[.int .u8 (k : Int)] 5)) := (Below.refl _ _).alloc (Nat.le_refl _) _
      by_cases h200 : k < 200
      · have hd : decide ((k : Int) < 200) = true := by simp; omega
        have HP : Hid (Calls Try.prog 11 #[np g, .int .i64 (l : Int), .slice (some ⟨wr.heap.size, 0, none⟩) 1 1] (wr.alloc (.cells #[.int .u8 (k : Int)] 5)) fun e w' => e = .returned (.bool true) ∧ Hid (NL B l g w' (fuL (k + 1)) ∧ Below B w w')) := by
          have hN := HN.out.1.below hb1
          refine (putL hN hl (Rd8.built wr #[.int .u8 (k : Int)] 1 [k] rfl rfl (by simp; omega) (by decide)) (by decide) (by rw [fuL_len]; omega) rfl).mono ?_
          rintro e w' ⟨rfl, h1, h2⟩
          exact ⟨rfl, by rw [fuL_snoc h200]; exact h1, bel_of (HN.out.2.trans (hb1.mono HN.out.1.2)) h2 hN.2⟩
        clear hb1
        go_wp2_with (go_at_call 11; refine HP.out.mono ?_; rintro e w3 ⟨rfl, HN3⟩)
        go_roundw
        case rel => exact ⟨k + 1, by omega, by go_num, HN3⟩
        case measure => simp [intOf]; omega
      · have hd : decide ((k : Int) < 200) = false := by simp; omega
        have HP : Hid (Calls Try.prog 11 #[np g, .int .i64 (l : Int), .slice (some ⟨wr.heap.size, 0, none⟩) 1 1] (wr.alloc (.cells #[.int .u8 (k : Int)] 5)) fun e w' => e = .returned (.bool false) ∧ Hid (NL B l g w' (fuL (k + 1)) ∧ Below B w w')) := by
          have hN := HN.out.1.below hb1
          refine (putL_no hN hl (Rd8.built wr #[.int .u8 (k : Int)] 1 [k] rfl rfl (by simp; omega) (by decide)) (by decide) (by rw [fuL_len]; omega) rfl).mono ?_
          rintro e w' ⟨rfl, h1, h2⟩
          exact ⟨rfl, by rw [fuL_more h200]; exact h1, bel_of (HN.out.2.trans (hb1.mono HN.out.1.2)) h2 hN.2⟩
        clear hb1
        go_wp2_with (go_at_call 11; refine HP.out.mono ?_; rintro e w3 ⟨rfl, HN3⟩)
        go_roundw
        case rel => exact ⟨k + 1, by omega, by go_num, HN3⟩
        case measure => simp [intOf]; omega
    · obtain rfl : k = m := by omega
      clear hlt hk
      by_cases hc0 : k = 0
      · have hk0 : ¬ (0 : Int) < (k : Int) := by omega
        have hk2 : (k : Int) < 2 := by omega
        have hk200 : (k : Int) < 200 := by omega
        have hd1 : decide ((0 : Int) < (k : Int)) = false := by simp; omega
        have e0 : fuL k = [] := by rw [hc0]; rfl
        have HK : Hid (k = 0) := hc0
        rw [e0] at HN
        clear e0 hc0
        have HL : Hid (Calls Try.prog 12 #[np g, .int .i64 (l : Int)] wr fun e w' => e = .returned (.int .i64 (k : Int)) ∧ w' = wr) := by
          refine (lenL HN.out.1 hl rfl).mono ?_
          rintro e w' ⟨rfl, h⟩
          exact ⟨ret_int (by rw [HK.out]; rfl), h⟩
        have HD : Hid (Calls Try.prog 16 #[np g, .int .i64 (l : Int), .int .i64 0] wr fun e w' => e = .returned (.bool false) ∧ Hid (NL B l g w' [] ∧ Below B w w')) := by
          refine (doubleL_no HN.out.1 hl (by simp) rfl).mono ?_
          rintro e w' ⟨rfl, rfl⟩
          exact ⟨rfl, HN.out⟩
        have HT : Hid (∀ W, NL B l g W [] ∧ Below B w W → Calls Try.prog 18 #[np g, .int .i64 (l : Int), .int .i64 0] W fun e w' => e = .returned (.bool false) ∧ Hid (Fin B l g w w' false (fun _ => True))) := by
          rintro W ⟨hW, hbW⟩
          refine (lateL_no hW hl (by simp) rfl).mono ?_
          rintro e w' ⟨rfl, rfl⟩
          exact ⟨rfl, fin_no hW hbW⟩
        clear HN
        go_wp2_with (first
          | (go_at_call 18; refine (HT.out _ HD1.out).mono ?_; rintro e w5 ⟨rfl, HF⟩)
          | (go_at_call 16; refine HD.out.mono ?_; rintro e w4 ⟨rfl, HD1⟩)
          | (go_at_call 12; refine HL.out.mono ?_; rintro e w3 ⟨rfl, hw3⟩; subst w3))
        go_loopw [8] (fun i wr => ∃ k : Nat, k ≤ 8 ∧ i = .int .i64 k ∧ wr = w5) (fun i _ => 8 - (intOf i).toNat)
        case atStart => exact ⟨0, Nat.zero_le _, rfl, rfl⟩
        case round =>
          obtain ⟨j, hj, rfl, hwr⟩ := hrel
          rename World => wz
          subst wz
          by_cases hj8 : j < 8
          · by_cases hjl : j = l
            · subst hjl
              go_wp2
              go_roundw
              case rel => exact ⟨j + 1, by omega, by go_num, by trivial⟩
              case measure => simp [intOf]; omega
            · have hne : ¬ (j : Int) = (l : Int) := by omega
              have hbq : ((j : Int) == (l : Int)) = false := by simp; omega
              have hbq2 : ((j : Int) != (l : Int)) = true := by simp; omega
              go_wp2_with (go_at_call 12; refine (HF.out.1 j hj8 hjl).mono ?_; rintro e w6 ⟨rfl, hw6⟩; subst w6)
              go_roundw
              case rel => exact ⟨j + 1, by omega, by go_num, by trivial⟩
              case measure => simp [intOf]; omega
          · go_wp2_with (go_at_call 14; refine HF.out.2.mono ?_; rintro e w7 ⟨y, rfl, HB7, hy, hf⟩)
            all_goals go_ret
            all_goals exact ⟨rfl, by rw [HBe.out]; exact HB7.out⟩
      by_cases hc1 : k = 1
      · have hk0 : (0 : Int) < (k : Int) := by omega
        have hk2 : (k : Int) < 2 := by omega
        have hk200 : (k : Int) < 200 := by omega
        have hd1 : decide ((0 : Int) < (k : Int)) = true := by simp; omega
        have hd2 : decide ((k : Int) < 200) = true := by simp; omega
        have e0 : fuL k = [([0], false)] := by rw [hc1]; rfl
        have HK : Hid (k = 1) := hc1
        rw [e0] at HN
        clear e0 hc1
        have HL : Hid (Calls Try.prog 12 #[np g, .int .i64 (l : Int)] wr fun e w' => e = .returned (.int .i64 (k : Int)) ∧ w' = wr) := by
          refine (lenL HN.out.1 hl rfl).mono ?_
          rintro e w' ⟨rfl, h⟩
          exact ⟨ret_int (by rw [HK.out]; rfl), h⟩
        have HD : Hid (Calls Try.prog 16 #[np g, .int .i64 (l : Int), .int .i64 0] wr fun e w' => e = .returned (.bool true) ∧ Hid (NL B l g w' [([0], false), ([0], false)] ∧ Below B w w')) := by
          refine (doubleL HN.out.1 hl 0 (by decide) (by decide) rfl rfl).mono ?_
          rintro e w' ⟨rfl, h1, h2⟩
          exact ⟨rfl, h1, bel_of HN.out.2 h2 HN.out.1.2⟩
        have HT : Hid (∀ W, NL B l g W [([0], false), ([0], false)] ∧ Below B w W → Calls Try.prog 18 #[np g, .int .i64 (l : Int), .int .i64 0] W fun e w' => e = .returned (.bool true) ∧ Hid (Fin B l g w w' true (fun y => y.it = ([0], false)))) := by
          rintro W ⟨hW, hbW⟩
          refine (lateL hW hl 0 (by decide) rfl rfl).mono ?_
          rintro e w' ⟨rfl, h1, h2⟩
          exact ⟨rfl, fin_yes hl h1 (bel_of hbW h2 hW.2) rfl⟩
        clear HN
        go_wp2_with (first
          | (go_at_call 18; refine (HT.out _ HD1.out).mono ?_; rintro e w5 ⟨rfl, HF⟩)
          | (go_at_call 16; refine HD.out.mono ?_; rintro e w4 ⟨rfl, HD1⟩)
          | (go_at_call 12; refine HL.out.mono ?_; rintro e w3 ⟨rfl, hw3⟩; subst w3))
        go_loopw [8] (fun i wr => ∃ k : Nat, k ≤ 8 ∧ i = .int .i64 k ∧ wr = w5) (fun i _ => 8 - (intOf i).toNat)
        case atStart => exact ⟨0, Nat.zero_le _, rfl, rfl⟩
        case round =>
          obtain ⟨j, hj, rfl, hwr⟩ := hrel
          rename World => wz
          subst wz
          by_cases hj8 : j < 8
          · by_cases hjl : j = l
            · subst hjl
              go_wp2
              go_roundw
              case rel => exact ⟨j + 1, by omega, by go_num, by trivial⟩
              case measure => simp [intOf]; omega
            · have hne : ¬ (j : Int) = (l : Int) := by omega
              have hbq : ((j : Int) == (l : Int)) = false := by simp; omega
              have hbq2 : ((j : Int) != (l : Int)) = true := by simp; omega
              go_wp2_with (go_at_call 12; refine (HF.out.1 j hj8 hjl).mono ?_; rintro e w6 ⟨rfl, hw6⟩; subst w6)
              go_roundw
              case rel => exact ⟨j + 1, by omega, by go_num, by trivial⟩
              case measure => simp [intOf]; omega
          · go_wp2_with (go_at_call 14; refine HF.out.2.mono ?_; rintro e w7 ⟨y, rfl, HB7, hy, hf⟩)
            all_goals go_ret
            all_goals exact ⟨rfl, by rw [HBe.out]; exact HB7.out⟩
      by_cases hc2 : k < 200
      · have hk0 : (0 : Int) < (k : Int) := by omega
        have hk2 : ¬ (k : Int) < 2 := by omega
        have hk200 : (k : Int) < 200 := by omega
        have hd1 : decide ((0 : Int) < (k : Int)) = true := by simp; omega
        have hd2 : decide ((k : Int) < 200) = true := by simp; omega
        obtain ⟨M, e0⟩ := fuL_two (k := k) (by omega)
        have HK : Hid (fuL k = ([0], false) :: ([1], false) :: M ∧ (fuL k).length = k) := ⟨e0, by rw [fuL_len]; omega⟩
        clear e0
        have HL : Hid (Calls Try.prog 12 #[np g, .int .i64 (l : Int)] wr fun e w' => e = .returned (.int .i64 (k : Int)) ∧ w' = wr) := by
          refine (lenL HN.out.1 hl rfl).mono ?_
          rintro e w' ⟨rfl, h⟩
          exact ⟨ret_int (by rw [HK.out.2]), h⟩
        have HD : Hid (Calls Try.prog 16 #[np g, .int .i64 (l : Int), .int .i64 0] wr fun e w' => e = .returned (.bool true) ∧ Hid (NL B l g w' (fuL k ++ [([0], false)]) ∧ Below B w w')) := by
          refine (doubleL HN.out.1 hl 0 (by rw [HK.out.2]; omega) (by rw [HK.out.2]; omega) rfl rfl).mono ?_
          rintro e w' ⟨rfl, h1, h2⟩
          have e1 : itAt (fuL k) 0 = ([0], false) := by rw [HK.out.1]; rfl
          rw [e1] at h1
          exact ⟨rfl, h1, bel_of HN.out.2 h2 HN.out.1.2⟩
        have HT : Hid (∀ W, NL B l g W (fuL k ++ [([0], false)]) ∧ Below B w W → Calls Try.prog 18 #[np g, .int .i64 (l : Int), .int .i64 0] W fun e w' => e = .returned (.bool true) ∧ Hid (Fin B l g w w' true (fun y => y.it = ([1], false)))) := by
          rintro W ⟨hW, hbW⟩
          refine (lateL hW hl 0 (by simp) rfl rfl).mono ?_
          rintro e w' ⟨rfl, h1, h2⟩
          rw [HK.out.1] at h1
          exact ⟨rfl, fin_yes hl h1 (bel_of hbW h2 hW.2) rfl⟩
        clear HN
        go_wp2_with (first
          | (go_at_call 18; refine (HT.out _ HD1.out).mono ?_; rintro e w5 ⟨rfl, HF⟩)
          | (go_at_call 16; refine HD.out.mono ?_; rintro e w4 ⟨rfl, HD1⟩)
          | (go_at_call 12; refine HL.out.mono ?_; rintro e w3 ⟨rfl, hw3⟩; subst w3))
        go_loopw [8] (fun i wr => ∃ k : Nat, k ≤ 8 ∧ i = .int .i64 k ∧ wr = w5) (fun i _ => 8 - (intOf i).toNat)
        case atStart => exact ⟨0, Nat.zero_le _, rfl, rfl⟩
        case round =>
          obtain ⟨j, hj, rfl, hwr⟩ := hrel
          rename World => wz
          subst wz
          by_cases hj8 : j < 8
          · by_cases hjl : j = l
            · subst hjl
              go_wp2
              go_roundw
              case rel => exact ⟨j + 1, by omega, by go_num, by trivial⟩
              case measure => simp [intOf]; omega
            · have hne : ¬ (j : Int) = (l : Int) := by omega
              have hbq : ((j : Int) == (l : Int)) = false := by simp; omega
              have hbq2 : ((j : Int) != (l : Int)) = true := by simp; omega
              go_wp2_with (go_at_call 12; refine (HF.out.1 j hj8 hjl).mono ?_; rintro e w6 ⟨rfl, hw6⟩; subst w6)
              go_roundw
              case rel => exact ⟨j + 1, by omega, by go_num, by trivial⟩
              case measure => simp [intOf]; omega
          · go_wp2_with (go_at_call 14; refine HF.out.2.mono ?_; rintro e w7 ⟨y, rfl, HB7, hy, hf⟩; obtain ⟨b7, o7, ha7, hn7, hc7⟩ := one_at (hf rfl).out hy; rw [ha7, hn7]; clear hf hy ha7 hn7)
            all_goals go_ret
            all_goals exact ⟨rfl, by rw [HBe.out]; exact HB7.out⟩
      by_cases hc3 : k = 200
      · have hk0 : (0 : Int) < (k : Int) := by omega
        have hk2 : ¬ (k : Int) < 2 := by omega
        have hk200 : ¬ (k : Int) < 200 := by omega
        have hk201 : (k : Int) ≤ 200 := by omega
        have hd1 : decide ((0 : Int) < (k : Int)) = true := by simp; omega
        have hd2 : decide ((k : Int) < 200) = false := by simp; omega
        obtain ⟨M, e0⟩ := fuL_two (k := k) (by omega)
        have HK : Hid (fuL k = ([0], false) :: ([1], false) :: M ∧ (fuL k).length = 200) := ⟨e0, by rw [fuL_len]; omega⟩
        have HK3 : Hid (k = 200) := hc3
        clear e0
        have HL : Hid (Calls Try.prog 12 #[np g, .int .i64 (l : Int)] wr fun e w' => e = .returned (.int .i64 (k : Int)) ∧ w' = wr) := by
          refine (lenL HN.out.1 hl rfl).mono ?_
          rintro e w' ⟨rfl, h⟩
          exact ⟨ret_int (by rw [HK.out.2, hc3]), h⟩
        have HD : Hid (Calls Try.prog 16 #[np g, .int .i64 (l : Int), .int .i64 0] wr fun e w' => e = .returned (.bool false) ∧ Hid (NL B l g w' (fuL k) ∧ Below B w w')) := by
          refine (doubleL_full HN.out.1 hl 0 (by rw [HK.out.2]; omega) (by rw [HK.out.2]; omega) rfl rfl).mono ?_
          rintro e w' ⟨rfl, h1, h2⟩
          exact ⟨rfl, h1, bel_of HN.out.2 h2 HN.out.1.2⟩
        have HT : Hid (∀ W, NL B l g W (fuL k) ∧ Below B w W → Calls Try.prog 18 #[np g, .int .i64 (l : Int), .int .i64 0] W fun e w' => e = .returned (.bool true) ∧ Hid (Fin B l g w w' true (fun y => y.it = ([1], false)))) := by
          rintro W ⟨hW, hbW⟩
          refine (lateL hW hl 0 (by rw [HK.out.2]; omega) rfl rfl).mono ?_
          rintro e w' ⟨rfl, h1, h2⟩
          rw [HK.out.1] at h1
          exact ⟨rfl, fin_yes hl h1 (bel_of hbW h2 hW.2) rfl⟩
        clear HN
        go_wp2_with (first
          | (go_at_call 18; refine (HT.out _ HD1.out).mono ?_; rintro e w5 ⟨rfl, HF⟩)
          | (go_at_call 16; refine HD.out.mono ?_; rintro e w4 ⟨rfl, HD1⟩)
          | (go_at_call 12; refine HL.out.mono ?_; rintro e w3 ⟨rfl, hw3⟩; subst w3))
        go_loopw [8] (fun i wr => ∃ k : Nat, k ≤ 8 ∧ i = .int .i64 k ∧ wr = w5) (fun i _ => 8 - (intOf i).toNat)
        case atStart => exact ⟨0, Nat.zero_le _, rfl, rfl⟩
        case round =>
          obtain ⟨j, hj, rfl, hwr⟩ := hrel
          rename World => wz
          subst wz
          by_cases hj8 : j < 8
          · by_cases hjl : j = l
            · subst hjl
              go_wp2
              go_roundw
              case rel => exact ⟨j + 1, by omega, by go_num, by trivial⟩
              case measure => simp [intOf]; omega
            · have hne : ¬ (j : Int) = (l : Int) := by omega
              have hbq : ((j : Int) == (l : Int)) = false := by simp; omega
              have hbq2 : ((j : Int) != (l : Int)) = true := by simp; omega
              go_wp2_with (go_at_call 12; refine (HF.out.1 j hj8 hjl).mono ?_; rintro e w6 ⟨rfl, hw6⟩; subst w6)
              go_roundw
              case rel => exact ⟨j + 1, by omega, by go_num, by trivial⟩
              case measure => simp [intOf]; omega
          · go_wp2_with (go_at_call 14; refine HF.out.2.mono ?_; rintro e w7 ⟨y, rfl, HB7, hy, hf⟩; obtain ⟨b7, o7, ha7, hn7, hc7⟩ := one_at (hf rfl).out hy; rw [ha7, hn7]; clear hf hy ha7 hn7)
            all_goals go_ret
            all_goals exact ⟨rfl, by rw [HBe.out]; exact HB7.out⟩
      · have hk0 : (0 : Int) < (k : Int) := by omega
        have hk2 : ¬ (k : Int) < 2 := by omega
        have hk200 : ¬ (k : Int) < 200 := by omega
        have hk201 : ¬ (k : Int) ≤ 200 := by omega
        have hd1 : decide ((0 : Int) < (k : Int)) = true := by simp; omega
        have hd2 : decide ((k : Int) < 200) = false := by simp; omega
        obtain ⟨M, e0⟩ := fuL_two (k := k) (by omega)
        have HK : Hid (fuL k = ([0], false) :: ([1], false) :: M ∧ (fuL k).length = 200) := ⟨e0, by rw [fuL_len]; omega⟩
        clear e0
        have HL : Hid (Calls Try.prog 12 #[np g, .int .i64 (l : Int)] wr fun e w' => e = .returned (.int .i64 200) ∧ w' = wr) := by
          refine (lenL HN.out.1 hl rfl).mono ?_
          rintro e w' ⟨rfl, h⟩
          exact ⟨ret_int (by rw [HK.out.2]; rfl), h⟩
        have HD : Hid (Calls Try.prog 16 #[np g, .int .i64 (l : Int), .int .i64 0] wr fun e w' => e = .returned (.bool false) ∧ Hid (NL B l g w' (fuL k) ∧ Below B w w')) := by
          refine (doubleL_full HN.out.1 hl 0 (by rw [HK.out.2]; omega) (by rw [HK.out.2]; omega) rfl rfl).mono ?_
          rintro e w' ⟨rfl, h1, h2⟩
          exact ⟨rfl, h1, bel_of HN.out.2 h2 HN.out.1.2⟩
        have HT : Hid (∀ W, NL B l g W (fuL k) ∧ Below B w W → Calls Try.prog 18 #[np g, .int .i64 (l : Int), .int .i64 0] W fun e w' => e = .returned (.bool true) ∧ Hid (Fin B l g w w' true (fun y => y.it = ([1], false)))) := by
          rintro W ⟨hW, hbW⟩
          refine (lateL hW hl 0 (by rw [HK.out.2]; omega) rfl rfl).mono ?_
          rintro e w' ⟨rfl, h1, h2⟩
          rw [HK.out.1] at h1
          exact ⟨rfl, fin_yes hl h1 (bel_of hbW h2 hW.2) rfl⟩
        clear HN
        go_wp2_with (first
          | (go_at_call 18; refine (HT.out _ HD1.out).mono ?_; rintro e w5 ⟨rfl, HF⟩)
          | (go_at_call 16; refine HD.out.mono ?_; rintro e w4 ⟨rfl, HD1⟩)
          | (go_at_call 12; refine HL.out.mono ?_; rintro e w3 ⟨rfl, hw3⟩; subst w3))
        go_loopw [8] (fun i wr => ∃ k : Nat, k ≤ 8 ∧ i = .int .i64 k ∧ wr = w5) (fun i _ => 8 - (intOf i).toNat)
        case atStart => exact ⟨0, Nat.zero_le _, rfl, rfl⟩
        case round =>
          obtain ⟨j, hj, rfl, hwr⟩ := hrel
          rename World => wz
          subst wz
          by_cases hj8 : j < 8
          · by_cases hjl : j = l
            · subst hjl
              go_wp2
              go_roundw
              case rel => exact ⟨j + 1, by omega, by go_num, by trivial⟩
              case measure => simp [intOf]; omega
            · have hne : ¬ (j : Int) = (l : Int) := by omega
              have hbq : ((j : Int) == (l : Int)) = false := by simp; omega
              have hbq2 : ((j : Int) != (l : Int)) = true := by simp; omega
              go_wp2_with (go_at_call 12; refine (HF.out.1 j hj8 hjl).mono ?_; rintro e w6 ⟨rfl, hw6⟩; subst w6)
              go_roundw
              case rel => exact ⟨j + 1, by omega, by go_num, by trivial⟩
              case measure => simp [intOf]; omega
          · go_wp2_with (go_at_call 14; refine HF.out.2.mono ?_; rintro e w7 ⟨y, rfl, HB7, hy, hf⟩; obtain ⟨b7, o7, ha7, hn7, hc7⟩ := one_at (hf rfl).out hy; rw [ha7, hn7]; clear hf hy ha7 hn7)
            all_goals go_ret
            all_goals exact ⟨rfl, by rw [HBe.out]; exact HB7.out⟩

end Go.Proofs.Ytfllkhimlambhaa
