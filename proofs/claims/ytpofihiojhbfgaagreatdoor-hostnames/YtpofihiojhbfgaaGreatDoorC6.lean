/- What the short functions of package waits do, walked. What graphOf of package waits does, walked. What Cycle, Victim, Reach and Without of package waits do, walked. -/
import Derived.Test.YtpofihiojhbfgaaGreatDoorC1
import Derived.Handy
import Derived.BigQuiet
import Derived.Deep.RegionHeldLaw
import Derived.Deep.DeepCutAuto
import Derived.Deep.CutBlock
import Derived.WalkMore
import Derived.ScopeJumps
namespace Go.Proofs.YtpofihiojhbfgaaGreatDoor.Wai
open Go.RowKit
set_option linter.unusedVariables false
set_option maxRecDepth 8000

theorem ret_bool {a b : Bool} (h : a = b) : Ending.returned (.bool a) = .returned (.bool b) := by rw [h]
theorem client_any (c : Int) (w : World) : Calls Tryz.prog 176 #[.int .i64 c] w fun e w' => e = .returned (.bool (clB c)) ∧ w' = w := by
  cases hd : decide (0 ≤ c)
  all_goals
    have h' := hd
    simp only [decide_eq_true_eq, decide_eq_false_iff_not] at h'
    go_enter Tryz.func176, Tryz.ntmps176
    go_wp2
    go_ret
    exact ⟨ret_bool (by simp only [clB, hd, Bool.true_and, Bool.false_and]), rfl⟩

theorem hasN : ∀ m < 16, ∀ k < 4, (bits .and .u64 (((m : Nat) : Int) / (2 : Int) ^ k) 1 == 1) = m.testBit k := by decide +kernel
theorem has_in (m k : Nat) (hm : m < 16) (hk : k < 4) (w : World) : Calls Tryz.prog 143 #[.int .u64 (m : Int), .int .i64 (k : Int)] w fun e w' => e = .returned (.bool (m.testBit k)) ∧ w' = w := by
  have hh := hasN m hm k hk
  match k, hk, hh with
  | 0, _, hh =>
    go_enter Tryz.func143, Tryz.ntmps143
    go_wp2
    go_ret
    exact ⟨ret_bool (by simpa using hh), rfl⟩
  | 1, _, hh =>
    go_enter Tryz.func143, Tryz.ntmps143
    go_wp2
    go_ret
    exact ⟨ret_bool (by simpa using hh), rfl⟩
  | 2, _, hh =>
    go_enter Tryz.func143, Tryz.ntmps143
    go_wp2
    go_ret
    exact ⟨ret_bool (by simpa using hh), rfl⟩
  | 3, _, hh =>
    go_enter Tryz.func143, Tryz.ntmps143
    go_wp2
    go_ret
    exact ⟨ret_bool (by simpa using hh), rfl⟩

def ix : Nat → Int
  | 0 => 0
  | 1 => 1
  | 2 => 3
  | _ => 7
theorem tzb : ∀ m < 16, m ≠ 0 → IntKind.u64.wrap (bits .and .u64 ((m : Nat) : Int) (IntKind.u64.wrap (-((m : Nat) : Int))) * 285870213051353865) / 288230376151711744 = ix (tz m) := by decide +kernel
theorem tz64 (m : Nat) (h0 : m ≠ 0) (hm : m < 16) (w : World) (H : Tz w) : Calls Tryz.prog 194 #[.int .u64 (m : Int)] w fun e w' => e = .returned (.int .i64 (tz m : Nat)) ∧ w' = w := by
  have c0 := H.c0
  have c1 := H.c1
  have c3 := H.c3
  have c7 := H.c7
  have hb := tzb m hm h0
  have hk := tz_lt m hm
  have hz : (((m : Nat) : Int) == 0) = false := by simp; omega
  obtain ⟨k, hk2⟩ : ∃ k, tz m = k := ⟨_, rfl⟩
  rw [hk2] at hb hk ⊢
  clear hk2 h0 hm H
  match k, hk with
  | 0, _ =>
    simp only [ix] at hb
    go_enter Tryz.func194, Tryz.ntmps194
    go_wp2
    go_ret
    exact ⟨rfl, rfl⟩
  | 1, _ =>
    simp only [ix] at hb
    go_enter Tryz.func194, Tryz.ntmps194
    go_wp2
    go_ret
    exact ⟨rfl, rfl⟩
  | 2, _ =>
    simp only [ix] at hb
    go_enter Tryz.func194, Tryz.ntmps194
    go_wp2
    go_ret
    exact ⟨rfl, rfl⟩
  | 3, _ =>
    simp only [ix] at hb
    go_enter Tryz.func194, Tryz.ntmps194
    go_wp2
    go_ret
    exact ⟨rfl, rfl⟩

theorem tz_in (m : Nat) (h0 : m ≠ 0) (hm : m < 16) (w : World) (H : Tz w) : Calls Tryz.prog 177 #[.int .u64 (m : Int)] w fun e w' => e = .returned (.int .i64 (tz m : Nat)) ∧ w' = w := by
  go_enter Tryz.func177, Tryz.ntmps177
  go_wp2_with (go_at_call 194; refine (tz64 m h0 hm _ H).mono ?_; rintro e w1 ⟨rfl, hw⟩; subst w1)
  go_ret
  exact ⟨rfl, rfl⟩

theorem orU : ∀ a < 16, ∀ b < 16, bits .or .u64 ((a : Nat) : Int) ((b : Nat) : Int) = ((a ||| b : Nat) : Int) := by decide +kernel
theorem orP : ∀ a < 16, ∀ k < 4, bits .or .u64 ((a : Nat) : Int) (IntKind.u64.wrap ((2 : Int) ^ k)) = ((a ||| 2 ^ k : Nat) : Int) := by decide +kernel
theorem notU : ∀ a < 16, ∀ b < 16, bits .andNot .u64 ((a : Nat) : Int) ((b : Nat) : Int) = ((sub a b : Nat) : Int) := by decide +kernel
theorem subU : ∀ a < 16, ∀ b < 16, sub a b < 16 := by decide +kernel

theorem below_set {B : Nat} {w w' : World} (h : Below B w w') {p : Addr} (hp : B ≤ p.block) (u : Value) : Below B w (w'.setCell p u) :=
  h.trans ⟨rfl, rfl, rfl, by simp [World.setCell], fun k hk => Below.heap_setCell _ _ _ _ (by omega)⟩

abbrev gV (T : Nat → Nat) : Value := .agg #[.int .u64 (T 0 : Nat), .int .u64 (T 1 : Nat), .int .u64 (T 2 : Nat), .int .u64 (T 3 : Nat)]

theorem wp_scope_back {P : Program} {a : Act} {w : World} {Q : Exit → Act → World → Prop} {c rest : Code} (l : Nat) (J : Act → World → Prop) (μ : Act → World → Nat) (hf : findLabel c l = some (Code.skip.seq rest))
    (first : (∀ a w, J a w → rest.wp P (Exit.jump l J Q) a w) → c.wp P (Exit.jump l J Q) a w)
    (pass : ∀ a w, J a w → rest.wp P (Exit.jump l (fun a' w' => J a' w' ∧ μ a' w' < μ a w) Q) a w) : (Code.scope c).wp P Q a w := by
  refine wp_scope_jumps l J μ hf (first fun a w h => wp_mono (pass a w h) ?_) fun a w h => wp_seq (wp_skip (pass a w h))
  intro e a w hq
  cases e with
  | goto l' => exact ⟨hq.1, hq.2.1⟩
  | _ => exact hq

def natAt (v : Value) : Nat := match v with
  | .int _ q => q.toNat
  | _ => 0

set_option maxRecDepth 1000000 in
theorem reach_in (E : List (Int × Int)) (i : Nat) (hi : i < 4) (w : World) (H : Tz w) : Calls Tryz.prog 142 #[gV (gA E), .int .i64 (i : Int)] w fun e w' => e = .returned (.int .u64 (pm E i : Nat)) ∧ Below w.heap.size w w' := by
  go_enter Tryz.func142, Tryz.ntmps142
  go_wp2
  have hG : G4 (w.alloc (.cells #[.int .u64 (gA E 0 : Nat), .int .u64 (gA E 1 : Nat), .int .u64 (gA E 2 : Nat), .int .u64 (gA E 3 : Nat)] 228)) w.heap.size (gA E) := ⟨heap_alloc_new w _⟩
  have hB : Below w.heap.size w (w.alloc (.cells #[.int .u64 (gA E 0 : Nat), .int .u64 (gA E 1 : Nat), .int .u64 (gA E 2 : Nat), .int .u64 (gA E 3 : Nat)] 228)) := by go_grown
  have hT := H.on hB
  generalize w.alloc (.cells #[.int .u64 (gA E 0 : Nat), .int .u64 (gA E 1 : Nat), .int .u64 (gA E 2 : Nat), .int .u64 (gA E 3 : Nat)] 228) = w1 at *
  obtain ⟨g, hg⟩ : ∃ g, g = w.heap.size := ⟨_, rfl⟩
  rw [← hg] at hG ⊢
  have HG : Hid (g = w.heap.size) := hg
  clear hg
  obtain ⟨J, hJ⟩ : ∃ J : Act → World → Prop, ∀ a' w', J a' w' ↔ ∃ (f a c : Nat) (u8 u9 u10 u11 u12 u13 u14 u15 u16 u17 u18 u19 u20 u21 u22 u23 u24 u25 u26 : Value), a' = { tmps := #[gV (gA E), .int .i64 (i : Int), .pointer (some ⟨g, 0, none⟩), undef, .int .u64 0, .int .u64 (f : Int), .int .u64 (a : Int), .int .i64 (c : Int), u8, u9, u10, u11, u12, u13, u14, u15, u16, u17, u18, u19, u20, u21, u22, u23, u24, u25, u26], defers := [] } ∧ w' = w1 ∧ Srch E i f a c := ⟨_, fun _ _ => Iff.rfl⟩
  have HJ : Hid (∀ a' w', J a' w' ↔ ∃ (f a c : Nat) (u8 u9 u10 u11 u12 u13 u14 u15 u16 u17 u18 u19 u20 u21 u22 u23 u24 u25 u26 : Value), a' = { tmps := #[gV (gA E), .int .i64 (i : Int), .pointer (some ⟨g, 0, none⟩), undef, .int .u64 0, .int .u64 (f : Int), .int .u64 (a : Int), .int .i64 (c : Int), u8, u9, u10, u11, u12, u13, u14, u15, u16, u17, u18, u19, u20, u21, u22, u23, u24, u25, u26], defers := [] } ∧ w' = w1 ∧ Srch E i f a c) := hJ
  clear hJ
  refine wp_scope_back 0 J (fun a' _ => zc (natAt (a'.tmps.getD 6 undef))) rfl ?_ ?_
  · intro hpass
    go_wp2
    go_step3
    rename_i hK
    exact hK _ _ <| hpass _ _ <| (HJ.out _ _).2 ⟨0, 0, i, _, _, _, _, _, _, _, _, _, _, _, _, _, _, _, _, _, _, _, rfl, rfl, Srch.first E i hi⟩
  · intro a' w' hJa
    obtain ⟨f, a, c, u8, u9, u10, u11, u12, u13, u14, u15, u16, u17, u18, u19, u20, u21, u22, u23, u24, u25, u26, rfl, rfl, hS⟩ := (HJ.out _ _).1 hJa
    clear hJa
    have hc4 := hS.c4
    have k0 := hG.cell c hc4
    have e1 := orU f hS.f16 (gA E c) (gA_lt E c)
    have e2 := orP a hS.a16 c hc4
    have e3 := notU _ hS.f' _ hS.a'
    have h16 := subU _ hS.f' _ hS.a'
    by_cases hz : sub (f ||| gA E c) (a ||| 2 ^ c) = 0
    · have e4 : (((sub (f ||| gA E c) (a ||| 2 ^ c) : Nat) : Int) != 0) = false := by simp [hz]
      have HZ : Hid (f ||| gA E c = pm E i) := hS.last hz
      clear hz
      go_wp2
      simp only [Exit.jump]
      go_ret
      have := HZ.out
      exact ⟨by rw [← this]; rfl, hB⟩
    · have e4 : (((sub (f ||| gA E c) (a ||| 2 ^ c) : Nat) : Int) != 0) = true := by simp; omega
      have hz2 := tz_in _ hz h16 w' hT
      have HN : Hid (Srch E i (f ||| gA E c) (a ||| 2 ^ c) (tz (sub (f ||| gA E c) (a ||| 2 ^ c)))) := hS.next hz h16
      have hzc := zc_lt a hS.a16 c hc4 hS.new
      clear hz
      go_wp2_with (go_at_call 177; refine hz2.mono ?_; rintro e w2 ⟨rfl, hw⟩; subst w2)
      all_goals (try go_step3)
      refine ⟨rfl, (HJ.out _ _).2 ⟨_, _, _, _, _, _, _, _, _, _, _, _, _, _, _, _, _, _, _, _, _, _, rfl, rfl, HN.out⟩, ?_⟩
      simpa [natAt] using hzc

end Go.Proofs.YtpofihiojhbfgaaGreatDoor.Wai

namespace Go.Proofs.YtpofihiojhbfgaaGreatDoor.Wai
open Go.RowKit
set_option linter.unusedVariables false
set_option maxRecDepth 8000

abbrev eO (x y : Int) : Obj := .cells #[.int .i64 x, .int .i64 y] 236

theorem gk_put {E : List (Int × Int)} {k : Nat} {a b : Nat} (h : E[k]? = some ((a : Int), (b : Int))) (ha : a < 4) (hb : b < 4) : put (fun i => gk E i k) a (gk E a k ||| 2 ^ b) = fun i => gk E i (k + 1) := by
  funext i
  rw [gk_ok h ha hb]
  unfold put
  by_cases e : i = a
  · subst e; simp
  · rw [if_neg e, if_neg (by omega)]

set_option maxHeartbeats 800000 in
theorem graph_any (w : World) (ao : Option Addr) (n cap : Nat) (E : List (Int × Int)) (hr : RdE w ao cap E) (hn : E.length = n) : Calls Tryz.prog 141 #[.slice ao n cap] w fun e w' => e = .returned (gV (gA E)) ∧ Below w.heap.size w w' := by
  have hle := hr.le
  have hmx := hr.mx
  simp only [maxLen] at hmx
  go_enter Tryz.func141, Tryz.ntmps141
  go_wp2
  go_loopw [8] (fun i wr => ∃ k : Nat, k ≤ n ∧ i = .int .i64 k ∧ G4 wr w.heap.size (fun _ => 0) ∧ G4 wr (w.heap.size + 1) (fun i => gk E i k) ∧ Below w.heap.size w wr) (fun i _ => n - (intOf i).toNat)
  case atStart =>
    refine ⟨0, by omega, rfl, ?_, ?_, by go_grown⟩
    · exact ⟨(((Below.refl _ _).alloc (Nat.le_refl _) _).block _ (by simp)).trans (heap_alloc_new w (.cells #[.int .u64 0, .int .u64 0, .int .u64 0, .int .u64 0] 228))⟩
    · have h2 := heap_alloc_new (w.alloc (.cells #[.int .u64 0, .int .u64 0, .int .u64 0, .int .u64 0] 228)) (.cells #[.int .u64 0, .int .u64 0, .int .u64 0, .int .u64 0] 228)
      rw [show (w.alloc (.cells #[.int .u64 0, .int .u64 0, .int .u64 0, .int .u64 0] 228)).heap.size = w.heap.size + 1 from by simp] at h2
      exact ⟨h2⟩
  case round =>
    obtain ⟨k, hk, rfl, hA, hC, hbel⟩ := hrel
    rename World => wr
    by_cases hlt : k < n
    · obtain ⟨b, off, rfl, hbl, c0, c1⟩ := (hr.below hbel).at (t := k) (by omega)
      have he : E[k]? = some E[k] := List.getElem?_eq_getElem (by omega)
      generalize E[k] = x at *
      obtain ⟨x, y⟩ := x
      have HE : Hid (E[k]? = some (x, y)) := he
      clear he
      have hCs := hC.lt
      by_cases hok : okE (x, y) = true
      · obtain ⟨i, j, hi, hj, e⟩ := ok_nat hok
        obtain ⟨rfl, rfl⟩ := Prod.mk.inj e
        have h1 := cl_nat hi
        have h2 := cl_nat hj
        have HC : G4 (wr.alloc (eO (i : Int) (j : Int))) (w.heap.size + 1) (fun i => gk E i k) := hC.keep (heap_alloc_old _ _ hCs)
        have HA : G4 (wr.alloc (eO (i : Int) (j : Int))) w.heap.size (fun _ => 0) := hA.keep (heap_alloc_old _ _ hA.lt)
        have HB : Below w.heap.size w (wr.alloc (eO (i : Int) (j : Int))) := hbel.alloc hbel.size _
        have t0 := HC.cell i hi
        have f0 := HC.fz i
        have b0 := orP (gk E i k) (gk_lt E i k) j hj
        clear e
        go_upto_region 6 with (first
          | (go_at_call 176; with_reducible refine (client_any (i : Int) _).mono ?_; rw [h1]; rintro e w1 ⟨rfl, hw⟩; subst w1)
          | (go_at_call 176; with_reducible refine (client_any (j : Int) _).mono ?_; rw [h2]; rintro e w1 ⟨rfl, hw⟩; subst w1))
        go_big_region
        go_wp2
        go_roundw
        case rel =>
          have hP := hC.put i (gk E i k ||| 2 ^ j) hi
          rw [gk_put HE.out hi hj] at hP
          refine ⟨k + 1, by omega, by go_num, hA.keep ?_, ⟨?_⟩, ?_⟩
          · exact (heap_alloc_old (wr.setCell _ _) _ (by simp [World.setCell]; omega)).trans (Below.heap_setCell _ _ _ _ (by simp))
          · exact (heap_alloc_old (wr.setCell _ _) _ (by simp [World.setCell]; omega)).trans hP.blk
          · have hb := below_set hbel (p := ⟨w.heap.size + 1, i, none⟩) (Nat.le_succ _) (.int .u64 ((gk E i k ||| 2 ^ j : Nat) : Int))
            have hb2 := hb.alloc hb.size (eO (i : Int) (j : Int))
            exact ⟨hb2.os, hb2.tape, hb2.output, hb2.size, hb2.block⟩
        case measure => simp [intOf]; omega
      · have hok : okE (x, y) = false := by simpa using hok
        have HK : Hid (okE (x, y) = false) := hok
        simp only [okE] at hok
        cases h1 : clB x
        · clear hok
          go_wp2_with (first
            | (go_at_call 176; with_reducible refine (client_any x _).mono ?_; rw [h1]; rintro e w1 ⟨rfl, hw⟩; subst w1))
          go_roundw
          case rel =>
            refine ⟨k + 1, by omega, by go_num, hA.keep (heap_alloc_old _ _ (by omega)), ?_, hbel.alloc hbel.size _⟩
            simp only [gk_bad HE.out HK.out]
            exact hC.keep (heap_alloc_old _ _ hCs)
          case measure => simp [intOf]; omega
        · have h2 : clB y = false := by simpa [h1] using hok
          clear hok
          go_wp2_with (first
            | (go_at_call 176; with_reducible refine (client_any x _).mono ?_; rw [h1]; rintro e w1 ⟨rfl, hw⟩; subst w1)
            | (go_at_call 176; with_reducible refine (client_any y _).mono ?_; rw [h2]; rintro e w1 ⟨rfl, hw⟩; subst w1))
          go_roundw
          case rel =>
            refine ⟨k + 1, by omega, by go_num, hA.keep (heap_alloc_old _ _ (by omega)), ?_, hbel.alloc hbel.size _⟩
            simp only [gk_bad HE.out HK.out]
            exact hC.keep (heap_alloc_old _ _ hCs)
          case measure => simp [intOf]; omega
    · obtain rfl : k = n := by omega
      have a0 := hA.fz 0
      have a1 := hA.fz 1
      have a2 := hA.fz 2
      have a3 := hA.fz 3
      have b0 := hA.cell 0 (by decide)
      have b1 := hA.cell 1 (by decide)
      have b2 := hA.cell 2 (by decide)
      have b3 := hA.cell 3 (by decide)
      have c0 := hC.cell 0 (by decide)
      have c1 := hC.cell 1 (by decide)
      have c2 := hC.cell 2 (by decide)
      have c3 := hC.cell 3 (by decide)
      go_wp2
      have hF : G4 ((((wr.setCell ⟨w.heap.size, 0, none⟩ (.int .u64 (gk E 0 k : Nat))).setCell ⟨w.heap.size, 1, none⟩ (.int .u64 (gk E 1 k : Nat))).setCell ⟨w.heap.size, 2, none⟩ (.int .u64 (gk E 2 k : Nat))).setCell ⟨w.heap.size, 3, none⟩ (.int .u64 (gk E 3 k : Nat))) w.heap.size (fun i => gk E i k) := ⟨((((hA.put 0 (gk E 0 k) (by decide)).put 1 (gk E 1 k) (by decide)).put 2 (gk E 2 k) (by decide)).put 3 (gk E 3 k) (by decide)).blk⟩
      have hB : Below w.heap.size w ((((wr.setCell ⟨w.heap.size, 0, none⟩ (.int .u64 (gk E 0 k : Nat))).setCell ⟨w.heap.size, 1, none⟩ (.int .u64 (gk E 1 k : Nat))).setCell ⟨w.heap.size, 2, none⟩ (.int .u64 (gk E 2 k : Nat))).setCell ⟨w.heap.size, 3, none⟩ (.int .u64 (gk E 3 k : Nat))) := below_set (below_set (below_set (below_set hbel (Nat.le_refl _) _) (Nat.le_refl _) _) (Nat.le_refl _) _) (Nat.le_refl _) _
      generalize ((((wr.setCell ⟨w.heap.size, 0, none⟩ (.int .u64 (gk E 0 k : Nat))).setCell ⟨w.heap.size, 1, none⟩ (.int .u64 (gk E 1 k : Nat))).setCell ⟨w.heap.size, 2, none⟩ (.int .u64 (gk E 2 k : Nat))).setCell ⟨w.heap.size, 3, none⟩ (.int .u64 (gk E 3 k : Nat))) = W9 at *
      have e0 := hF.cell 0 (by decide)
      have e1 := hF.cell 1 (by decide)
      have e2 := hF.cell 2 (by decide)
      have e3 := hF.cell 3 (by decide)
      refine bodyPost_ret (by simp [results, Tryz.results141, go_sem, e0, e1, e2, e3]; try rfl) rfl ?_
      subst hn
      exact ⟨rfl, hB⟩

end Go.Proofs.YtpofihiojhbfgaaGreatDoor.Wai

namespace Go.Proofs.YtpofihiojhbfgaaGreatDoor.Wai
open Go.RowKit
set_option linter.unusedVariables false
set_option maxRecDepth 8000

theorem has_pm (E : List (Int × Int)) (i k : Nat) (hk : k < 4) (w : World) : Calls Tryz.prog 143 #[.int .u64 (pm E i : Nat), .int .i64 (k : Int)] w fun e w' => e = .returned (.bool (rB E i k)) ∧ w' = w := by
  have h := has_in (pm E i) k (pm_lt E i) hk w
  rw [pm_bit E i k hk] at h
  exact h

theorem vc_yes {E : List (Int × Int)} {m : Nat} (hm : m < 4) (h : rB E m m = true) (hu : ∀ j, m < j → j < 4 → rB E j j = false) : vcI E = m ∧ vcB E = true := by
  unfold vcI vcB
  match m, hm with
  | 0, _ => simp [h, hu 1 (by decide) (by decide), hu 2 (by decide) (by decide), hu 3 (by decide) (by decide)]
  | 1, _ => simp [h, hu 2 (by decide) (by decide), hu 3 (by decide) (by decide)]
  | 2, _ => simp [h, hu 3 (by decide) (by decide)]
  | 3, _ => simp [h]
theorem vc_no {E : List (Int × Int)} (hu : ∀ j, j < 4 → rB E j j = false) : vcI E = 0 ∧ vcB E = false := by
  unfold vcI vcB
  simp [hu 0 (by decide), hu 1 (by decide), hu 2 (by decide), hu 3 (by decide)]

set_option maxHeartbeats 800000 in
theorem victim_any (w : World) (ao : Option Addr) (n cap : Nat) (E : List (Int × Int)) (hr : RdE w ao cap E) (hn : E.length = n) (H : Tz w) : Calls Tryz.prog 111 #[.slice ao n cap] w fun e w' => e = .returned (.tuple #[.int .i64 (vcI E), .bool (vcB E)]) ∧ Below w.heap.size w w' := by
  go_enter Tryz.func111, Tryz.ntmps111
  go_wp2_with (go_at_call 141; refine (graph_any _ ao n cap E hr hn).mono ?_; rintro e w2 ⟨rfl, hb2⟩; have hs2 := hb2.size)
  go_loopw [5] (fun i wr => ∃ (z : Int) (k : Nat), i = .int .i64 z ∧ z + 1 = k ∧ k ≤ 4 ∧ Hid (∀ j, k ≤ j → j < 4 → rB E j j = false) ∧ G4 wr w2.heap.size (gA E) ∧ Below w.heap.size w wr) (fun i _ => (intOf i + 1).toNat)
  case atStart => exact ⟨3, 4, rfl, by omega, by omega, fun j h1 h2 => by omega, ⟨heap_alloc_new w2 _⟩, hb2.alloc hb2.size _⟩
  case round =>
    obtain ⟨z, k, rfl, hz, hk, HV, hG, hbel⟩ := hrel
    rename World => wr
    have hT := H.on hbel
    cases k with
    | zero =>
      obtain rfl : z = -1 := by omega
      clear hz
      go_wp2
      go_returns
      have := vc_no (fun j hj => HV.out j (by omega) hj)
      exact ⟨by rw [this.1, this.2]; rfl, hbel⟩
    | succ m =>
      obtain rfl : z = m := by omega
      have hm : m < 4 := by omega
      clear hz
      have c0 := hG.cell 0 (by decide)
      have c1 := hG.cell 1 (by decide)
      have c2 := hG.cell 2 (by decide)
      have c3 := hG.cell 3 (by decide)
      have hr1 := reach_in E m hm wr hT
      have e3 : decide ((m : Int) ≥ 0) = true := by simp
      cases hb : rB E m m
      · have HB : Hid (rB E m m = false) := hb
        have hh := has_pm E m m hm
        rw [hb] at hh
        clear hb
        go_wp2_with (first
          | (go_at_call 142; refine hr1.mono ?_; rintro e w3 ⟨rfl, hb3⟩)
          | (go_at_call 143; refine (hh _).mono ?_; rintro e w4 ⟨rfl, hw⟩; subst w4))
        go_roundw
        case rel =>
          refine ⟨(m : Int) - 1, m, by go_num, by omega, by omega, fun j h1 h2 => ?_, hG.below hb3, below_step hbel hb3⟩
          rcases Nat.lt_or_ge m j with h | h
          · exact HV.out j h h2
          · have : j = m := by omega
            subst this
            exact HB.out
        case measure => simp [intOf]
      · have HB : Hid (rB E m m = true) := hb
        have hh := has_pm E m m hm
        rw [hb] at hh
        clear hb
        go_wp2_with (first
          | (go_at_call 142; refine hr1.mono ?_; rintro e w3 ⟨rfl, hb3⟩)
          | (go_at_call 143; refine (hh _).mono ?_; rintro e w4 ⟨rfl, hw⟩; subst w4))
        go_returns
        have := vc_yes hm HB.out (fun j h1 h2 => HV.out j h1 h2)
        exact ⟨by rw [this.1, this.2]; rfl, below_step hbel hb3⟩

end Go.Proofs.YtpofihiojhbfgaaGreatDoor.Wai
