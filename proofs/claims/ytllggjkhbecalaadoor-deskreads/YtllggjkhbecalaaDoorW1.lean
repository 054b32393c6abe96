/- What the short functions of package waits do, walked. -/
import Derived.Test.YtllggjkhbecalaaDoorE1
import Derived.Handy
import Derived.BigQuiet
import Derived.Deep.RegionHeldLaw
import Derived.Deep.DeepCutAuto
import Derived.Deep.CutBlock
import Derived.WalkMore
import Derived.ScopeJumps
namespace Go.Proofs.YtllggjkhbecalaaDoor.Wai
open Go.RowKit
set_option linter.unusedVariables false
set_option maxRecDepth 8000

theorem ret_bool {a b : Bool} (h : a = b) : Ending.returned (.bool a) = .returned (.bool b) := by rw [h]
theorem ret_int {a b : Int} (h : a = b) : Ending.returned (.int .i64 a) = .returned (.int .i64 b) := by rw [h]

theorem client_any (c : Int) (w : World) : Calls Tryd.prog 55 #[.int .i64 c] w fun e w' => e = .returned (.bool (clB c)) ∧ w' = w := by
  cases hd : decide (0 ≤ c)
  all_goals
    have h' := hd
    simp only [decide_eq_true_eq, decide_eq_false_iff_not] at h'
    go_enter Tryd.func55, Tryd.ntmps55
    go_wp2
    go_ret
    exact ⟨ret_bool (by simp only [clB, hd, Bool.true_and, Bool.false_and]), rfl⟩

theorem has0 : ∀ m < 16, (bits .and .u64 ((m : Nat) : Int) 1 == 1) = m.testBit 0 := by decide +kernel
theorem hasN : ∀ m < 16, ∀ k < 4, (bits .and .u64 (((m : Nat) : Int) / (2 : Int) ^ k) 1 == 1) = m.testBit k := by decide +kernel
theorem has_in (m k : Nat) (hm : m < 16) (hk : k < 4) (w : World) : Calls Tryd.prog 50 #[.int .u64 (m : Int), .int .i64 (k : Int)] w fun e w' => e = .returned (.bool (m.testBit k)) ∧ w' = w := by
  have hh := hasN m hm k hk
  match k, hk, hh with
  | 0, _, hh =>
    go_enter Tryd.func50, Tryd.ntmps50
    go_wp2
    go_ret
    exact ⟨ret_bool (by simpa using hh), rfl⟩
  | 1, _, hh =>
    go_enter Tryd.func50, Tryd.ntmps50
    go_wp2
    go_ret
    exact ⟨ret_bool (by simpa using hh), rfl⟩
  | 2, _, hh =>
    go_enter Tryd.func50, Tryd.ntmps50
    go_wp2
    go_ret
    exact ⟨ret_bool (by simpa using hh), rfl⟩
  | 3, _, hh =>
    go_enter Tryd.func50, Tryd.ntmps50
    go_wp2
    go_ret
    exact ⟨ret_bool (by simpa using hh), rfl⟩

def ix : Nat → Int
  | 0 => 0
  | 1 => 1
  | 2 => 3
  | _ => 7
theorem tzb : ∀ m < 16, m ≠ 0 → IntKind.u64.wrap (bits .and .u64 ((m : Nat) : Int) (IntKind.u64.wrap (-((m : Nat) : Int))) * 285870213051353865) / 288230376151711744 = ix (tz m) := by decide +kernel
theorem tz64 (m : Nat) (h0 : m ≠ 0) (hm : m < 16) (w : World) (H : Tz w) : Calls Tryd.prog 63 #[.int .u64 (m : Int)] w fun e w' => e = .returned (.int .i64 (tz m : Nat)) ∧ w' = w := by
  have c0 := H.c0
  have c1 := H.c1
  have c3 := H.c3
  have c7 := H.c7
  have hb := tzb m hm h0
  have hk := tz_lt m hm
  have hz : (((m : Nat) : Int) == 0) = false := by simp; omega
  obtain ⟨k, hk2⟩ : ∃ k, tz m = k := ⟨_, rfl⟩
  rw [hk2] at hb hk ⊢
  clear hk2 h0 hm H
  match k, hk with
  | 0, _ =>
    simp only [ix] at hb
    go_enter Tryd.func63, Tryd.ntmps63
    go_wp2
    go_ret
    exact ⟨rfl, rfl⟩
  | 1, _ =>
    simp only [ix] at hb
    go_enter Tryd.func63, Tryd.ntmps63
    go_wp2
    go_ret
    exact ⟨rfl, rfl⟩
  | 2, _ =>
    simp only [ix] at hb
    go_enter Tryd.func63, Tryd.ntmps63
    go_wp2
    go_ret
    exact ⟨rfl, rfl⟩
  | 3, _ =>
    simp only [ix] at hb
    go_enter Tryd.func63, Tryd.ntmps63
    go_wp2
    go_ret
    exact ⟨rfl, rfl⟩

theorem tz_in (m : Nat) (h0 : m ≠ 0) (hm : m < 16) (w : World) (H : Tz w) : Calls Tryd.prog 56 #[.int .u64 (m : Int)] w fun e w' => e = .returned (.int .i64 (tz m : Nat)) ∧ w' = w := by
  go_enter Tryd.func56, Tryd.ntmps56
  go_wp2_with (go_at_call 63; refine (tz64 m h0 hm _ H).mono ?_; rintro e w1 ⟨rfl, hw⟩; subst w1)
  go_ret
  exact ⟨rfl, rfl⟩

theorem orU : ∀ a < 16, ∀ b < 16, bits .or .u64 ((a : Nat) : Int) ((b : Nat) : Int) = ((a ||| b : Nat) : Int) := by decide +kernel
theorem orP : ∀ a < 16, ∀ k < 4, bits .or .u64 ((a : Nat) : Int) (IntKind.u64.wrap ((2 : Int) ^ k)) = ((a ||| 2 ^ k : Nat) : Int) := by decide +kernel
theorem notU : ∀ a < 16, ∀ b < 16, bits .andNot .u64 ((a : Nat) : Int) ((b : Nat) : Int) = ((sub a b : Nat) : Int) := by decide +kernel
theorem subU : ∀ a < 16, ∀ b < 16, sub a b < 16 := by decide +kernel

theorem below_set {B : Nat} {w w' : World} (h : Below B w w') {p : Addr} (hp : B ≤ p.block) (u : Value) : Below B w (w'.setCell p u) :=
  h.trans ⟨rfl, rfl, rfl, by simp [World.setCell], fun k hk => Below.heap_setCell _ _ _ _ (by omega)⟩

abbrev gV (T : Nat → Nat) : Value := .agg #[.int .u64 (T 0 : Nat), .int .u64 (T 1 : Nat), .int .u64 (T 2 : Nat), .int .u64 (T 3 : Nat)]

theorem wp_scope_back {P : Program} {a : Act} {w : World} {Q : Exit → Act → World → Prop} {c rest : Code} (l : Nat) (J : Act → World → Prop) (μ : Act → World → Nat) (hf : findLabel c l = some (Code.skip.seq rest))
    (first : (∀ a w, J a w → rest.wp P (Exit.jump l J Q) a w) → c.wp P (Exit.jump l J Q) a w)
    (pass : ∀ a w, J a w → rest.wp P (Exit.jump l (fun a' w' => J a' w' ∧ μ a' w' < μ a w) Q) a w) : (Code.scope c).wp P Q a w := by
  refine wp_scope_jumps l J μ hf (first fun a w h => wp_mono (pass a w h) ?_) fun a w h => wp_seq (wp_skip (pass a w h))
  intro e a w hq
  cases e with
  | goto l' => exact ⟨hq.1, hq.2.1⟩
  | _ => exact hq

def natAt (v : Value) : Nat := match v with
  | .int _ q => q.toNat
  | _ => 0

set_option maxRecDepth 1000000 in
theorem reach_in (E : List (Int × Int)) (i : Nat) (hi : i < 4) (w : World) (H : Tz w) : Calls Tryd.prog 49 #[gV (gA E), .int .i64 (i : Int)] w fun e w' => e = .returned (.int .u64 (pm E i : Nat)) ∧ Below w.heap.size w w' := by
  go_enter Tryd.func49, Tryd.ntmps49
  go_wp2
  have hG : G4 (w.alloc (.cells #[.int .u64 (gA E 0 : Nat), .int .u64 (gA E 1 : Nat), .int .u64 (gA E 2 : Nat), .int .u64 (gA E 3 : Nat)] 99)) w.heap.size (gA E) := ⟨heap_alloc_new w _⟩
  have hB : Below w.heap.size w (w.alloc (.cells #[.int .u64 (gA E 0 : Nat), .int .u64 (gA E 1 : Nat), .int .u64 (gA E 2 : Nat), .int .u64 (gA E 3 : Nat)] 99)) := by go_grown
  have hT := H.on hB
  generalize w.alloc (.cells #[.int .u64 (gA E 0 : Nat), .int .u64 (gA E 1 : Nat), .int .u64 (gA E 2 : Nat), .int .u64 (gA E 3 : Nat)] 99) = w1 at *
  obtain ⟨g, hg⟩ : ∃ g, g = w.heap.size := ⟨_, rfl⟩
  rw [← hg] at hG ⊢
  have HG : Hid (g = w.heap.size) := hg
  clear hg
  obtain ⟨J, hJ⟩ : ∃ J : Act → World → Prop, ∀ a' w', J a' w' ↔ ∃ (f a c : Nat) (u8 u9 u10 u11 u12 u13 u14 u15 u16 u17 u18 u19 u20 u21 u22 u23 u24 u25 u26 : Value), a' = { tmps := #[gV (gA E), .int .i64 (i : Int), .pointer (some ⟨g, 0, none⟩), undef, .int .u64 0, .int .u64 (f : Int), .int .u64 (a : Int), .int .i64 (c : Int), u8, u9, u10, u11, u12, u13, u14, u15, u16, u17, u18, u19, u20, u21, u22, u23, u24, u25, u26], defers := [] } ∧ w' = w1 ∧ Srch E i f a c := ⟨_, fun _ _ => Iff.rfl⟩
  have HJ : Hid (∀ a' w', J a' w' ↔ ∃ (f a c : Nat) (u8 u9 u10 u11 u12 u13 u14 u15 u16 u17 u18 u19 u20 u21 u22 u23 u24 u25 u26 : Value), a' = { tmps := #[gV (gA E), .int .i64 (i : Int), .pointer (some ⟨g, 0, none⟩), undef, .int .u64 0, .int .u64 (f : Int), .int .u64 (a : Int), .int .i64 (c : Int), u8, u9, u10, u11, u12, u13, u14, u15, u16, u17, u18, u19, u20, u21, u22, u23, u24, u25, u26], defers := [] } ∧ w' = w1 ∧ Srch E i f a c) := hJ
  clear hJ
  refine wp_scope_back 0 J (fun a' _ => zc (natAt (a'.tmps.getD 6 undef))) rfl ?_ ?_
  · intro hpass
    go_wp2
    go_step3
    rename_i hK
    exact hK _ _ <| hpass _ _ <| (HJ.out _ _).2 ⟨0, 0, i, _, _, _, _, _, _, _, _, _, _, _, _, _, _, _, _, _, _, _, rfl, rfl, Srch.first E i hi⟩
  · intro a' w' hJa
    obtain ⟨f, a, c, u8, u9, u10, u11, u12, u13, u14, u15, u16, u17, u18, u19, u20, u21, u22, u23, u24, u25, u26, rfl, rfl, hS⟩ := (HJ.out _ _).1 hJa
    clear hJa
    have hc4 := hS.c4
    have k0 := hG.cell c hc4
    have e1 := orU f hS.f16 (gA E c) (gA_lt E c)
    have e2 := orP a hS.a16 c hc4
    have e3 := notU _ hS.f' _ hS.a'
    have h16 := subU _ hS.f' _ hS.a'
    by_cases hz : sub (f ||| gA E c) (a ||| 2 ^ c) = 0
    · have e4 : (((sub (f ||| gA E c) (a ||| 2 ^ c) : Nat) : Int) != 0) = false := by simp [hz]
      have HZ : Hid (f ||| gA E c = pm E i) := hS.last hz
      clear hz
      go_wp2
      simp only [Exit.jump]
      go_ret
      have := HZ.out
      exact ⟨by rw [← this]; rfl, hB⟩
    · have e4 : (((sub (f ||| gA E c) (a ||| 2 ^ c) : Nat) : Int) != 0) = true := by simp; omega
      have hz2 := tz_in _ hz h16 w' hT
      have HN : Hid (Srch E i (f ||| gA E c) (a ||| 2 ^ c) (tz (sub (f ||| gA E c) (a ||| 2 ^ c)))) := hS.next hz h16
      have hzc := zc_lt a hS.a16 c hc4 hS.new
      clear hz
      go_wp2_with (go_at_call 56; refine hz2.mono ?_; rintro e w2 ⟨rfl, hw⟩; subst w2)
      all_goals (try go_step3)
      refine ⟨rfl, (HJ.out _ _).2 ⟨_, _, _, _, _, _, _, _, _, _, _, _, _, _, _, _, _, _, _, _, _, _, rfl, rfl, HN.out⟩, ?_⟩
      simpa [natAt] using hzc

end Go.Proofs.YtllggjkhbecalaaDoor.Wai
