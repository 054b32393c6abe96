/- What the functions of package sector do, walked: the small ones. -/
import Derived.Test.YthmoiogmdgdflaaSd
import Derived.Handy
namespace Go.Proofs.Ythmoiogmdgdflaa
open Go.RowKit
set_option linter.unusedVariables false

set_option maxHeartbeats 400000 in
theorem scopied_any (ao : Option Addr) (n cap : Nat) (bs : List Nat) (w : World) (h : Rd8 w ao n cap bs) (hn : n ≤ 140737488355328) :
    Calls Try.prog 31 #[.slice ao n cap] w fun e w' => ∃ ao' cap', e = .returned (.slice ao' n cap') ∧ Own8 w' w.heap.size ao' n cap' bs ∧ Below w.heap.size w w' := by
  have hl := h.len
  go_enter Try.func31, Try.ntmps31
  go_wp2_with (at_builtin; refine wpList_append_rdI _ rfl _ _ 48 rfl w.heap.size 5 .u8 (.int .u8 0) 1 Try.underlying48 info5 rfl rfl rfl (OwnI.nil _ _ _ _) h.rd rfl (by rw [ci_length]; omega) (by omega) (by unfold maxLen; omega) (Nat.le_refl _) ?_; intro ao2 cap2 w1 ho1 hb1)
  go_ret
  exact ⟨_, _, rfl, ⟨ho1, hl, h.byte⟩, hb1⟩

/-- The pointer to a drive. -/
abbrev dp (g : Nat) : Value := .pointer (some ⟨g + 1, 0, none⟩)

def hasB (L : List Sec) (i : Int) : Bool := decide (0 ≤ i) && decide (i < (L.length : Int))

theorem has_any (g : Nat) (V : Nat → Prop) (L : List Sec) (i : Int) (w : World) (h : Drv w g V L) :
    Calls Try.prog 30 #[dp g, .int .i64 i] w fun e w' => e = .returned (.bool (hasB L i)) ∧ w' = w := by
  have hp := h.pc
  cases hd : decide (0 ≤ i)
  all_goals
    have h' := hd
    simp only [decide_eq_true_eq, decide_eq_false_iff_not] at h'
    go_enter Try.func30, Try.ntmps30
    go_wp2
    go_ret
    exact ⟨ret_bool (by simp only [hasB, hd, Bool.true_and, Bool.false_and]), rfl⟩

theorem hasB_t {L : List Sec} {i : Nat} (h : i < L.length) : hasB L (i : Int) = true := by simp [hasB]; omega

theorem write_ok (g : Nat) (V : Nat → Prop) (L : List Sec) (i : Nat) (ao : Option Addr) (n cap : Nat) (bs : List Nat) (w : World) (h : Drv w g V L) (hi : i < L.length) (hr : Rd8 w ao n cap bs) (hn : n ≤ 100) :
    Calls Try.prog 62 #[dp g, .int .i64 (i : Int), .slice ao n cap] w fun e w' => e = .returned (.int .i64 0) ∧ Drv w' g (fun k => V k ∨ w.heap.size ≤ k) (L.set i (L[i].wrote bs)) ∧ Off g w w' := by
  have hp := h.pc
  have hh := hasB_t hi
  have hlt := h.lt
  have hle := h.le
  go_enter Try.func62, Try.ntmps62
  go_wp2_with (first
    | (go_at_call 30; refine (has_any g V L _ _ h).mono ?_; rintro e w' ⟨rfl, hw⟩; subst w')
    | (go_at_call 31; refine (scopied_any _ _ _ bs _ hr (by omega)).mono ?_; rintro e w1 ⟨ao1, cap1, rfl, ho1, hb1⟩; have hD1 := h.below hb1; have hf0 := hD1.fz (i * 3); have hf2 := hD1.fz (i * 3 + 2); obtain ⟨ax, nx, cx, hc0, _⟩ := hD1.cb i hi; have hc2 := hD1.cl i hi))
  go_ret
  have hD2 : Drv w1 g (fun k => V k ∨ w.heap.size ≤ k) L := hD1.mono (fun k _ hv => .inl hv) (by intro hx; rcases hx with hx | hx; exact h.vg hx; omega)
  exact ⟨rfl, hD2.putB i hi ho1.rd (ho1.inn.mono (Nat.le_refl _) fun k _ hv => .inr hv) hn true, ((Off.of_below (g := g) hb1).setCell rfl _).setCell rfl _⟩

theorem write_bad (g : Nat) (V : Nat → Prop) (L : List Sec) (i : Int) (ao : Option Addr) (n cap : Nat) (w : World) (h : Drv w g V L) (hi : hasB L i = false ∨ 100 < n) :
    Calls Try.prog 62 #[dp g, .int .i64 i, .slice ao n cap] w fun e w' => e = .returned (.int .i64 51) ∧ w' = w := by
  have hp := h.pc
  cases hh : hasB L i
  · go_enter Try.func62, Try.ntmps62
    go_wp2_with (go_at_call 30; refine (has_any g V L _ _ h).mono ?_; rintro e w' ⟨rfl, hw⟩; subst w')
    go_ret
    exact ⟨rfl, rfl⟩
  · have hn : 100 < n := by rcases hi with hi | hi; rw [hh] at hi; cases hi; exact hi
    go_enter Try.func62, Try.ntmps62
    go_wp2_with (go_at_call 30; refine (has_any g V L _ _ h).mono ?_; rintro e w' ⟨rfl, hw⟩; subst w')
    go_ret
    exact ⟨rfl, rfl⟩

theorem read_ok (g : Nat) (V : Nat → Prop) (L : List Sec) (i : Nat) (w : World) (h : Drv w g V L) (hi : i < L.length) :
    Calls Try.prog 19 #[dp g, .int .i64 (i : Int)] w fun e w' => ∃ ao n cap, e = .returned (.tuple #[.slice ao n cap, .int .i64 0]) ∧ Own8 w' w.heap.size ao n cap L[i].b ∧ n ≤ 100 ∧ Below w.heap.size w w' := by
  have hp := h.pc
  have hh := hasB_t hi
  have hlt := h.lt
  have hle := h.le
  obtain ⟨ao, n, cap, h1, h2, h3, h4⟩ := h.cb i hi
  go_enter Try.func19, Try.ntmps19
  go_wp2_with (first
    | (go_at_call 30; refine (has_any g V L _ _ h).mono ?_; rintro e w' ⟨rfl, hw⟩; subst w')
    | (go_at_call 31; refine (scopied_any _ _ _ _ _ h2 (by omega)).mono ?_; rintro e w1 ⟨ao1, cap1, rfl, ho1, hb1⟩))
  go_ret2
  exact ⟨_, _, _, rfl, ho1, h4, hb1⟩

theorem read_bad (g : Nat) (V : Nat → Prop) (L : List Sec) (i : Int) (w : World) (h : Drv w g V L) (hh : hasB L i = false) :
    Calls Try.prog 19 #[dp g, .int .i64 i] w fun e w' => e = .returned (.tuple #[.slice none 0 0, .int .i64 51]) ∧ w' = w := by
  have hp := h.pc
  go_enter Try.func19, Try.ntmps19
  go_wp2_with (first
    | (go_at_call 30; refine (has_any g V L _ _ h).mono ?_; rintro e w' ⟨rfl, hw⟩; subst w'))
  go_ret2
  exact ⟨rfl, rfl⟩

end Go.Proofs.Ythmoiogmdgdflaa
