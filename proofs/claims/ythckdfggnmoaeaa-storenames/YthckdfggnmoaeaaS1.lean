/- What the functions of package sector do, walked: the small ones. -/
import Derived.Test.YthckdfggnmoaeaaSd
import Derived.Handy
namespace Go.Proofs.Ythckdfggnmoaeaa
open Go.RowKit
set_option linter.unusedVariables false

set_option maxHeartbeats 400000 in
theorem scopied_any (ao : Option Addr) (n cap : Nat) (bs : List Nat) (w : World) (h : Rd8 w ao n cap bs) (hn : n ≤ 140737488355328) :
    Calls Try.prog 80 #[.slice ao n cap] w fun e w' => ∃ ao' cap', e = .returned (.slice ao' n cap') ∧ Own8 w' w.heap.size ao' n cap' bs ∧ Below w.heap.size w w' := by
  have hl := h.len
  go_enter Try.func80, Try.ntmps80
  go_wp2_with (at_builtin; refine wpList_append_rdI _ rfl _ _ 56 rfl w.heap.size 5 .u8 (.int .u8 0) 1 Try.underlying56 info5 rfl rfl rfl (OwnI.nil _ _ _ _) h.rd rfl (by rw [ci_length]; omega) (by omega) (by unfold maxLen; omega) (Nat.le_refl _) ?_; intro ao2 cap2 w1 ho1 hb1)
  go_ret
  exact ⟨_, _, rfl, ⟨ho1, hl, h.byte⟩, hb1⟩

/-- The pointer to a drive. -/
abbrev dp (g : Nat) : Value := .pointer (some ⟨g + 1, 0, none⟩)

theorem len_any (g : Nat) (V : Nat → Prop) (L : List Sec) (w : World) (h : Drv w g V L) :
    Calls Try.prog 20 #[dp g] w fun e w' => e = .returned (.int .i64 L.length) ∧ w' = w := by
  have hp := h.pc
  go_enter Try.func20, Try.ntmps20
  go_wp2
  go_ret
  exact ⟨rfl, rfl⟩

def hasB (L : List Sec) (i : Int) : Bool := decide (0 ≤ i) && decide (i < (L.length : Int))

theorem has_any (g : Nat) (V : Nat → Prop) (L : List Sec) (i : Int) (w : World) (h : Drv w g V L) :
    Calls Try.prog 79 #[dp g, .int .i64 i] w fun e w' => e = .returned (.bool (hasB L i)) ∧ w' = w := by
  have hp := h.pc
  cases hd : decide (0 ≤ i)
  all_goals
    have h' := hd
    simp only [decide_eq_true_eq, decide_eq_false_iff_not] at h'
    go_enter Try.func79, Try.ntmps79
    go_wp2
    go_ret
    exact ⟨ret_bool (by simp only [hasB, hd, Bool.true_and, Bool.false_and]), rfl⟩

theorem settle_any (g : Nat) (V : Nat → Prop) (L : List Sec) (i : Nat) (w : World) (h : Drv w g V L) (hi : i < L.length) :
    Calls Try.prog 45 #[.pointer (some ⟨g, i * 3, none⟩)] w fun e w' => e = .returned (.tuple #[]) ∧ Drv w' g V (L.set i L[i].settle) ∧ Off g w w' ∧ w'.heap.size = w.heap.size := by
  obtain ⟨ao, n, cap, h1, h2, h3, h4⟩ := h.cb i hi
  obtain ⟨ao', n', cap', r1, r2, r3, r4⟩ := h.cs i hi
  have hl := h.cl i hi
  have hf0 := h.fz (i * 3)
  have hf1 := h.fz (i * 3 + 1)
  have hf2 := h.fz (i * 3 + 2)
  go_enter Try.func45, Try.ntmps45
  go_wp2
  go_end0
  exact ⟨rfl, h.putS i hi h2 h3 h4 false, ((Off.refl g w).setCell rfl _).setCell rfl _, by simp [World.setCell]⟩

theorem revert_any (g : Nat) (V : Nat → Prop) (L : List Sec) (i : Nat) (w : World) (h : Drv w g V L) (hi : i < L.length) :
    Calls Try.prog 46 #[.pointer (some ⟨g, i * 3, none⟩)] w fun e w' => e = .returned (.tuple #[]) ∧ Drv w' g V (L.set i L[i].revert) ∧ Off g w w' ∧ w'.heap.size = w.heap.size := by
  obtain ⟨ao, n, cap, h1, h2, h3, h4⟩ := h.cb i hi
  obtain ⟨ao', n', cap', r1, r2, r3, r4⟩ := h.cs i hi
  have hl := h.cl i hi
  have hf0 := h.fz (i * 3)
  have hf1 := h.fz (i * 3 + 1)
  have hf2 := h.fz (i * 3 + 2)
  go_enter Try.func46, Try.ntmps46
  go_wp2
  go_end0
  exact ⟨rfl, h.putB i hi r2 r3 r4 false, ((Off.refl g w).setCell rfl _).setCell rfl _, by simp [World.setCell]⟩

theorem hasB_t {L : List Sec} {i : Nat} (h : i < L.length) : hasB L (i : Int) = true := by simp [hasB]; omega

theorem write_ok (g : Nat) (V : Nat → Prop) (L : List Sec) (i : Nat) (ao : Option Addr) (n cap : Nat) (bs : List Nat) (w : World) (h : Drv w g V L) (hi : i < L.length) (hr : Rd8 w ao n cap bs) (hn : n ≤ 100) :
    Calls Try.prog 87 #[dp g, .int .i64 (i : Int), .slice ao n cap] w fun e w' => e = .returned (.int .i64 0) ∧ Drv w' g (fun k => V k ∨ w.heap.size ≤ k) (L.set i (L[i].wrote bs)) ∧ Off g w w' := by
  have hp := h.pc
  have hh := hasB_t hi
  have hlt := h.lt
  have hle := h.le
  go_enter Try.func87, Try.ntmps87
  go_wp2_with (first
    | (go_at_call 79; refine (has_any g V L _ _ h).mono ?_; rintro e w' ⟨rfl, hw⟩; subst w')
    | (go_at_call 80; refine (scopied_any _ _ _ bs _ hr (by omega)).mono ?_; rintro e w1 ⟨ao1, cap1, rfl, ho1, hb1⟩; have hD1 := h.below hb1; have hf0 := hD1.fz (i * 3); have hf2 := hD1.fz (i * 3 + 2); obtain ⟨ax, nx, cx, hc0, _⟩ := hD1.cb i hi; have hc2 := hD1.cl i hi))
  go_ret
  have hD2 : Drv w1 g (fun k => V k ∨ w.heap.size ≤ k) L := hD1.mono (fun k _ hv => .inl hv) (by intro hx; rcases hx with hx | hx; exact h.vg hx; omega)
  exact ⟨rfl, hD2.putB i hi ho1.rd (ho1.inn.mono (Nat.le_refl _) fun k _ hv => .inr hv) hn true, ((Off.of_below (g := g) hb1).setCell rfl _).setCell rfl _⟩

theorem write_bad (g : Nat) (V : Nat → Prop) (L : List Sec) (i : Int) (ao : Option Addr) (n cap : Nat) (w : World) (h : Drv w g V L) (hi : hasB L i = false ∨ 100 < n) :
    Calls Try.prog 87 #[dp g, .int .i64 i, .slice ao n cap] w fun e w' => e = .returned (.int .i64 51) ∧ w' = w := by
  have hp := h.pc
  cases hh : hasB L i
  · go_enter Try.func87, Try.ntmps87
    go_wp2_with (go_at_call 79; refine (has_any g V L _ _ h).mono ?_; rintro e w' ⟨rfl, hw⟩; subst w')
    go_ret
    exact ⟨rfl, rfl⟩
  · have hn : 100 < n := by rcases hi with hi | hi; rw [hh] at hi; cases hi; exact hi
    go_enter Try.func87, Try.ntmps87
    go_wp2_with (go_at_call 79; refine (has_any g V L _ _ h).mono ?_; rintro e w' ⟨rfl, hw⟩; subst w')
    go_ret
    exact ⟨rfl, rfl⟩

theorem read_ok (g : Nat) (V : Nat → Prop) (L : List Sec) (i : Nat) (w : World) (h : Drv w g V L) (hi : i < L.length) :
    Calls Try.prog 69 #[dp g, .int .i64 (i : Int)] w fun e w' => ∃ ao n cap, e = .returned (.tuple #[.slice ao n cap, .int .i64 0]) ∧ Own8 w' w.heap.size ao n cap L[i].b ∧ n ≤ 100 ∧ Below w.heap.size w w' := by
  have hp := h.pc
  have hh := hasB_t hi
  have hlt := h.lt
  have hle := h.le
  obtain ⟨ao, n, cap, h1, h2, h3, h4⟩ := h.cb i hi
  go_enter Try.func69, Try.ntmps69
  go_wp2_with (first
    | (go_at_call 79; refine (has_any g V L _ _ h).mono ?_; rintro e w' ⟨rfl, hw⟩; subst w')
    | (go_at_call 80; refine (scopied_any _ _ _ _ _ h2 (by omega)).mono ?_; rintro e w1 ⟨ao1, cap1, rfl, ho1, hb1⟩))
  go_ret2
  exact ⟨_, _, _, rfl, ho1, h4, hb1⟩

theorem read_bad (g : Nat) (V : Nat → Prop) (L : List Sec) (i : Int) (w : World) (h : Drv w g V L) (hh : hasB L i = false) :
    Calls Try.prog 69 #[dp g, .int .i64 i] w fun e w' => e = .returned (.tuple #[.slice none 0 0, .int .i64 51]) ∧ w' = w := by
  have hp := h.pc
  go_enter Try.func69, Try.ntmps69
  go_wp2_with (first
    | (go_at_call 79; refine (has_any g V L _ _ h).mono ?_; rintro e w' ⟨rfl, hw⟩; subst w'))
  go_ret2
  exact ⟨rfl, rfl⟩

end Go.Proofs.Ythckdfggnmoaeaa
