/- A world for any Config that can be: New answers one. No walk. -/
import Derived.Test.YtemldmjpanmdbaaGreatDoorNk
namespace Go.Proofs.YtemldmjpanmdbaaGreatDoor
open Go.RowKit
set_option linter.unusedVariables false
theorem allN_at {c f : Nat} (h : allN c = true) (h1 : 1 ≤ f) (h2 : f ≤ 6) : okN (Ev.callN (Ev.envOf Tryz.prog) 1000 15 [cfA c f] Ev.St0) = true := by
  unfold allN at h
  rw [List.all_eq_true] at h
  refine h f ?_
  have : f = 1 ∨ f = 2 ∨ f = 3 ∨ f = 4 ∨ f = 5 ∨ f = 6 := by omega
  rcases this with rfl | rfl | rfl | rfl | rfl | rfl <;> simp
/-- Can there be a world of it? -/
def canW (c f m p r : Int) : Bool := (decide (1 ≤ c) && decide (c ≤ 4)) && (decide (1 ≤ f) && decide (f ≤ 6)) && (decide (1 ≤ m) && decide (m ≤ 6)) && (decide (1 ≤ p) && decide (p ≤ 100)) && (decide (0 ≤ r) && decide (r ≤ 20000))
theorem new_right {c f m p r : Int} (h : canW c f m p r = true) (w : World) :
    Calls Tryz.prog 15 #[cfV c f m p r] w fun e w' => (∃ a, e = .returned (.tuple #[.pointer (some a), .int .i64 0])) ∧ Below w.heap.size w w' := by
  simp only [canW, Bool.and_eq_true, decide_eq_true_eq] at h
  obtain ⟨⟨⟨⟨⟨c1, c2⟩, f1, f2⟩, m1, m2⟩, p1, p2⟩, r1, r2⟩ := h
  obtain ⟨c, rfl⟩ := Int.eq_ofNat_of_zero_le (show 0 ≤ c by omega)
  obtain ⟨f, rfl⟩ := Int.eq_ofNat_of_zero_le (show 0 ≤ f by omega)
  obtain ⟨m, rfl⟩ := Int.eq_ofNat_of_zero_le (show 0 ≤ m by omega)
  obtain ⟨p, rfl⟩ := Int.eq_ofNat_of_zero_le (show 0 ≤ p by omega)
  obtain ⟨r, rfl⟩ := Int.eq_ofNat_of_zero_le (show 0 ≤ r by omega)
  have hall : allN c = true := by
    have : c = 1 ∨ c = 2 ∨ c = 3 ∨ c = 4 := by omega
    rcases this with rfl | rfl | rfl | rfl
    · exact new1
    · exact new2
    · exact new3
    · exact new4
  have hk := allN_at hall (f := f) (by omega) (by omega)
  cases hx : Ev.callN (Ev.envOf Tryz.prog) 1000 15 [cfA c f] Ev.St0 with
  | none => rw [hx] at hk; cases hk
  | some q =>
    obtain ⟨v, S⟩ := q
    rw [hx] at hk
    unfold okN at hk
    split at hk
    · rename_i rr oo SS he
      obtain ⟨rfl, rfl⟩ := he
      refine (Ev.callN_args (by kernel_rfl) (by kernel_rfl) hx w #[cfV c f m p r] ?_).mono ?_
      · refine ⟨_, [], rfl, ?_, rfl⟩
        show Ev.VR _ _ (.agg _) _
        simp only [Ev.VR]
        refine ⟨_, rfl, Ev.VRA_iff.2 ?_⟩
        refine ⟨_, _, rfl, (by simp only [Ev.VR]; rfl), _, _, rfl, (by simp only [Ev.VR]; rfl), _, _, rfl, Ev.rng_VR (by omega) (by omega) (by omega), _, _, rfl, Ev.rng_VR (by omega) (by omega) (by omega), _, _, rfl, Ev.rng_VR (by omega) (by omega) (by omega), rfl⟩
      · rintro e w' ⟨⟨v', ρ', rfl, h1⟩, h2⟩
        refine ⟨?_, h2⟩
        simp only [Ev.VR] at h1
        obtain ⟨cs, rfl, h1⟩ := h1
        have h1 := Ev.VRA_iff.1 h1
        obtain ⟨a, l, e1, h2, b, l2, e2, h3, e3⟩ := h1
        simp only [Ev.VR] at h2 h3
        obtain ⟨pl, _, _, rfl⟩ := h2
        subst h3
        cases e3
        subst e2
        have hcs : cs = #[.pointer (some ⟨pl.b, pl.s + oo, none⟩), .int .i64 (.ofNat 0)] := Array.ext' e1
        exact ⟨⟨pl.b, pl.s + oo, none⟩, by rw [hcs]; rfl⟩
    · cases hk
end Go.Proofs.YtemldmjpanmdbaaGreatDoor
