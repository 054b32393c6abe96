/- Are messages the same: what Same of package msg and what it calls do, walked. -/
import Derived.Test.YtmognpjkccienaaM1
import Derived.Deep.QuietTactic
import Derived.BigQuiet
import Derived.BigRegion
import Derived.Handy
namespace Go.Proofs.Ytmognpjkccienaa.Msg
open Go.RowKit
set_option linter.unusedVariables false
set_option maxRecDepth 8000

/-- A put as a value. -/
abbrev putV (p : PutG) : Value := .agg #[.int .i64 (p.pg : Int), .int .i64 (p.ob : Int), .complex .f64 p.c.1 p.c.2]

/-- Are two puts the same? -/
def samePutB (p q : PutG) : Bool := (p.pg : Int) == (q.pg : Int) && (p.ob : Int) == (q.ob : Int) && sameB p.c.1 p.c.2 q.c.1 q.c.2

theorem samePut_any (p q : PutG) (w : World) : Calls Try.prog 77 #[putV p, putV q] w fun x w' => x = .returned (.bool (samePutB p q)) ∧ Below w.heap.size w w' := by
  go_enter Try.func77, Try.ntmps77
  go_wp2_with (first
    | (go_at_call 67; refine (same_any _ _ _ _ _).mono ?_; rintro x w0 ⟨rfl, hw⟩; subst w0))
  all_goals
    go_ret
    refine ⟨ret_bool (by simp_all [samePutB]), ?_⟩
    exact ((Below.refl _ _).alloc (Nat.le_refl _) _).alloc (by simp) _

/-- Are puts the same? -/
def samePs : List PutG → List PutG → Bool
  | [], [] => true
  | p :: r, q :: s => samePutB p q && samePs r s
  | _, _ => false

theorem samePs_at (ps qs : List PutG) (k : Nat) (h1 : k < ps.length) (h2 : k < qs.length) : samePs (ps.drop k) (qs.drop k) = (samePutB ps[k] qs[k] && samePs (ps.drop (k + 1)) (qs.drop (k + 1))) := by
  rw [List.drop_eq_getElem_cons h1, List.drop_eq_getElem_cons h2]; rfl

theorem samePs_len : ∀ (ps qs : List PutG), ps.length ≠ qs.length → samePs ps qs = false
  | [], [], h => absurd rfl h
  | [], _ :: _, _ => rfl
  | _ :: _, [], _ => rfl
  | p :: r, q :: s, h => by simp only [samePs, samePs_len r s (by simpa using h), Bool.and_false]

set_option maxHeartbeats 800000 in
theorem eqPuts_any (a1 a2 : Option Addr) (n m c1 c2 : Nat) (ps qs : List PutG) (w : World) (h1 : RdP w a1 n c1 ps) (h2 : RdP w a2 m c2 qs) (hn : n ≤ 140737488355328) :
    Calls Try.prog 76 #[.slice a1 n c1, .slice a2 m c2, .func (.func 77) #[] #[]] w fun x w' => x = .returned (.bool (samePs ps qs)) ∧ Below w.heap.size w w' := by
  have l1 := h1.len
  have l2 := h2.len
  have H1 : Hid (RdP w a1 n c1 ps) := h1
  have H2 : Hid (RdP w a2 m c2 qs) := h2
  clear h1 h2
  have hst := fun (ad : Addr) (re im : Nat) (W : World) => run_store Try.prog W ad (.complex .f64 re im) .plain rfl
  by_cases hnm : n = m
  · subst hnm
    go_enter Try.func76, Try.ntmps76
    go_wp2
    go_loopw [17] (fun i wr => ∃ (k : Nat), k ≤ n ∧ i = .int .i64 k ∧ samePs ps qs = samePs (ps.drop k) (qs.drop k) ∧ Below w.heap.size w wr) (fun i _ => n - (intOf i).toNat)
    case atStart => exact ⟨0, Nat.zero_le _, rfl, rfl, Below.refl _ _⟩
    case round =>
      obtain ⟨k, hk, rfl, hsm, hbel⟩ := hrel
      by_cases hlt : k < n
      · rw [samePs_at ps qs k (by omega) (by omega)] at hsm
        have HSM : Hid (samePs ps qs = (samePutB (ps[k]'(by omega)) (qs[k]'(by omega)) && samePs (ps.drop (k + 1)) (qs.drop (k + 1)))) := hsm
        clear hsm
        obtain ⟨b1, o1, e1, hb1, q0, q1, q2⟩ := (H1.out.below hbel).cell k (by omega)
        obtain ⟨b2, o2, e2, hb2, r0, r1, r2⟩ := (H2.out.below hbel).cell k (by omega)
        subst e1 e2
        generalize ps[k] = p at *
        generalize qs[k] = q at *
        have f0 : (wr.alloc (.cells #[.int .i64 (p.pg : Int), .int .i64 (p.ob : Int), .complex .f64 p.c.1 p.c.2] 63)).cell? ⟨b2, o2 + k * 3, none⟩ = some (.int .i64 (q.pg : Int)) := ((below_box wr _).cell (p := ⟨b2, o2 + k * 3, none⟩) hb2).trans r0
        have f1 : (wr.alloc (.cells #[.int .i64 (p.pg : Int), .int .i64 (p.ob : Int), .complex .f64 p.c.1 p.c.2] 63)).cell? ⟨b2, o2 + k * 3 + 1, none⟩ = some (.int .i64 (q.ob : Int)) := ((below_box wr _).cell (p := ⟨b2, o2 + k * 3 + 1, none⟩) hb2).trans r1
        have f2 : (wr.alloc (.cells #[.int .i64 (p.pg : Int), .int .i64 (p.ob : Int), .complex .f64 p.c.1 p.c.2] 63)).cell? ⟨b2, o2 + k * 3 + 2, none⟩ = some (.complex .f64 q.c.1 q.c.2) := ((below_box wr _).cell (p := ⟨b2, o2 + k * 3 + 2, none⟩) hb2).trans r2
        have HN : Hid (∀ W, Below wr.heap.size wr W → Below w.heap.size w W) := fun W h => below_step hbel h
        go_wp2_with (first
          | (go_at_call 77; refine (samePut_any p q _).mono ?_; rintro x w2 ⟨rfl, hb⟩; have hB2 : Below w.heap.size w w2 := HN.out _ ((((Below.refl _ _).alloc (Nat.le_refl _) _).alloc (by simp) _).trans (hb.mono (by simp; omega))); clear hb))
        all_goals first
          | (go_ret; exact ⟨ret_bool (by rw [HSM.out]; simp_all), hB2⟩)
          | (go_roundw
             case rel => exact ⟨k + 1, by omega, by go_num, by rw [HSM.out]; simp_all, hB2⟩
             case measure => simp [intOf]; omega)
      · go_wp2
        go_ret
        exact ⟨ret_bool (by rw [hsm, List.drop_of_length_le (by omega), List.drop_of_length_le (by omega)]; rfl), hbel⟩
  · have hne : ((n : Int) == (m : Int)) = false := by simp; omega
    have HF : Hid (samePs ps qs = false) := samePs_len ps qs (by omega)
    go_enter Try.func76, Try.ntmps76
    go_wp2
    go_ret
    exact ⟨ret_bool HF.out.symm, Below.refl _ _⟩

end Go.Proofs.Ytmognpjkccienaa.Msg
