/- What bytes are read as, and what Read of package msg does where they can't be, walked. -/
import Derived.Test.YtgeoeaadeemmcaaM5
import Derived.Test.YtgeoeaadeemmcaaM7
namespace Go.Proofs.Ytgeoeaadeemmcaa
open Go.RowKit
set_option linter.unusedVariables false

/-- The number at a place. -/
def nAt (zs : List Int) (i : Nat) : Int := rdN ((zs.drop (3 * i)).take 3)

theorem nAt_bd (zs : List Int) (i : Nat) (hb : ∀ z ∈ zs, 0 ≤ z ∧ z < 256) : 0 ≤ nAt zs i ∧ nAt zs i ≤ 16777215 := by
  have := part3_bd zs (3 * i) hb
  unfold nAt
  omega

theorem get8 (zs : List Int) : getN zs 8 = [nAt zs 0, nAt zs 1, nAt zs 2, nAt zs 3, nAt zs 4, nAt zs 5, nAt zs 6, nAt zs 7] := by simp [getN, List.range_succ, nAt]

/-- A message, if nothing is left and it can be. -/
def fin (M : Mg) (r : List Int) : Option Mg := if r.length = 0 ∧ rightB M = true then some M else none

/-- The message that the first numbers and the puts tell. -/
def mg0 (zs : List Int) (ps : List PutG) : Mg := ⟨nAt zs 0, nAt zs 1, nAt zs 2, nAt zs 3, nAt zs 4, nAt zs 5, nAt zs 6 == 1, ps, z2, z2, z2, z2⟩

/-- A message with some values. -/
def withV (M : Mg) (v : List (Nat × Nat)) : Mg := ⟨M.k, M.p, M.o, M.t, M.c, M.n, M.wr, M.ps, v.getD 0 z2, v.getD 1 z2, v.getD 2 z2, v.getD 3 z2⟩

/-- The message of bytes. -/
def parse (zs : List Int) : Option Mg :=
  if zs.length < 24 then none
  else if isFlg (nAt zs 6) = false then none
  else if 24 < nAt zs 7 then none
  else match takeP (nAt zs 7).toNat (zs.drop 24) with
    | none => none
    | some (ps, r) =>
      if nAt zs 0 = 5 then match takeV 4 r with
        | none => none
        | some (v, s) => fin (withV (mg0 zs ps) v) s
      else fin (mg0 zs ps) r

/-- No message. -/
abbrev mgZ : Mg := ⟨0, 0, 0, 0, 0, 0, false, [], z2, z2, z2, z2⟩

theorem get_eight (ao : Option Addr) (cap n m : Nat) (zs : List Int) (w : World) (hrd : RdI w .u8 ao cap zs) (hn : zs.length = n) (hb : ∀ z ∈ zs, 0 ≤ z ∧ z < 256) (h6 : 24 ≤ n) (hm : n - 24 = m) (hlen : n ≤ 140737488355328) :
    Calls Try.prog 22 #[.slice ao n cap, .int .i64 8] w fun e w' => ∃ b f c1 a2 c2, e = .returned (.tuple #[.slice (some ⟨b, f, none⟩) 8 c1, .slice a2 m c2, .int .i64 0]) ∧
      (w.heap.size ≤ b ∧ b < w'.heap.size) ∧ w'.cell? ⟨b, f, none⟩ = some (.int .i64 (nAt zs 0)) ∧ w'.cell? ⟨b, f + 1, none⟩ = some (.int .i64 (nAt zs 1)) ∧ w'.cell? ⟨b, f + 2, none⟩ = some (.int .i64 (nAt zs 2)) ∧ w'.cell? ⟨b, f + 3, none⟩ = some (.int .i64 (nAt zs 3)) ∧ w'.cell? ⟨b, f + 4, none⟩ = some (.int .i64 (nAt zs 4)) ∧ w'.cell? ⟨b, f + 5, none⟩ = some (.int .i64 (nAt zs 5)) ∧ w'.cell? ⟨b, f + 6, none⟩ = some (.int .i64 (nAt zs 6)) ∧ w'.cell? ⟨b, f + 7, none⟩ = some (.int .i64 (nAt zs 7)) ∧
      OwnI w' w.heap.size 5 .u8 a2 c2 (zs.drop 24) ∧ Below w.heap.size w w' := by
  subst hm
  refine (get_good ao cap n 8 zs w hrd hn hb (by omega) (by omega) hlen).mono ?_
  rintro e w' ⟨a1, c1, a2, c2, rfl, h1, h2, h3⟩
  rw [get8] at h1
  obtain ⟨b, f, rfl, hlt, hc⟩ := h1.rd.at (t := 0) (by simp)
  exact ⟨b, f, c1, a2, c2, rfl, ⟨(h1.blk _ rfl).1, hlt⟩, hc 0 (by simp), hc 1 (by simp), hc 2 (by simp), hc 3 (by simp), hc 4 (by simp), hc 5 (by simp), hc 6 (by simp), hc 7 (by simp), h2, h3⟩

set_option maxHeartbeats 800000 in
theorem read_short (ao : Option Addr) (cap n : Nat) (w : World) (hn : n < 24) :
    Calls Try.prog 8 #[.slice ao n cap] w fun x w' => x = .returned (.tuple #[msV mgZ none 0 0, .int .i64 101]) ∧ Below w.heap.size w w' := by
  have hst := fun (ad : Addr) (re im : Nat) (W : World) => run_store Try.prog W ad (.complex .f64 re im) .plain rfl
  go_enter Try.func8, Try.ntmps8
  go_wp2_with (first
    | (go_at_call 22; refine (get_bad _ _ _ _ _ (by omega) (by omega)).mono ?_; rintro x w1 ⟨rfl, hw⟩; subst w1))
  go_returns
  exact ⟨rfl, below_box _ _⟩

set_option maxHeartbeats 1600000 in
theorem read_head (ao : Option Addr) (cap n : Nat) (zs : List Int) (w : World) (hrd : RdI w .u8 ao cap zs) (hn : zs.length = n) (hb : ∀ z ∈ zs, 0 ≤ z ∧ z < 256) (h24 : 24 ≤ n) (hlen : n ≤ 140737488355328) (hbad : isFlg (nAt zs 6) = false ∨ 24 < nAt zs 7) :
    Calls Try.prog 8 #[.slice ao n cap] w fun x w' => x = .returned (.tuple #[msV mgZ none 0 0, .int .i64 101]) ∧ Below w.heap.size w w' := by
  have hst := fun (ad : Addr) (re im : Nat) (W : World) => run_store Try.prog W ad (.complex .f64 re im) .plain rfl
  have hr0 := hrd.alloc (msO mgZ none 0 0)
  have hM0 := MgAt.new w mgZ none 0 0
  have HB : Hid (∀ z ∈ zs, 0 ≤ z ∧ z < 256) := hb
  clear hb hrd
  cases hf : isFlg (nAt zs 6)
  case' true => have h7 : 24 < nAt zs 7 := by rcases hbad with h | h; (rw [hf] at h; cases h); exact h
  all_goals
    clear hbad
    go_enter Try.func8, Try.ntmps8
    go_wp2_with (first
      | (go_at_call 22; refine (get_eight _ _ _ (n - 24) zs _ hr0 hn HB.out h24 rfl hlen).mono ?_; rintro x w1 ⟨b, f, c1, a2, c2, rfl, hbl, p0, p1, p2, p3, p4, p5, p6, p7, ho, hb1⟩; have t := hM0.below hb1; have q0 := t.c0; have q1 := t.c1; have q2 := t.c2; have q3 := t.c3; have q4 := t.c4; have q5 := t.c5; have q6 := t.c6; have q7 := t.c7; have q8 := t.c8; have q9 := t.c9; have qA := t.cA; have qB := t.cB; have y := t.fz; clear t)
      | (go_at_call 23; refine (isFlag_any _ _).mono ?_; rw [hf]; rintro x w0 ⟨rfl, hw⟩; subst w0))
    refine bodyPost_ret (by simp [results, Try.results8, go_sem, q0, q1, q2, q3, q4, q5, q6, q7, q8, q9, qA, qB]; try rfl) rfl ?_
    refine ⟨rfl, ?_⟩
    have hB : Below w.heap.size w w1 := below_alloc (hb1.mono (by simp))
    have le := Nat.le_refl w.heap.size
    exact (((((((((((hB.setCell le _).setCell le _).setCell le _).setCell le _).setCell le _).setCell le _).setCell le _).setCell le _).setCell le _).setCell le _).setCell le _).setCell le _

end Go.Proofs.Ytgeoeaadeemmcaa
