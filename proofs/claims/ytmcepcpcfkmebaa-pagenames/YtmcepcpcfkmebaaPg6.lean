/- What the laws of stage 4 call 'alive', walked: the chapter's example, and a page that comes back. -/
import Derived.Test.YtmcepcpcfkmebaaPg4
import Derived.Test.YtmcepcpcfkmebaaPg5
namespace Go.Proofs.Ytmcepcpcfkmebaa
open Go.RowKit
set_option linter.unusedVariables false

/-- The page of zeros, and the one with a number in it. -/
abbrev zP : Value := .agg #[.int .i64 0, .complex .f64 0 0, .complex .f64 0 0, .complex .f64 0 0, .complex .f64 0 0]
abbrev fP : Value := .agg #[.int .i64 5, .complex .f64 0 0, .complex .f64 0 0, .complex .f64 4607182418800017408 4611686018427387904, .complex .f64 0 0]
abbrev xO : Nat × Nat := (4607182418800017408, 4611686018427387904)
abbrev fO : Obj := .cells #[.int .i64 5, .complex .f64 0 0, .complex .f64 0 0, .complex .f64 4607182418800017408 4611686018427387904, .complex .f64 0 0] 25

theorem word0 : wordB zO := by unfold wordB; decide
theorem wordX : wordB xO := by unfold wordB; decide

theorem al_bytes0 (w : World) : Calls Try.prog 10 #[zP] w fun e w' => ∃ ao cap, e = .returned (.tuple #[.slice ao 69 cap, .int .i64 0]) ∧ Below w.heap.size w w' :=
  (bytes_ok 0 zO zO zO zO w rfl word0 word0 word0 word0).mono fun e w' ⟨ao, cap, he, _, hb⟩ => ⟨ao, cap, he, hb⟩

theorem al_set (w : World) : Calls Try.prog 11 #[zP, .int .i64 2, .complex .f64 4607182418800017408 4611686018427387904, .int .i64 5] w fun e w' => e = .returned (.tuple #[fP, .int .i64 0]) ∧ Below w.heap.size w w' :=
  set_ok 0 zO zO zO zO xO 2 5 w (by omega) rfl

theorem al_bytes5 (w : World) : Calls Try.prog 10 #[fP] w fun e w' => ∃ ao cap, e = .returned (.tuple #[.slice ao 69 cap, .int .i64 0]) ∧ Own8 w' w.heap.size ao 69 cap (pageN 5 zO zO xO zO) ∧ Below w.heap.size w w' :=
  bytes_ok 5 zO zO xO zO w rfl word0 word0 wordX word0

theorem can0 : canO zO = zO := by
  have h : formN 0 = 0 := by unfold formN; rw [nanB_eq]; decide
  unfold canO; simp only [h]
theorem canX : canO xO = xO := by
  have h1 : formN 4607182418800017408 = 4607182418800017408 := by unfold formN; rw [nanB_eq]; decide
  have h2 : formN 4611686018427387904 = 4611686018427387904 := by unfold formN; rw [nanB_eq]; decide
  unfold canO; simp only [h1, h2]

theorem al_read (ao : Option Addr) (cap : Nat) (w : World) (h : Rd8 w ao 69 cap (pageN 5 zO zO xO zO)) : Calls Try.prog 4 #[.slice ao 69 cap] w fun e w' => e = .returned (.tuple #[fP, .int .i64 0]) ∧ Below w.heap.size w w' := by
  have := read_back 5 zO zO xO zO ao cap w h (by omega) word0 word0 wordX word0
  rw [can0, canX] at this
  exact this

theorem allSame_self (xs : List (Nat × Nat)) : allSame xs xs = true := by
  unfold allSame
  rw [List.all_eq_true]
  intro p hp
  have : p.1 = p.2 := by
    induction xs with
    | nil => simp at hp
    | cons x xs ih =>
      simp only [List.zip_cons_cons, List.mem_cons] at hp
      rcases hp with rfl | h
      · rfl
      · exact ih h
  rw [this]
  simp [sameB]

theorem al_same (w : World) : Calls Try.prog 12 #[fP, fP] w fun e w' => e = .returned (.bool true) ∧ Below w.heap.size w w' := by
  have := samep_any 5 5 zO zO xO zO zO zO xO zO w
  rw [show sameP 5 5 zO zO xO zO zO zO xO zO = true by unfold sameP; rw [allSame_self]; rfl] at this
  exact this

set_option maxHeartbeats 400000 in
theorem alive_any (w : World) : Calls Try.prog 5 #[] w fun e w' => e = .returned (.bool true) ∧ Below w.heap.size w w' := by
  have hst := fun (ad : Addr) (re im : Nat) (W : World) => run_store Try.prog W ad (.complex .f64 re im) .plain rfl
  have heq : ∀ W : World, (binOp .eql 22 (.complex .f64 4607182418800017408 4611686018427387904) (.complex .f64 4607182418800017408 4611686018427387904)).run Try.prog W = .ok (.bool true) W := fun W => by rfl
  go_enter Try.func5, Try.ntmps5
  go_wp2_with (first
    | (go_at_call 10; with_reducible refine (al_bytes0 _).mono ?_; rintro e w1 ⟨ao1, cap1, rfl, hb1⟩; have hB1 : Below w.heap.size w w1 := hb1)
    | (go_at_call 11; with_reducible refine (al_set _).mono ?_; rintro e w2 ⟨rfl, hb2⟩; have hB2 : Below w.heap.size w w2 := below_step hB1 hb2)
    | (go_at_call 10; with_reducible refine (al_bytes5 _).mono ?_; rintro e w3 ⟨ao3, cap3, rfl, ho3, hb3⟩; have hB3 : Below w.heap.size w w3 := below_step (hB2.alloc hB2.size _) hb3; have hp3 : PgAt w3 w2.heap.size 5 zO zO xO zO := (PgAt.new w2 5 zO zO xO zO).below hb3 (PgAt.new w2 5 zO zO xO zO).lt)
    | (go_at_call 4; with_reducible refine (al_read _ _ _ ho3.rd).mono ?_; rintro e w4 ⟨rfl, hb4⟩; have hB4 : Below w.heap.size w w4 := below_step hB3 hb4; have hp4 : PgAt w4 w2.heap.size 5 zO zO xO zO := hp3.below hb4 hp3.lt; have q0 := hp4.c0; have q1 := hp4.c1; have q2 := hp4.c2; have q3 := hp4.c3; have q4 := hp4.c4; have ql := hp4.lt)
    | (go_at_call 12; with_reducible refine (al_same _).mono ?_; rintro e w5 ⟨rfl, hb5⟩; have hB5 : Below w.heap.size w w5 := below_step (hB4.alloc hB4.size _) hb5; have hp5 : PgAt w5 w4.heap.size 5 zO zO xO zO := (PgAt.new w4 5 zO zO xO zO).below hb5 (PgAt.new w4 5 zO zO xO zO).lt; have r0 := hp5.c0; have r3 := hp5.c3))
  go_ret
  exact ⟨rfl, hB5⟩

end Go.Proofs.Ytmcepcpcfkmebaa
