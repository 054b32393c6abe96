/- The example of package msg, walked. -/
import Derived.Test.YtgeoeaadeemmcaaMr
import Derived.Test.YtgeoeaadeemmcaaM6
import Derived.Test.YtgeoeaadeemmcaaPc
import Derived.Test.YtgeoeaadeemmcaaCr7
namespace Go.Proofs.Ytgeoeaadeemmcaa
open Go.RowKit
set_option linter.unusedVariables false

/-- The example's message. -/
abbrev mA : Mg := ⟨5, 2, 0, 0, 15, 4, false, [], (4607182418800017408, 0), (4611686018427387904, 4613937818241073152), (0, 0), (0, 0)⟩

/-- Its bytes. -/
def bA : List Nat := nb (msgZ mA)

theorem right_A : rightB mA = true := by kernel_rfl

theorem right_Z : rightB mgZ = true := by kernel_rfl

theorem len_A : (msgZ mA).length = 88 := by kernel_rfl

theorem len_Z : (msgZ mgZ).length = 24 := by kernel_rfl

theorem parse_A : parse (msgZ mA) = some mA := by kernel_rfl

theorem same_A : sameM mA mA = true := by kernel_rfl

/-- The example's packet. -/
abbrev pA : PkG := ⟨1, 2, 3, 4, 5, true, bA⟩

theorem pack_A : packB pA 88 = true := by kernel_rfl

theorem frlen_A : (frN pA).length = 108 := by kernel_rfl

theorem open_A : openP (frN pA) = some pA := by kernel_rfl

theorem spoilt_A : openP (brN (frN pA) 40 1 (L16 1)) = none := by kernel_rfl

theorem wd_A : Wd mA := ⟨by intro p hp; simp at hp, ⟨by decide, by decide⟩, ⟨by decide, by decide⟩, ⟨by decide, by decide⟩, ⟨by decide, by decide⟩⟩

theorem wd_Z : Wd mgZ := ⟨by intro p hp; simp at hp, ⟨by decide, by decide⟩, ⟨by decide, by decide⟩, ⟨by decide, by decide⟩, ⟨by decide, by decide⟩⟩

theorem bytes_A (w : World) : Calls Try.prog 6 #[msV mA none 0 0] w fun x w' => ∃ a2 c2, x = .returned (.tuple #[.slice a2 88 c2, .int .i64 0]) ∧ RdI w' .u8 a2 c2 (msgZ mA) ∧ Below w.heap.size w w' := by
  refine (bytes_ok mA none 0 0 w (RdP.none w) right_A wd_A).mono ?_
  rintro x w' ⟨a2, c2, rfl, ho, hb⟩
  exact ⟨a2, c2, by rw [len_A], ho.rd, hb⟩

theorem bytes_Z (w : World) : Calls Try.prog 6 #[msV mgZ none 0 0] w fun x w' => ∃ a2 c2, x = .returned (.tuple #[.slice a2 24 c2, .int .i64 0]) ∧ Below w.heap.size w w' := by
  refine (bytes_ok mgZ none 0 0 w (RdP.none w) right_Z wd_Z).mono ?_
  rintro x w' ⟨a2, c2, rfl, ho, hb⟩
  exact ⟨a2, c2, by rw [len_Z], hb⟩

theorem read_A (ao : Option Addr) (cap : Nat) (w : World) (h : RdI w .u8 ao cap (msgZ mA)) : Calls Try.prog 8 #[.slice ao 88 cap] w fun x w' => ∃ a' c', x = .returned (.tuple #[msV mA a' 0 c', .int .i64 0]) ∧ RdP w' a' 0 c' [] ∧ Below w.heap.size w w' := by
  refine (read_any ao cap 88 (msgZ mA) w h len_A (msgZ_bd _) (by omega)).mono ?_
  rintro x w' ⟨a', n', c', hx, hr, hb⟩
  rw [parse_A] at hx hr
  have hn : n' = 0 := hr.len.symm
  subst hn
  exact ⟨a', c', hx, hr, hb⟩

theorem frame_A (ao : Option Addr) (cap : Nat) (w : World) (h : Rd8 w ao 88 cap bA) : Calls Try.prog 11 #[pkV pA ao 88 cap] w fun x w' => ∃ a' c', x = .returned (.tuple #[.slice a' 108 c', .int .i64 0]) ∧ Rd8 w' a' 108 c' (frN pA) ∧ Below w.heap.size w w' := by
  refine (frame_ok pA ao 88 cap w h pack_A).mono ?_
  rintro x w' ⟨a', c', rfl, ho, hb⟩
  exact ⟨a', c', rfl, ho.rd, hb⟩

theorem open_Ac (ao : Option Addr) (cap : Nat) (w : World) (h : Rd8 w ao 108 cap (frN pA)) : Calls Try.prog 13 #[.slice ao 108 cap] w fun x w' => ∃ a' c', x = .returned (.tuple #[pkV pA a' 88 c', .int .i64 0]) ∧ Rd8 w' a' 88 c' bA ∧ Below w.heap.size w w' := by
  refine (open_any ao 108 cap (frN pA) w h (by omega)).mono ?_
  rintro x w' ⟨a', n', c', hx, hr, hb⟩
  rw [open_A] at hx hr
  have hn : n' = 88 := by
    have := hr.len
    rw [← this]
    show (nb (msgZ mA)).length = 88
    rw [nb_length, len_A]
  subst hn
  exact ⟨a', c', hx, hr, hb⟩

theorem open_Sp (ao : Option Addr) (cap : Nat) (w : World) (h : Rd8 w ao 108 cap (brN (frN pA) 40 1 (L16 1))) : Calls Try.prog 13 #[.slice ao 108 cap] w fun x w' => ∃ a' n' c', x = .returned (.tuple #[pkV pkN a' n' c', .int .i64 101]) ∧ Below w.heap.size w w' := by
  refine (open_any ao 108 cap _ w h (by omega)).mono ?_
  rintro x w' ⟨a', n', c', hx, hr, hb⟩
  rw [spoilt_A] at hx
  exact ⟨a', n', c', hx, hb⟩

theorem burst_A (ao : Option Addr) (cap : Nat) (w : World) (h : Rd8 w ao 108 cap (frN pA)) : Calls Try.prog 20 #[.slice ao 108 cap, .int .i64 40, .int .u16 1] w fun x w' => ∃ a' c', x = .returned (.slice a' 108 c') ∧ Rd8 w' a' 108 c' (brN (frN pA) 40 1 (L16 1)) ∧ Below w.heap.size w w' := by
  refine (burst_any ao 108 cap (frN pA) 40 1 w h (by omega) (by omega) (by omega) (by omega)).mono ?_
  rintro x w' ⟨a', c', rfl, ho, hb⟩
  exact ⟨a', c', rfl, ho.rd, hb⟩

theorem same_Ac (a' : Option Addr) (c' : Nat) (w : World) (h : RdP w a' 0 c' []) : Calls Try.prog 21 #[msV mA a' 0 c', msV mA none 0 0] w fun x w' => x = .returned (.bool true) ∧ Below w.heap.size w w' := by
  have := same_msg mA mA a' none 0 0 c' 0 w h (RdP.none w) (by omega)
  rwa [same_A] at this

set_option maxHeartbeats 1600000 in
set_option maxRecDepth 100000 in
theorem alive_any (w : World) : Calls Try.prog 7 #[] w fun x w' => x = .returned (.bool true) ∧ Below w.heap.size w w' := by
  have hst := fun (ad : Addr) (re im : Nat) (W : World) => run_store Try.prog W ad (.complex .f64 re im) .plain rfl
  have hM0 := MgAt.new w mA none 0 0
  have HM0 : Hid (MgAt (w.alloc (msO mA none 0 0)) w.heap.size mA none 0 0) := hM0
  clear hM0
  go_enter Try.func7, Try.ntmps7
  go_wp2_with (first
    | (go_at_call 21; refine (same_Ac a2 c2 _ HP8.out).mono ?_; rintro x w9 ⟨rfl, hb9⟩; have tq := HQ.out.below hb9; have v3 : w9.cell? ⟨w5.heap.size, 3, none⟩ = some (.int .i64 4) := tq.c3; have v6 : w9.cell? ⟨w5.heap.size, 6, none⟩ = some (.slice a5 88 c5) := tq.c6; have hx1 := (HRq.out.below hb9).str; have hx2 := (HRb8.out.below hb9).str; have HB9 : Hid (Below w.heap.size w w9) := below_step HB8.out hb9; clear tq hb9)
    | (go_at_call 13; refine (open_Sp a6 c6 _ hr6).mono ?_; rintro x w7 ⟨a7, n7, c7, rfl, hb7⟩; have hb8 : Below w1.heap.size w1 (w7.alloc (pkO pkN a7 n7 c7)) := below_step (below_step HB16.out hb7) (below_box _ _); have tm := HM1.out.below hb8; have tx := HMx.out (w7.alloc (pkO pkN a7 n7 c7)) (below_step (below_step HB36.out hb7) (below_box _ _)); have q0 : (w7.alloc (pkO pkN a7 n7 c7)).cell? ⟨w.heap.size, 0, none⟩ = some (.int .i64 5) := tm.c0; have q1 : (w7.alloc (pkO pkN a7 n7 c7)).cell? ⟨w.heap.size, 1, none⟩ = some (.int .i64 2) := tm.c1; have q2 : (w7.alloc (pkO pkN a7 n7 c7)).cell? ⟨w.heap.size, 2, none⟩ = some (.int .i64 0) := tm.c2; have q3 : (w7.alloc (pkO pkN a7 n7 c7)).cell? ⟨w.heap.size, 3, none⟩ = some (.int .i64 0) := tm.c3; have q4 : (w7.alloc (pkO pkN a7 n7 c7)).cell? ⟨w.heap.size, 4, none⟩ = some (.int .i64 15) := tm.c4; have q5 : (w7.alloc (pkO pkN a7 n7 c7)).cell? ⟨w.heap.size, 5, none⟩ = some (.int .i64 4) := tm.c5; have q6 : (w7.alloc (pkO pkN a7 n7 c7)).cell? ⟨w.heap.size, 6, none⟩ = some (.bool false) := tm.c6; have q7 : (w7.alloc (pkO pkN a7 n7 c7)).cell? ⟨w.heap.size, 7, none⟩ = some (.slice none 0 0) := tm.c7; have q8 : (w7.alloc (pkO pkN a7 n7 c7)).cell? ⟨w.heap.size, 8, none⟩ = some (.complex .f64 4607182418800017408 0) := tm.c8; have q9 : (w7.alloc (pkO pkN a7 n7 c7)).cell? ⟨w.heap.size, 9, none⟩ = some (.complex .f64 4611686018427387904 4613937818241073152) := tm.c9; have q10 : (w7.alloc (pkO pkN a7 n7 c7)).cell? ⟨w.heap.size, 10, none⟩ = some (.complex .f64 0 0) := tm.cA; have q11 : (w7.alloc (pkO pkN a7 n7 c7)).cell? ⟨w.heap.size, 11, none⟩ = some (.complex .f64 0 0) := tm.cB; have r0 : (w7.alloc (pkO pkN a7 n7 c7)).cell? ⟨w2.heap.size, 0, none⟩ = some (.int .i64 5) := tx.c0; have r1 : (w7.alloc (pkO pkN a7 n7 c7)).cell? ⟨w2.heap.size, 1, none⟩ = some (.int .i64 2) := tx.c1; have r2 : (w7.alloc (pkO pkN a7 n7 c7)).cell? ⟨w2.heap.size, 2, none⟩ = some (.int .i64 0) := tx.c2; have r3 : (w7.alloc (pkO pkN a7 n7 c7)).cell? ⟨w2.heap.size, 3, none⟩ = some (.int .i64 0) := tx.c3; have r4 : (w7.alloc (pkO pkN a7 n7 c7)).cell? ⟨w2.heap.size, 4, none⟩ = some (.int .i64 15) := tx.c4; have r5 : (w7.alloc (pkO pkN a7 n7 c7)).cell? ⟨w2.heap.size, 5, none⟩ = some (.int .i64 4) := tx.c5; have r6 : (w7.alloc (pkO pkN a7 n7 c7)).cell? ⟨w2.heap.size, 6, none⟩ = some (.bool false) := tx.c6; have r7 : (w7.alloc (pkO pkN a7 n7 c7)).cell? ⟨w2.heap.size, 7, none⟩ = some (.slice a2 0 c2) := tx.c7; have r8 : (w7.alloc (pkO pkN a7 n7 c7)).cell? ⟨w2.heap.size, 8, none⟩ = some (.complex .f64 4607182418800017408 0) := tx.c8; have r9 : (w7.alloc (pkO pkN a7 n7 c7)).cell? ⟨w2.heap.size, 9, none⟩ = some (.complex .f64 4611686018427387904 4613937818241073152) := tx.c9; have r10 : (w7.alloc (pkO pkN a7 n7 c7)).cell? ⟨w2.heap.size, 10, none⟩ = some (.complex .f64 0 0) := tx.cA; have r11 : (w7.alloc (pkO pkN a7 n7 c7)).cell? ⟨w2.heap.size, 11, none⟩ = some (.complex .f64 0 0) := tx.cB; have HP8 : Hid (RdP (w7.alloc (pkO pkN a7 n7 c7)) a2 0 c2 []) := ⟨rfl, fun t h => (by simp at h)⟩; have HQ : Hid (PkAt (w7.alloc (pkO pkN a7 n7 c7)) w5.heap.size pA a5 88 c5) := ((HQ6.out.below hb7).below (below_box _ _)); have HRq : Hid (Rd8 (w7.alloc (pkO pkN a7 n7 c7)) a5 88 c5 bA) := (HRq6.out.below hb7).below (below_box _ _); have HRb8 : Hid (Rd8 (w7.alloc (pkO pkN a7 n7 c7)) a1 88 c1 bA) := HRb.out.below hb8; have HB8 : Hid (Below w.heap.size w (w7.alloc (pkO pkN a7 n7 c7))) := below_step HB1.out hb8; clear tm tx hb7 hb8)
    | (go_at_call 20; refine (burst_A a4 c4 _ (hr5.below (below_box _ _))).mono ?_; rintro x w6 ⟨a6, c6, rfl, hr6, hb6⟩; have HQ6 : Hid (PkAt w6 w5.heap.size pA a5 88 c5) := (PkAt.new w5 pA a5 88 c5).below hb6; have HRq6 : Hid (Rd8 w6 a5 88 c5 bA) := (hq5.below (below_box _ _)).below hb6; have HB16 : Hid (Below w1.heap.size w1 w6) := below_step (below_step HB15.out (below_box _ _)) hb6; have HB36 : Hid (Below (w2.alloc (msO mA a2 0 c2)).heap.size (w2.alloc (msO mA a2 0 c2)) w6) := below_step (below_step HB35.out (below_box _ _)) hb6; clear hb6 hr5 hq5)
    | (go_at_call 13; refine (open_Ac a4 c4 _ hr4).mono ?_; rintro x w5 ⟨a5, c5, rfl, hq5, hb5⟩; have hr5 := hr4.below hb5; have HB15 : Hid (Below w1.heap.size w1 w5) := below_step HB14.out hb5; have HB35 : Hid (Below (w2.alloc (msO mA a2 0 c2)).heap.size (w2.alloc (msO mA a2 0 c2)) w5) := below_step HB34.out hb5; clear hb5 hr4)
    | (go_at_call 11; refine (frame_A a1 c1 _ (((HRb.out.below hb2).below (below_box _ _)).below (below_box _ _))).mono ?_; rintro x w4 ⟨a4, c4, rfl, hr4, hb4⟩; have HB14 : Hid (Below w1.heap.size w1 w4) := below_step (below_step (below_step hb2 (below_box _ _)) (below_box _ _)) hb4; have HB34 : Hid (Below (w2.alloc (msO mA a2 0 c2)).heap.size (w2.alloc (msO mA a2 0 c2)) w4) := below_step (below_box _ _) hb4; clear hb4)
    | (go_at_call 8; refine (read_A a1 c1 _ hz1).mono ?_; rintro x w2 ⟨a2, c2, rfl, hp2, hb2⟩; have HMx : Hid (∀ W, Below (w2.alloc (msO mA a2 0 c2)).heap.size (w2.alloc (msO mA a2 0 c2)) W → MgAt W w2.heap.size mA a2 0 c2) := fun W hW => (MgAt.new w2 mA a2 0 c2).below hW; clear hp2)
    | (go_at_call 6; refine (bytes_A _).mono ?_; rintro x w1 ⟨a1, c1, rfl, hz1, hb1⟩; have HM1 : Hid (MgAt w1 w.heap.size mA none 0 0) := HM0.out.below hb1; have HRb : Hid (Rd8 w1 a1 88 c1 bA) := rd8_nb hz1 len_A (msgZ_bd _); have HB1 : Hid (Below w.heap.size w w1) := below_alloc (hb1.mono (by simp)); clear hb1)
    | (fail))
  go_ret
  exact ⟨rfl, HB9.out⟩

end Go.Proofs.Ytgeoeaadeemmcaa
