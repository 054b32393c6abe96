/- What package wal does with an empty tape, walked: first, Scan, lastLSN, Open, Force, Durable. -/
import Derived.Test.YthmoiogmdgdflaaT2
import Derived.ScopeJumps
namespace Go.Proofs.Ythmoiogmdgdflaa
open Go.RowKit
set_option linter.unusedVariables false

theorem below_box (w : World) (o : Obj) : Below w.heap.size w (w.alloc o) := (Below.refl _ _).alloc (Nat.le_refl _) _

theorem below_drewn {B : Nat} {w w' : World} (h : Below B w.drew w') : Below B w w' := ⟨h.os, h.tape, h.output, h.size, h.block⟩

abbrev btZ : Obj := .cells #[.int .i64 0, .int .i64 0, .int .i64 0, .int .i64 0, .slice none 0 0] 71

abbrev btN : Value := .agg #[.int .i64 0, .int .i64 0, .int .i64 0, .int .i64 0, .slice none 0 0]

set_option maxHeartbeats 400000 in
theorem first_short (ao : Option Addr) (n cap : Nat) (w : World) (hn : n < 3) :
    Calls Try.prog 24 #[.slice ao n cap] w fun x w' => x = .returned (.tuple #[btN, .int .i64 0, .bool false]) ∧ Below w.heap.size w w' := by
  have h := heap_alloc_new w btZ
  have q0 : (w.alloc btZ).cell? ⟨w.heap.size, 0, none⟩ = some (.int .i64 0) := by rw [cell_of_row _ _ _ _ _ _ h]; rfl
  have q1 : (w.alloc btZ).cell? ⟨w.heap.size, 1, none⟩ = some (.int .i64 0) := by rw [cell_of_row _ _ _ _ _ _ h]; rfl
  have q2 : (w.alloc btZ).cell? ⟨w.heap.size, 2, none⟩ = some (.int .i64 0) := by rw [cell_of_row _ _ _ _ _ _ h]; rfl
  have q3 : (w.alloc btZ).cell? ⟨w.heap.size, 3, none⟩ = some (.int .i64 0) := by rw [cell_of_row _ _ _ _ _ _ h]; rfl
  have q4 : (w.alloc btZ).cell? ⟨w.heap.size, 4, none⟩ = some (.slice none 0 0) := by rw [cell_of_row _ _ _ _ _ _ h]; rfl
  clear h
  go_enter Try.func24, Try.ntmps24
  go_wp2
  go_returns
  refine ⟨rfl, ?_⟩
  go_grown

theorem lastLSN_none (w : World) : Calls Try.prog 15 #[.slice none 0 0] w fun x w' => x = .returned (.int .i64 0) ∧ w' = w := by
  go_enter Try.func15, Try.ntmps15
  go_wp2
  go_ret
  exact ⟨rfl, rfl⟩

/-- A scope whose label is come to from above, and never again. -/
theorem wp_scope_once {P : Program} {a : Act} {w : World} {Q : Exit → Act → World → Prop} {c rest : Code} (l : Nat) (J : Act → World → Prop) (hf : findLabel c l = some (Code.skip.seq rest))
    (first : (∀ a w, J a w → rest.wp P (Exit.jump l J Q) a w) → c.wp P (Exit.jump l J Q) a w)
    (pass : ∀ a w, J a w → rest.wp P (Exit.jump l (fun _ _ => False) Q) a w) : (Code.scope c).wp P Q a w := by
  refine wp_scope_jumps l J (fun _ _ => 0) hf (first fun a w h => wp_mono (pass a w h) ?_) fun a w h => wp_seq (wp_skip (wp_mono (pass a w h) ?_))
  · intro e a w hq
    cases e with
    | goto l' => exact hq.2.elim
    | _ => exact hq
  · intro e a w hq
    cases e with
    | goto l' => exact hq.2.elim
    | _ => exact hq

set_option maxRecDepth 1000000 in
set_option maxHeartbeats 800000 in
theorem scan_none (ao : Option Addr) (cap : Nat) (w : World) :
    Calls Try.prog 12 #[.slice ao 0 cap] w fun x w' => x = .returned (.tuple #[.slice none 0 0, .int .i64 0]) ∧ Below w.heap.size w w' := by
  have hc0 : (0 : Nat) ≤ cap := Nat.zero_le _
  go_enter Try.func12, Try.ntmps12
  go_wp2
  obtain ⟨J, hJ⟩ : ∃ J : Act → World → Prop, ∀ a' w', J a' w' ↔ ∃ (u1 u2 u3 u6 u7 u8 u9 u10 u11 u12 u13 u14 u15 u16 u17 u18 u19 u20 u21 u22 u23 u24 u25 u26 u27 u28 u29 u30 u31 u32 u33 : Value), a' = { tmps := #[.slice ao 0 cap, u1, u2, u3, .slice none 0 0, .int .i64 0, u6, u7, u8, u9, u10, u11, u12, u13, u14, u15, u16, u17, u18, u19, u20, u21, u22, u23, u24, u25, u26, u27, u28, u29, u30, u31, u32, u33], defers := [] } ∧ Below w.heap.size w w' := ⟨_, fun _ _ => Iff.rfl⟩
  have HJ : Hid _ := hJ
  clear hJ
  refine wp_scope_once 0 J rfl ?_ ?_
  · intro hpass
    go_wp2
    go_step3
    rename_i hK
    exact hK _ _ <| hpass _ _ <| (HJ.out _ _).2 ⟨_, _, _, _, _, _, _, _, _, _, _, _, _, _, _, _, _, _, _, _, _, _, _, _, _, _, _, _, _, _, _, rfl, Below.refl _ _⟩
  · intro a' w' hJa
    obtain ⟨u1, u2, u3, u6, u7, u8, u9, u10, u11, u12, u13, u14, u15, u16, u17, u18, u19, u20, u21, u22, u23, u24, u25, u26, u27, u28, u29, u30, u31, u32, u33, rfl, hbel⟩ := (HJ.out _ _).1 hJa
    clear hJa
    go_wp2_with (first
      | (go_at_call 24; refine (first_short _ _ _ _ (by omega)).mono ?_; rintro x w2 ⟨rfl, hb2⟩)
      | (fail))
    all_goals (
      simp only [Exit.jump]
      go_returns
      exact ⟨rfl, (below_step hbel hb2).alloc (below_step hbel hb2).size _⟩)

/-- What a log's pointer points to: its tape, the last number. -/
structure Lg (w : World) (gl g : Nat) (last : Nat) : Prop where
  c0 : w.cell? ⟨gl, 0, none⟩ = some (tp g)
  c1 : w.cell? ⟨gl, 1, none⟩ = some (.int .i64 (last : Int))
  fz : ∀ j, w.frozen? ⟨gl, j, none⟩ = false
  lt : gl < w.heap.size

theorem Lg.keep {w w' : World} {gl g last : Nat} (h : Lg w gl g last) (hg : w'.heap[gl]? = w.heap[gl]?) (hs : w.heap.size ≤ w'.heap.size) : Lg w' gl g last :=
  ⟨(World.cell?_of_block (w := w) hg).trans h.c0, (World.cell?_of_block (w := w) hg).trans h.c1, fun j => (World.frozen?_of_block (w := w) hg).trans (h.fz j), Nat.lt_of_lt_of_le h.lt hs⟩

theorem Lg.new (w : World) (g last : Nat) : Lg (w.alloc (.cells #[tp g, .int .i64 (last : Int)] 53)) w.heap.size g last := by
  have h := heap_alloc_new w (.cells #[tp g, .int .i64 (last : Int)] 53)
  refine ⟨?_, ?_, fun j => frozen_of_row _ _ _ _ _ h, by simp⟩
  all_goals rw [cell_of_row _ _ _ _ _ _ h]; rfl

/-- A log and its tape lie apart. -/
structure LogAt (w : World) (B gl g : Nat) (ao : Option Addr) (n cap : Nat) (bs : List Nat) (s r last : Nat) : Prop where
  t : Tp w B g ao n cap bs s r
  l : Lg w gl g last
  bl : B ≤ gl
  ng : gl ≠ g
  na : ∀ a, ao = some a → a.block ≠ gl

theorem LogAt.below {w w' : World} {B gl g : Nat} {ao : Option Addr} {n cap : Nat} {bs : List Nat} {s r last : Nat} (h : LogAt w B gl g ao n cap bs s r last) (hb : Below w.heap.size w w') : LogAt w' B gl g ao n cap bs s r last :=
  ⟨h.t.below hb, h.l.keep (hb.block gl h.l.lt) hb.size, h.bl, h.ng, h.na⟩

set_option maxHeartbeats 800000 in
theorem open_none (B g : Nat) (cap r : Nat) (w : World) (hT : Tp w B g none 0 cap [] 0 r) :
    Calls Try.prog 6 #[tp g] w fun x w' => ∃ gl, x = .returned (tp gl) ∧ LogAt w' B gl g none 0 cap [] 0 r 0 ∧ Below B w w' ∧ w.heap.size ≤ gl := by
  have HCN : Hid (cutN 0 0 = 0) := rfl
  have HM : Hid (min 0 0 = 0) := rfl
  have HX : Hid (([] : List Nat).take 0 = []) := rfl
  go_enter Try.func6, Try.ntmps6
  go_wp2_with (first
    | (go_at_call 15; refine (lastLSN_none _).mono ?_; rintro x w' ⟨rfl, hw⟩; subst w')
    | (go_at_call 14; refine (cut_at _ _ _ _ _ _ _ _ _ hT2 0 0 0 [] HCN.out HM.out HX.out).mono ?_; rintro x w3 ⟨rfl, hT3, hO3, -⟩)
    | (go_at_call 12; refine (scan_none _ _ _).mono ?_; rintro x w2 ⟨rfl, hb2⟩; have hT2 := hT1.below hb2)
    | (go_at_call 13; refine (bytes_any _ _ _ _ _ _ _ _ _ hT).mono ?_; rintro x w1 ⟨ao1, cap1, rfl, ho1, hb1⟩; have hT1 := hT.below hb1)
    | (fail))
  go_ret
  have hg3 := hT3.hd.lt
  have hbg := hT.bg
  have hg0 := hT.hd.lt
  have hBw : Below B w w2 := (below_step hb1 hb2).mono (by omega)
  have hB3 : Below B w w3 := hBw.trans (hT2.belowB hO3)
  have hs : w.heap.size ≤ w3.heap.size := hB3.size
  exact ⟨w3.heap.size, rfl, ⟨hT3.below (below_box _ _), Lg.new w3 g 0, by omega, by omega, fun a ha => by cases ha⟩, hB3.alloc (by omega) _, hs⟩

set_option maxHeartbeats 800000 in
theorem durable_none (B gl g : Nat) (cap r last : Nat) (w : World) (h : LogAt w B gl g none 0 cap [] 0 r last) :
    Calls Try.prog 59 #[tp gl] w fun x w' => x = .returned (.int .i64 0) ∧ Below w.heap.size w w' := by
  have hD : LogAt w.drew B gl g none 0 cap [] 0 r last := h.below ((Below.refl _ _).drew)
  have q0 := h.l.c0
  go_enter Try.func59, Try.ntmps59
  go_wp2
  go_region_with (first
    | (go_at_call 12; refine (scan_none _ _ _).mono ?_; rintro x w2 ⟨rfl, hb2⟩)
    | (go_at_call 77; refine (safe_any _ _ _ _ _ _ _ _ _ hT1.t).mono ?_; rintro x w' ⟨rfl, hw⟩; subst w')
    | (go_at_call 77; refine (safe_any _ _ _ _ _ _ _ _ _ hD.t).mono ?_; rintro x w' ⟨rfl, hw⟩; subst w')
    | (go_at_call 13; refine (bytes_any _ _ _ _ _ _ _ _ _ hD.t).mono ?_; rintro x w1 ⟨ao1, cap1, rfl, ho1, hb1⟩; have hT1 := hD.below hb1; have q1 := hT1.l.c0; have hcp := ho1.rd.rd.le; rw [ci_length, ho1.len] at hcp))
  all_goals (
    go_wp2_with (first
      | (go_at_call 15; refine (lastLSN_none _).mono ?_; rintro x w' ⟨rfl, hw⟩; subst w')
      | (fail))
    go_ret
    exact ⟨rfl, below_step (below_drewn hb1) hb2⟩)

end Go.Proofs.Ythmoiogmdgdflaa
