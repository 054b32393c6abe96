/- A log in memory; what Open, Force and Last of package wal do, walked. -/
import Derived.Test.YthckdfggnmoaeaaW9
namespace Go.Proofs.Ythckdfggnmoaeaa
open Go.RowKit
set_option linter.unusedVariables false

/-- What a log's pointer points to: its tape, the last number. -/
structure Lg (w : World) (gl g : Nat) (last : Nat) : Prop where
  c0 : w.cell? ⟨gl, 0, none⟩ = some (tp g)
  c1 : w.cell? ⟨gl, 1, none⟩ = some (.int .i64 (last : Int))
  fz : ∀ j, w.frozen? ⟨gl, j, none⟩ = false
  lt : gl < w.heap.size

theorem Lg.keep {w w' : World} {gl g last : Nat} (h : Lg w gl g last) (hg : w'.heap[gl]? = w.heap[gl]?) (hs : w.heap.size ≤ w'.heap.size) : Lg w' gl g last :=
  ⟨(World.cell?_of_block (w := w) hg).trans h.c0, (World.cell?_of_block (w := w) hg).trans h.c1, fun j => (World.frozen?_of_block (w := w) hg).trans (h.fz j), Nat.lt_of_lt_of_le h.lt hs⟩

theorem Lg.new (w : World) (g last : Nat) : Lg (w.alloc (.cells #[tp g, .int .i64 (last : Int)] 74)) w.heap.size g last := by
  have h := heap_alloc_new w (.cells #[tp g, .int .i64 (last : Int)] 74)
  refine ⟨?_, ?_, fun j => frozen_of_row _ _ _ _ _ h, by simp⟩
  all_goals rw [cell_of_row _ _ _ _ _ _ h]; rfl

theorem Lg.put {w : World} {gl g last : Nat} (h : Lg w gl g last) (k : Nat) : Lg (w.setCell ⟨gl, 1, none⟩ (.int .i64 (k : Int))) gl g k :=
  ⟨by rw [put_other _ _ _ _ _ (by omega)]; exact h.c0, World.cell?_setCell_same _ _ _ h.c1, fun j => by rw [World.frozen?_setCell]; exact h.fz j, by simpa [World.setCell] using h.lt⟩

/-- A log and its tape lie apart. -/
structure LogAt (w : World) (B gl g : Nat) (ao : Option Addr) (n cap : Nat) (bs : List Nat) (s r last : Nat) : Prop where
  t : Tp w B g ao n cap bs s r
  l : Lg w gl g last
  bl : B ≤ gl
  ng : gl ≠ g
  na : ∀ a, ao = some a → a.block ≠ gl

section
variable {w w' : World} {B gl g : Nat} {ao : Option Addr} {n cap : Nat} {bs : List Nat} {s r last : Nat}

theorem LogAt.below (h : LogAt w B gl g ao n cap bs s r last) (hb : Below w.heap.size w w') : LogAt w' B gl g ao n cap bs s r last :=
  ⟨h.t.below hb, h.l.keep (hb.block gl h.l.lt) hb.size, h.bl, h.ng, h.na⟩

theorem Lg.off (h : Lg w gl g last) (hO : Off2 g ao w w') (h1 : gl ≠ g) (h2 : ∀ a, ao = some a → a.block ≠ gl) : Lg w' gl g last :=
  h.keep (hO.block gl h.lt h1 h2) hO.size

theorem Fnd.keep {base : Nat} {v : Value} {L : List Bt} (h : Fnd w base v L) (hb : ∀ k, base ≤ k → k < w.heap.size → w'.heap[k]? = w.heap[k]?) (hs : w.heap.size ≤ w'.heap.size) : Fnd w' base v L := by
  obtain ⟨R, h1, hp, h2, h3⟩ := h
  refine ⟨R, h1, fun r hr => (hp r hr).keep (fun g a1 a2 _ => hb g a1 a2) hs, h2, ?_⟩
  rcases h3 with h3 | ⟨g, cp, cur, hv, hg2, hh, r⟩
  · exact .inl h3
  · exact .inr ⟨g, cp, cur, hv, hg2, by rw [hb g hg2 (Array.getElem?_eq_some_iff.1 hh).1]; exact hh, r⟩
end

/-- All blocks but gl, g and that of ao are as they were. -/
structure OffL (gl g : Nat) (ao : Option Addr) (w w' : World) : Prop where
  os : w'.os = w.os
  tape : w'.tape = w.tape
  output : w'.output = w.output
  size : w.heap.size ≤ w'.heap.size
  block : ∀ k, k < w.heap.size → k ≠ gl → k ≠ g → (∀ a, ao = some a → a.block ≠ k) → w'.heap[k]? = w.heap[k]?

theorem OffL.of_off2 {g : Nat} {ao : Option Addr} {w w' : World} (gl : Nat) (h : Off2 g ao w w') : OffL gl g ao w w' := ⟨h.os, h.tape, h.output, h.size, fun k hk _ h1 h2 => h.block k hk h1 h2⟩
theorem OffL.setL {gl g : Nat} {ao : Option Addr} {w w' : World} (h : OffL gl g ao w w') (j : Nat) (u : Value) : OffL gl g ao w (w'.setCell ⟨gl, j, none⟩ u) :=
  ⟨h.os, h.tape, h.output, by simpa [World.setCell] using h.size, fun k hk h0 h1 h2 => (Below.heap_setCell _ _ _ _ h0).trans (h.block k hk h0 h1 h2)⟩

theorem rowN_le (L : List Bt) : L.length ≤ (rowN L).length := by
  induction L with
  | nil => simp
  | cons b r ih =>
    have e : rowN (b :: r) = wbN b ++ rowN r := rfl
    rw [e, List.length_append, wbN_length, List.length_cons]
    omega

set_option maxHeartbeats 800000 in
theorem open_log (B g : Nat) (ao : Option Addr) (n cap : Nat) (L : List Bt) (s r : Nat) (w : World) (hT : Tp w B g ao n cap (rowN L) s r) (hok : ∀ b ∈ L, BtOk b) (hch : Chain L) :
    Calls Try.prog 12 #[tp g] w fun x w' => ∃ gl, x = .returned (tp gl) ∧ LogAt w' B gl g ao n cap (rowN L) s r (lastL L) ∧ Below B w w' ∧ w.heap.size ≤ gl ∧ Off2 g ao w w' := by
  have hle := hT.le
  have hlen := hT.own.len
  have hsl := hT.sl
  have hLL : L.length ≤ 20000 := by have := rowN_le L; omega
  have HOK : Hid (∀ b ∈ L, BtOk b) := hok
  have HC : Hid (Chain L) := hch
  have HX : Hid ((rowN L).take n = rowN L) := List.take_of_length_le (Nat.le_of_eq hlen)
  have HM : Hid (min s n = s) := Nat.min_eq_left hsl
  have HCN : Hid (cutN (n : Int) n = n) := by show cutN (n : Int) n = n; unfold cutN; omega
  clear hok hch
  go_enter Try.func12, Try.ntmps12
  go_wp2_with (first
    | (go_at_call 32; refine (lastLSN_any v L w1.heap.size _ hF3 hLL).mono ?_; rintro x w' ⟨rfl, hw⟩; subst w')
    | (go_at_call 31; refine (cut_at _ _ _ _ _ _ _ _ _ hT2 (n : Int) n s (rowN L) HCN.out HM.out HX.out).mono ?_; rintro x w3 ⟨rfl, hT3, hO3, -⟩; have hF3 : Fnd w3 w1.heap.size v L := hF2.keep (fun k h1 h2 => hO3.block k h2 (by have := hT1.hd.lt; omega) (fun a ha => by have := hT1.own.lt a ha; omega)) hO3.size)
    | (go_at_call 29; refine (scan_ok L _ _ _ _ ho1.rd HOK.out HC.out hle).mono ?_; rintro x w2 ⟨v, rfl, hF2, hb2⟩; have hT2 := hT1.below hb2)
    | (go_at_call 30; refine (bytes_any _ _ _ _ _ _ _ _ _ hT).mono ?_; rintro x w1 ⟨ao1, cap1, rfl, ho1, hb1⟩; have hT1 := hT.below hb1)
    | (fail))
  go_ret
  have hg3 := hT3.hd.lt
  have hbg := hT.bg
  have hg0 := hT.hd.lt
  have hBw : Below B w w2 := (below_step hb1 hb2).mono (by omega)
  have hB3 : Below B w w3 := hBw.trans (hT2.belowB hO3)
  have hs : w.heap.size ≤ w3.heap.size := hB3.size
  refine ⟨w3.heap.size, rfl, ⟨hT3.below (below_box _ _), Lg.new w3 g _, by omega, by omega, fun a ha => ?_⟩, hB3.alloc (by omega) _, hs, ((Off2.of_below ao (below_step hb1 hb2)).trans hO3 (Nw.refl _ _)).trans (Off2.of_below ao (below_box _ _)) (Nw.refl _ _)⟩
  have := hT3.own.lt a ha
  omega

theorem force_log (B gl g : Nat) (ao : Option Addr) (n cap : Nat) (bs : List Nat) (s r last : Nat) (w : World) (h : LogAt w B gl g ao n cap bs s r last) :
    Calls Try.prog 41 #[tp gl] w fun x w' => x = .returned (.tuple #[]) ∧ LogAt w' B gl g ao n cap bs n r last ∧ Below B w w' ∧ Off2 g ao w w' := by
  have h0 := h.l.c0
  go_enter Try.func41, Try.ntmps41
  go_wp2_with (first
    | (go_at_call 43; refine (sync_any _ _ _ _ _ _ _ _ _ h.t).mono ?_; rintro x w1 ⟨rfl, hT1, hO1, -⟩)
    | (fail))
  go_end0
  exact ⟨rfl, ⟨hT1, h.l.off hO1 h.ng h.na, h.bl, h.ng, h.na⟩, h.t.belowB hO1, hO1⟩

theorem last_log (B gl g : Nat) (ao : Option Addr) (n cap : Nat) (bs : List Nat) (s r last : Nat) (w : World) (h : LogAt w B gl g ao n cap bs s r last) :
    Calls Try.prog 28 #[tp gl] w fun x w' => x = .returned (.int .i64 (last : Int)) ∧ w' = w := by
  have h1 := h.l.c1
  go_enter Try.func28, Try.ntmps28
  go_wp2
  go_ret
  exact ⟨rfl, rfl⟩

end Go.Proofs.Ythckdfggnmoaeaa
