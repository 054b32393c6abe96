/- What room with full frames and load of package pool do, walked. -/
import Derived.Test.YthckdfggnmoaeaaP4
namespace Go.Proofs.Ythckdfggnmoaeaa
open Go.RowKit
set_option linter.unusedVariables false

set_option maxHeartbeats 400000 in
theorem room_full (gp gf g gl : Nat) (x : Fr) (w : World) (h : Pl w gp gf g gl [x] 0) (hx : x.fl = true) (R : Option Addr → World → Prop)
    (HS : Calls Try.prog 71 #[tp gp] w fun e w' => ∃ p, e = .returned (.pointer p) ∧ R p w') :
    Calls Try.prog 60 #[tp gp] w fun e w' => ∃ p, e = .returned (.pointer p) ∧ R p w' := by
  have HH : Hid (Calls Try.prog 71 #[tp gp] w fun e w' => ∃ p, e = .returned (.pointer p) ∧ R p w') := HS
  clear HS
  have h2 := h.c2
  have c0 : w.cell? ⟨gf, 0 * 10 + 0, none⟩ = some (.bool x.fl) := h.cell 0 (by simp) 0 _ rfl
  rw [hx] at c0
  simp only [List.length_cons, List.length_nil, Nat.zero_add, Nat.zero_mul] at h2 c0
  go_enter Try.func60, Try.ntmps60
  go_wp2
  go_loopw [10] (fun s wr => ∃ k : Nat, k ≤ 1 ∧ s = .int .i64 k ∧ wr = w) (fun s _ => 1 - (intOf s).toNat)
  case atStart => exact ⟨0, Nat.zero_le _, rfl, rfl⟩
  case round =>
    obtain ⟨k, hk, rfl, rfl⟩ := hrel
    obtain rfl | rfl : k = 0 ∨ k = 1 := by omega
    · go_wp2
      go_roundw
      case rel => exact ⟨1, by omega, by go_num, by first | rfl | trivial⟩
      case measure => simp [intOf]
    · go_wp2_with (first
        | (go_at_call 71; refine HH.out.mono ?_; rintro e w1 ⟨p, rfl, hR⟩)
        | fail)
      go_ret
      exact ⟨p, rfl, hR⟩

theorem PgAt.keep {w w' : World} {g : Nat} {l : Int} {a b c d : Nat × Nat} (h : PgAt w g l a b c d) (hb : w'.heap[g]? = w.heap[g]?) (hs : w.heap.size ≤ w'.heap.size) : PgAt w' g l a b c d := by
  have hc : ∀ j, w'.cell? ⟨g, j, none⟩ = w.cell? ⟨g, j, none⟩ := fun j => World.cell?_of_block (w := w) hb
  have hf : ∀ j, w'.frozen? ⟨g, j, none⟩ = w.frozen? ⟨g, j, none⟩ := fun j => World.frozen?_of_block (w := w) hb
  exact ⟨(hc 0).trans h.c0, (hc 1).trans h.c1, (hc 2).trans h.c2, (hc 3).trans h.c3, (hc 4).trans h.c4, (hf 0).trans h.f0, (hf 1).trans h.f1, (hf 2).trans h.f2, (hf 3).trans h.f3, (hf 4).trans h.f4, Nat.lt_of_lt_of_le h.lt hs⟩

theorem putFr_keep (w : World) (gp gf i : Nat) (x : Fr) : ∀ k, k < w.heap.size → k ≠ gp → k ≠ gf → (putFr w gf i x).heap[k]? = w.heap[k]? := by
  intro k _ _ h
  have hb : ∀ (W : World) (j : Nat) (v : Value), (W.setCell ⟨gf, j, none⟩ v).heap[k]? = W.heap[k]? := fun W j v => Below.heap_setCell _ _ _ _ h
  simp only [hb]
theorem putPg_keep (w : World) (gp gf i : Nat) (l : Int) (a b c d : Nat × Nat) : ∀ k, k < w.heap.size → k ≠ gp → k ≠ gf → (putPg w gf i l a b c d).heap[k]? = w.heap[k]? := by
  intro k _ _ h
  have hb : ∀ (W : World) (j : Nat) (v : Value), (W.setCell ⟨gf, j, none⟩ v).heap[k]? = W.heap[k]? := fun W j v => Below.heap_setCell _ _ _ _ h
  simp only [hb]
theorem putFr_size (w : World) (gf i : Nat) (x : Fr) : w.heap.size ≤ (putFr w gf i x).heap.size := by simp [World.setCell]
theorem putPg_size (w : World) (gf i : Nat) (l : Int) (a b c d : Nat × Nat) : w.heap.size ≤ (putPg w gf i l a b c d).heap.size := by simp [World.setCell]
theorem Off3.putFr {p f g : Nat} {a w : World} (h : Off3 p f g a w) (i : Nat) (x : Fr) : Off3 p f g a (putFr w f i x) :=
  (((((((((h.setF _ _).setF _ _).setF _ _).setF _ _).setF _ _).setF _ _).setF _ _).setF _ _).setF _ _).setF _ _
theorem Off3.putPg {p f g : Nat} {a w : World} (h : Off3 p f g a w) (i : Nat) (l : Int) (x0 x1 x2 x3 : Nat × Nat) : Off3 p f g a (putPg w f i l x0 x1 x2 x3) :=
  ((((h.setF _ _).setF _ _).setF _ _).setF _ _).setF _ _

def Fr.use (x : Fr) : Fr := { x with us := true }

set_option maxHeartbeats 400000 in
theorem load_hit (gp gf g gl : Nat) (V : Nat → Prop) (L : List Sec) (F : List Fr) (hd : Nat) (n : Int) (i : Nat) (hi : i < F.length) (w : World) (h : St w gp gf g gl V L F hd) (hb : ∀ j (hj : j < i), F[j].has n = false) (hy : F[i].has n = true) :
    Calls Try.prog 40 #[tp gp, .int .i64 n] w fun e w' => e = .returned (.tuple #[fp gf i, .int .i64 0]) ∧ St w' gp gf g gl V L (F.set i F[i].use) hd ∧ Off3 gp gf g w w' := by
  have HB : Hid (∀ j (hj : j < i), F[j].has n = false) := hb
  have HY : Hid (F[i].has n = true) := hy
  clear hb hy
  have c9 := h.p.cell i hi 9 _ rfl
  have z9 := h.p.ff (i * 10 + 9)
  go_enter Try.func40, Try.ntmps40
  go_wp2_with (first
    | (go_at_call 58; refine (holder_some gp gf g gl F hd n i hi _ h.p HB.out HY.out).mono ?_; rintro e w' ⟨rfl, hw⟩; subst w')
    | fail)
  go_ret2
  exact ⟨rfl, h.turn (h.p.put i hi 9 (by omega) (.bool true) F[i].use rfl) (keepF _ _ _ _ _) (by simp [World.setCell]), (Off3.refl _ _ _ _).setF _ _⟩

set_option maxHeartbeats 400000 in
theorem load_bad (gp gf g gl : Nat) (V : Nat → Prop) (L : List Sec) (F : List Fr) (hd : Nat) (n : Int) (w : World) (h : St w gp gf g gl V L F hd) (hb : ∀ j (hj : j < F.length), F[j].has n = false) (hn : hasB L n = false) :
    Calls Try.prog 40 #[tp gp, .int .i64 n] w fun e w' => e = .returned (.tuple #[.pointer none, .int .i64 51]) ∧ Below w.heap.size w w' := by
  have HB : Hid (∀ j (hj : j < F.length), F[j].has n = false) := hb
  clear hb
  have hst := fun (ad : Addr) (re im : Nat) (W : World) => run_store Try.prog W ad (.complex .f64 re im) .plain rfl
  go_enter Try.func40, Try.ntmps40
  go_wp2_with (first
    | (go_at_call 58; refine (holder_none gp gf g gl F hd n _ h.p HB.out).mono ?_; rintro e w' ⟨rfl, hw⟩; subst w')
    | (go_at_call 59; refine (fetch_bad gp gf g gl V L F hd n _ h hn).mono ?_; unfold pgV; rintro e w1 ⟨rfl, hb1⟩)
    | fail)
  go_ret2
  exact ⟨rfl, hb1.alloc hb1.size _⟩

/-- A frame that a page was fetched into. -/
abbrev Fr.of (n l : Int) (a b c d : Nat × Nat) : Fr := ⟨true, n, l, a, b, c, d, false, 0, true⟩

set_option maxHeartbeats 800000 in
theorem load_new (gp gf g gl : Nat) (V : Nat → Prop) (L L' : List Sec) (F F' : List Fr) (hd hd' : Nat) (n l : Int) (a b c d : Nat × Nat) (i : Nat) (hi : i < F'.length) (w : World) (h : St w gp gf g gl V L F hd) (hb : ∀ j (hj : j < F.length), F[j].has n = false)
    (HFe : ∀ W, Below w.heap.size w W → Calls Try.prog 59 #[tp gp, .int .i64 n] W fun e w' => e = .returned (.tuple #[pgV l a b c d, .int .i64 0]) ∧ Below W.heap.size W w')
    (HR : ∀ W, Below w.heap.size w W → Calls Try.prog 60 #[tp gp] W fun e w' => e = .returned (fp gf i) ∧ ∃ V', St w' gp gf g gl V' L' F' hd' ∧ (∀ k, k < W.heap.size → V' k → V k) ∧ Off3 gp gf g W w') :
    Calls Try.prog 40 #[tp gp, .int .i64 n] w fun e w' => e = .returned (.tuple #[fp gf i, .int .i64 0]) ∧ ∃ V', St w' gp gf g gl V' L' (F'.set i (Fr.of n l a b c d)) hd' ∧ (∀ k, k < w.heap.size → V' k → V k) ∧ Off3 gp gf g w w' := by
  have HB : Hid (∀ j (hj : j < F.length), F[j].has n = false) := hb
  have H1 : Hid (∀ W, Below w.heap.size w W → Calls Try.prog 59 #[tp gp, .int .i64 n] W fun e w' => e = .returned (.tuple #[pgV l a b c d, .int .i64 0]) ∧ Below W.heap.size W w') := HFe
  have H2 : Hid (∀ W, Below w.heap.size w W → Calls Try.prog 60 #[tp gp] W fun e w' => e = .returned (fp gf i) ∧ ∃ V', St w' gp gf g gl V' L' F' hd' ∧ (∀ k, k < W.heap.size → V' k → V k) ∧ Off3 gp gf g W w') := HR
  clear hb HFe HR
  have hst := fun (ad : Addr) (re im : Nat) (W : World) => run_store Try.prog W ad (.complex .f64 re im) .plain rfl
  go_enter Try.func40, Try.ntmps40
  go_wp2_with (first
    | (go_at_call 58; refine (holder_none gp gf g gl F hd n _ h.p HB.out).mono ?_; rintro e w' ⟨rfl, hw⟩; subst w')
    | (go_at_call 59; refine (H1.out _ (Below.refl _ _)).mono ?_; unfold pgV; rintro e w1 ⟨rfl, hb1⟩; have hS1 := h.below hb1)
    | (go_at_call 60; refine (H2.out _ (hb1.alloc hb1.size _)).mono ?_; rintro e w2 ⟨rfl, V2, hS2, hV2, hO2⟩; have c0 := hS2.p.cell i hi 0 _ rfl; simp only [Nat.add_zero] at c0; have c1 := hS2.p.cell i hi 1 _ rfl; have c2 := hS2.p.cell i hi 2 _ rfl; have c3 := hS2.p.cell i hi 3 _ rfl; have c4 := hS2.p.cell i hi 4 _ rfl; have c5 := hS2.p.cell i hi 5 _ rfl; have c6 := hS2.p.cell i hi 6 _ rfl; have c7 := hS2.p.cell i hi 7 _ rfl; have c8 := hS2.p.cell i hi 8 _ rfl; have c9 := hS2.p.cell i hi 9 _ rfl; have z0 := hS2.p.ff (i * 10); have z1 := hS2.p.ff (i * 10 + 1); have z2 := hS2.p.ff (i * 10 + 2); have z3 := hS2.p.ff (i * 10 + 3); have z4 := hS2.p.ff (i * 10 + 4); have z5 := hS2.p.ff (i * 10 + 5); have z6 := hS2.p.ff (i * 10 + 6); have z7 := hS2.p.ff (i * 10 + 7); have z8 := hS2.p.ff (i * 10 + 8); have z9 := hS2.p.ff (i * 10 + 9); have hq := (PgAt.new w1 l a b c d).keep (hO2.block w1.heap.size (by simp) (by have := hS1.p.lp; omega) (by have := hS1.p.lf; omega) (by have := hS1.d.lt; omega)) hO2.size; have q0 := hq.c0; have q1 := hq.c1; have q2 := hq.c2; have q3 := hq.c3; have q4 := hq.c4; clear hq)
    | fail)
  go_ret2
  refine ⟨rfl, V2, hS2.turn (hS2.p.whole i hi (Fr.of n l a b c d)) (putFr_keep w2 gp gf i (Fr.of n l a b c d)) (putFr_size w2 gf i (Fr.of n l a b c d)), fun k hk hx => hV2 k (by have := hb1.size; simp; omega) hx, ?_⟩
  exact ((Off3.of_below (hb1.alloc hb1.size _)).trans hO2).putFr i (Fr.of n l a b c d)

set_option maxHeartbeats 800000 in
theorem load_full (gp gf g gl : Nat) (V : Nat → Prop) (L : List Sec) (F : List Fr) (hd : Nat) (n l : Int) (a b c d : Nat × Nat) (w : World) (h : St w gp gf g gl V L F hd) (hb : ∀ j (hj : j < F.length), F[j].has n = false)
    (HFe : ∀ W, Below w.heap.size w W → Calls Try.prog 59 #[tp gp, .int .i64 n] W fun e w' => e = .returned (.tuple #[pgV l a b c d, .int .i64 0]) ∧ Below W.heap.size W w')
    (HR : ∀ W, Below w.heap.size w W → Calls Try.prog 60 #[tp gp] W fun e w' => e = .returned (.pointer none) ∧ St w' gp gf g gl V L F hd ∧ Off3 gp gf g W w') :
    Calls Try.prog 40 #[tp gp, .int .i64 n] w fun e w' => e = .returned (.tuple #[.pointer none, .int .i64 81]) ∧ St w' gp gf g gl V L F hd ∧ Off3 gp gf g w w' := by
  have HB : Hid (∀ j (hj : j < F.length), F[j].has n = false) := hb
  have H1 : Hid (∀ W, Below w.heap.size w W → Calls Try.prog 59 #[tp gp, .int .i64 n] W fun e w' => e = .returned (.tuple #[pgV l a b c d, .int .i64 0]) ∧ Below W.heap.size W w') := HFe
  have H2 : Hid (∀ W, Below w.heap.size w W → Calls Try.prog 60 #[tp gp] W fun e w' => e = .returned (.pointer none) ∧ St w' gp gf g gl V L F hd ∧ Off3 gp gf g W w') := HR
  clear hb HFe HR
  have hst := fun (ad : Addr) (re im : Nat) (W : World) => run_store Try.prog W ad (.complex .f64 re im) .plain rfl
  go_enter Try.func40, Try.ntmps40
  go_wp2_with (first
    | (go_at_call 58; refine (holder_none gp gf g gl F hd n _ h.p HB.out).mono ?_; rintro e w' ⟨rfl, hw⟩; subst w')
    | (go_at_call 59; refine (H1.out _ (Below.refl _ _)).mono ?_; unfold pgV; rintro e w1 ⟨rfl, hb1⟩)
    | (go_at_call 60; refine (H2.out _ (hb1.alloc hb1.size _)).mono ?_; rintro e w2 ⟨rfl, hS2, hO2⟩)
    | fail)
  go_ret2
  exact ⟨rfl, hS2, (Off3.of_below (hb1.alloc hb1.size _)).trans hO2⟩

end Go.Proofs.Ythckdfggnmoaeaa
