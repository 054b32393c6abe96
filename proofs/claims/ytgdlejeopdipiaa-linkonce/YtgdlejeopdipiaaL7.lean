/- The chapter's example, walked. -/
import Derived.Test.YtgdlejeopdipiaaL5
import Derived.Test.YtgdlejeopdipiaaL6
namespace Go.Proofs.Ytgdlejeopdipiaa
open Go.RowKit
set_option linter.unusedVariables false

/-- Got, with what comes of it under names. -/
theorem got_is (w : World) (B g : Nat) (ao : Option Addr) (n cap : Nat) (V : Nat → Prop) (I : LkI) (L : List (List Nat)) (s h : Nat) (H : Lk w B g ao n cap V I L s h) (P : PkG) (u : Value) (U : Nat → Prop) (hy : By w U u P.bs) (hm : P.bs.length ≤ 140737488355328) (hh : h < 16777215)
    (b : Bool) (n2 h2 : Nat) (X : List Nat) (L2 : List (List Nat)) (hb : gotB I s h P = b) (hn : n - gotC I n s P = n2) (hL : L.drop (gotC I n s P) = L2) (hh2 : gotH I s h P = h2) (hX : gotX I s h P = X) :
    Calls Try.prog 14 #[lp g, pkV P u] w fun e w' => ∃ v, e = .returned (.tuple #[v, .bool b]) ∧ By w' (fun k => w.heap.size ≤ k) v X ∧ Lk w' B g ao n2 cap V I L2 s h2 ∧ Off2 g ao w w' := by
  subst hb hn hL hh2 hX
  exact got_any w B g ao n cap V I L s h H P u U hy hm hh

theorem Pks.one {w : World} {base : Nat} {V : Nat → Prop} {v : Value} {P : PkG} (h : Pks w base V v [P]) : ∃ q cap, v = .slice (some ⟨q, 0, none⟩) 1 cap := by
  obtain ⟨g, cap, u, rfl, _⟩ := h.at 0 (by simp)
  exact ⟨g, cap, rfl⟩
theorem Pks.one' {w : World} {base : Nat} {V : Nat → Prop} {q cap : Nat} {P : PkG} (h : Pks w base V (.slice (some ⟨q, 0, none⟩) 1 cap) [P]) : ∃ u, PkIn w q 0 P u ∧ By w V u P.bs := by
  obtain ⟨g, cap', u, e, _, h1, h2⟩ := h.at 0 (by simp)
  simp only [Value.slice.injEq, Option.some.injEq, Addr.mk.injEq, and_true] at e
  obtain ⟨rfl, _, _⟩ := e
  exact ⟨u, h1, h2⟩

/-- Bytes that are there read as a string. -/
theorem By.str {w : World} {V : Nat → Prop} {v : Value} {bs : List Nat} (h : By w V v bs) : (convert 27 9 v).run Try.prog w = .ok (.string (strOfNums (ci bs))) w := by
  obtain ⟨ao, n, cap, rfl, hr, -⟩ := h
  exact hr.str

abbrev pkA : PkG := ⟨1, 2, 3, 1, 0, false, [104, 105]⟩
abbrev pkB : PkG := ⟨1, 2, 3, 0, 1, true, []⟩
abbrev lkA : LkI := ⟨1, 2, 3, false⟩
abbrev lkB : LkI := ⟨1, 2, 3, true⟩

set_option maxHeartbeats 1600000 in
set_option maxRecDepth 100000 in
theorem alive_any (w : World) : Calls Try.prog 11 #[] w fun e w' => e = .returned (.bool true) ∧ Below w.heap.size w w' := by
  have HPA : Hid (pksOf lkA [[104, 105]] 1 0 = [pkA]) := by unfold Hid; rfl
  have HPB : Hid (pksOf lkB [] 0 1 = [pkB]) := by unfold Hid; rfl
  have HST : Hid (strOfNums (ci [104, 105]) = ⟨#[104, 105]⟩) := by unfold Hid; rfl
  go_enter Try.func11, Try.ntmps11
  go_wp2_with (first
    | (go_at_call 20; refine (heard_any _ _ _ _ _ _ _ _ _ _ _ Kb8).mono ?_; rintro e w9 ⟨rfl, hw⟩; subst w9)
    | (go_at_call 19; refine (open_any _ _ _ _ _ _ _ _ _ _ _ Ka8).mono ?_; rintro e w9 ⟨rfl, hw⟩; subst w9)
    | (go_at_call 14; refine (got_is _ _ _ _ _ _ _ _ _ _ _ Ka7 pkB u7 _ hy7 (by simp) (by omega) false 0 0 [] [] rfl rfl rfl rfl rfl).mono ?_; rintro e w8 ⟨v8, rfl, -, Ka8, hO8⟩; have Kb8 := Kb7.other Ka7 hO8 hne.symm (fun a b h => by cases h); have hyS := (((hy5.kt (Kb5.ktOff hO6)).below hb7).kt (Ka7.ktOff hO8)).str; rw [HST.out] at hyS; have HB8 : Hid (Below w.heap.size w w8) := HB7.out.trans (Ka7.belowB hO8))
    | (go_at_call 17; refine (packets_any _ _ _ _ _ _ _ _ _ _ _ Kb6).mono ?_; rw [HPB.out]; rintro e w7 ⟨v7, rfl, hp7, hb7⟩; obtain ⟨q7, cap7, rfl⟩ := hp7.one; obtain ⟨u7, hk7, hy7⟩ := hp7.one'; have Ka7 := Ka6.below hb7; have Kb7 := Kb6.below hb7; have k0 := hk7.c0; have k1 := hk7.c1; have k2 := hk7.c2; have k3 := hk7.c3; have k4 := hk7.c4; have k5 := hk7.c5; have k6 := hk7.c6; simp only [Nat.zero_add] at k1 k2 k3 k4 k5 k6; have HB7 : Hid (Below w.heap.size w w7) := HB6.out.trans (hb7.mono HB6.out.size))
    | (go_at_call 14; refine (got_is _ _ _ _ _ _ _ _ _ _ _ Kb5 pkA u5 _ hy5u (by simp) (by omega) false 0 1 [] [] rfl rfl rfl rfl rfl).mono ?_; rintro e w6 ⟨v6, rfl, -, Kb6, hO6⟩; have Ka6 := Ka5.other Kb5 hO6 hne (fun a b _ h => by cases h); have HB6 : Hid (Below w.heap.size w w6) := HB5.out.trans (Kb5.belowB hO6))
    | (go_at_call 14; refine (got_is _ _ _ _ _ _ _ _ _ _ _ Kb4 pkA u4 _ hy4 (by simp) (by omega) true 0 1 [104, 105] [] rfl rfl rfl rfl rfl).mono ?_; rintro e w5 ⟨v5, rfl, hy5, Kb5, hO5⟩; have Ka5 := Ka4.other Kb4 hO5 hne (fun a b _ h => by cases h); obtain ⟨u5, hk5, hy5u⟩ := (hp4.kt (Kb4.ktOff hO5)).one'; have j0 := hk5.c0; have j1 := hk5.c1; have j2 := hk5.c2; have j3 := hk5.c3; have j4 := hk5.c4; have j5 := hk5.c5; have j6 := hk5.c6; simp only [Nat.zero_add] at j1 j2 j3 j4 j5 j6; have HB5 : Hid (Below w.heap.size w w5) := HB4.out.trans (Kb4.belowB hO5))
    | (go_at_call 17; refine (packets_any _ _ _ _ _ _ _ _ _ _ _ Ka3).mono ?_; rw [HPA.out]; rintro e w4 ⟨v4, rfl, hp4, hb4⟩; obtain ⟨q4, cap4, rfl⟩ := hp4.one; obtain ⟨u4, hk4, hy4⟩ := hp4.one'; have Ka4 := Ka3.below hb4; have Kb4 := Kb3.below hb4; have i0 := hk4.c0; have i1 := hk4.c1; have i2 := hk4.c2; have i3 := hk4.c3; have i4 := hk4.c4; have i5 := hk4.c5; have i6 := hk4.c6; simp only [Nat.zero_add] at i1 i2 i3 i4 i5 i6; have HB4 : Hid (Below w.heap.size w w4) := HB3.out.trans (hb4.mono HB3.out.size))
    | (go_at_call 10; refine (push_ok _ _ _ _ _ _ _ _ _ _ _ (Ka2.below ((Below.refl _ _).alloc (Nat.le_refl _) _)) _ 2 2 [104, 105] (Rd8.marked w2 _ 2 _ [104, 105] rfl rfl (by intro b hb; simp at hb; omega) (by unfold maxLen; omega)) (by omega) (by omega) (by omega) (fun _ _ => trivial)).mono ?_; rintro e w3 ⟨rfl, ao3, cap3, Ka3x, hO3, hN3⟩; have Ka3 : Lk w3 w.heap.size w.heap.size ao3 1 cap3 (fun _ => True) lkA [[104, 105]] 1 0 := Ka3x; clear Ka3x; have Kb3 := (Kb2.below ((Below.refl _ _).alloc (Nat.le_refl _) _)).other (Ka2.below ((Below.refl _ _).alloc (Nat.le_refl _) _)) hO3 hne.symm (fun a b h => by cases h); have HB3 : Hid (Below w.heap.size w w3) := (HB2.out.alloc HB2.out.size _).trans ((Ka2.below ((Below.refl _ _).alloc (Nat.le_refl _) _)).belowB hO3))
    | (go_at_call 9; refine (new_any 1 2 3 true w1).mono ?_; rintro e w2 ⟨rfl, hB2, hb2⟩; have Ka2 := Ka1.below hb2; have Kb2 := hB2 w.heap.size (fun _ => True) hb1.size; have hne : w.heap.size ≠ w1.heap.size := (by have := Ka1.hd.lt; omega); clear hB2; have HB2 : Hid (Below w.heap.size w w2) := hb1.trans (hb2.mono hb1.size); have hcv := Go.Lib.run_convert_bytes_const (P := Try.prog) w2 27 5 #[.int .u8 104, .int .u8 105] 2 2 Try.underlying27 Try.underlying5)
    | (go_at_call 9; refine (new_any 1 2 3 false w).mono ?_; rintro e w1 ⟨rfl, hA1, hb1⟩; have Ka1 := hA1 w.heap.size (fun _ => True) (Nat.le_refl _); clear hA1))
  go_ret
  exact ⟨rfl, HB8.out⟩

end Go.Proofs.Ytgdlejeopdipiaa
