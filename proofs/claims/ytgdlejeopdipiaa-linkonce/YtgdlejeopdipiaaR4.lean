/- What the document's Got of a link does, walked. -/
import Derived.Test.YtgdlejeopdipiaaR2
import Derived.Test.YtgdlejeopdipiaaL6
namespace Go.Proofs.Ytgdlejeopdipiaa
open Go.RowKit
set_option linter.unusedVariables false

set_option maxHeartbeats 1600000 in
set_option maxRecDepth 100000 in
theorem rgot_no (w : World) (I : LkI) (ao : Option Addr) (n cap kn h : Nat) (P : PkG) (u : Value) (hb : fitB I n P = false) :
    Calls Try.prog 15 #[rfV I (.slice ao n cap) kn h, pkV P u] w fun e w' => e = .returned (.tuple #[rfV I (.slice ao n cap) kn h, .slice none 0 0, .bool false]) ∧ Below w.heap.size w w' := by
  obtain ⟨cl, ep, bo, sq, ak, sv, bs⟩ := P
  obtain ⟨icl, iep, ibo, isv⟩ := I
  have HB : Hid (fitB ⟨icl, iep, ibo, isv⟩ n ⟨cl, ep, bo, sq, ak, sv, bs⟩ = false) := hb
  clear hb
  cases q1 : (cl != icl)
  · cases q2 : (ep != iep)
    · cases q3 : (bo != ibo)
      · cases q4 : (sv == isv)
        · have q5 : (n : Int) < ak := by
            have := HB.out
            simp only [fitB] at this
            simp only [bne_eq_false_iff_eq, beq_eq_false_iff_ne] at q1 q2 q3 q4
            simp [q1, q2, q3, q4] at this
            exact this
          go_enter Try.func15, Try.ntmps15
          go_wp2
          go_returns
          exact ⟨rfl, by go_grown⟩
        · go_enter Try.func15, Try.ntmps15
          go_wp2
          go_returns
          exact ⟨rfl, by go_grown⟩
      · go_enter Try.func15, Try.ntmps15
        go_wp2
        go_returns
        exact ⟨rfl, by go_grown⟩
    · go_enter Try.func15, Try.ntmps15
      go_wp2
      go_returns
      exact ⟨rfl, by go_grown⟩
  · go_enter Try.func15, Try.ntmps15
    go_wp2
    go_returns
    exact ⟨rfl, by go_grown⟩

/-- How many bodies the document knows to have come, behind an ack. -/
def knB (kn : Nat) (ak : Int) : Nat := if (kn : Int) < ak then ak.toNat else kn

set_option maxHeartbeats 1600000 in
set_option maxRecDepth 100000 in
theorem rgot_fit (w : World) (I : LkI) (ao : Option Addr) (n cap kn h : Nat) (P : PkG) (u : Value) (hb : fitB I n P = true) (hq0 : -9223372036854775808 ≤ P.sq) (hq1 : P.sq ≤ 9223372036854775807) (k2 : Nat) (hk2 : knB kn P.ak = k2) :
    (P.sq = (h : Int) + 1 → Calls Try.prog 15 #[rfV I (.slice ao n cap) kn h, pkV P u] w fun e w' => e = .returned (.tuple #[rfV I (.slice ao n cap) k2 (h + 1), u, .bool true]) ∧ Below w.heap.size w w') ∧
    (P.sq ≠ (h : Int) + 1 → Calls Try.prog 15 #[rfV I (.slice ao n cap) kn h, pkV P u] w fun e w' => e = .returned (.tuple #[rfV I (.slice ao n cap) k2 h, .slice none 0 0, .bool false]) ∧ Below w.heap.size w w') := by
  obtain ⟨cl, ep, bo, sq, ak, sv, bs⟩ := P
  obtain ⟨icl, iep, ibo, isv⟩ := I
  simp only at hq0 hq1 hk2 ⊢
  simp only [fitB, Bool.and_eq_true, decide_eq_true_eq] at hb
  obtain ⟨⟨⟨⟨b1, b2⟩, b3⟩, b4⟩, b5⟩ := hb
  have q1 : (cl != icl) = false := by simpa [bne] using b1
  have q2 : (ep != iep) = false := by simpa [bne] using b2
  have q3 : (bo != ibo) = false := by simpa [bne] using b3
  have q4 : (sv == isv) = false := by simpa [bne] using b4
  have q5 : ¬ ((n : Int) < ak) := by omega
  clear b1 b2 b3 b4 b5
  refine ⟨fun hs => ?_, fun hs => ?_⟩
  · have s1 : ¬ (sq < 1) := by omega
    have hw1 : IntKind.i64.wrap (sq - 1) = sq - 1 := by rw [IntKind.wrap_i64]; omega
    have s2 : (sq - 1 != (h : Int)) = false := by simp; omega
    have HSQ : Hid (sq = (h : Int) + 1) := hs
    clear hs hq0 hq1
    by_cases hk : (kn : Int) < ak
    · have HK : Hid (ak = (k2 : Int)) := by unfold Hid; simp only [knB, hk, if_true] at hk2; omega
      clear hk2
      go_enter Try.func15, Try.ntmps15
      go_upto_region 8 with fail
      go_big_region
      go_wp2
      go_returns
      refine ⟨?_, by go_grown⟩
      simp [HK.out, HSQ.out]
    · have HK : Hid (kn = k2) := by unfold Hid; simp only [knB, hk, if_false] at hk2; omega
      clear hk2
      go_enter Try.func15, Try.ntmps15
      go_upto_region 8 with fail
      go_big_region
      go_wp2
      go_returns
      refine ⟨?_, by go_grown⟩
      simp [HK.out, HSQ.out]
  · have HSQ : Hid (sq ≠ (h : Int) + 1) := hs
    by_cases hk : (kn : Int) < ak
    · have HK : Hid (ak = (k2 : Int)) := by unfold Hid; simp only [knB, hk, if_true] at hk2; omega
      clear hk2 hs
      by_cases s1 : sq < 1
      · clear hq0 hq1
        go_enter Try.func15, Try.ntmps15
        go_wp2
        go_returns
        refine ⟨?_, by go_grown⟩
        simp [HK.out]
      · have hw1 : IntKind.i64.wrap (sq - 1) = sq - 1 := by rw [IntKind.wrap_i64]; omega
        have s2 : (sq - 1 != (h : Int)) = true := by have := HSQ.out; simp; omega
        clear hq0 hq1
        go_enter Try.func15, Try.ntmps15
        go_wp2
        go_returns
        refine ⟨?_, by go_grown⟩
        simp [HK.out]
    · have HK : Hid (kn = k2) := by unfold Hid; simp only [knB, hk, if_false] at hk2; omega
      clear hk2 hs
      by_cases s1 : sq < 1
      · clear hq0 hq1
        go_enter Try.func15, Try.ntmps15
        go_wp2
        go_returns
        refine ⟨?_, by go_grown⟩
        simp [HK.out]
      · have hw1 : IntKind.i64.wrap (sq - 1) = sq - 1 := by rw [IntKind.wrap_i64]; omega
        have s2 : (sq - 1 != (h : Int)) = true := by have := HSQ.out; simp; omega
        clear hq0 hq1
        go_enter Try.func15, Try.ntmps15
        go_wp2
        go_returns
        refine ⟨?_, by go_grown⟩
        simp [HK.out]

end Go.Proofs.Ytgdlejeopdipiaa
