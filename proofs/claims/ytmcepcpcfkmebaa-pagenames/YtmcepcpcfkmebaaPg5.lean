/- What Same of package page does, walked. -/
import Derived.Test.YtmcepcpcfkmebaaPg1
import Derived.Handy
namespace Go.Proofs.Ytmcepcpcfkmebaa
open Go.RowKit
set_option linter.unusedVariables false

/-- A complex number as a value. -/
def cxV (x : Nat × Nat) : Value := .complex .f64 x.1 x.2

/-- Are they the same, one by one? -/
def allSame (xs ys : List (Nat × Nat)) : Bool := (xs.zip ys).all fun p => sameB p.1.1 p.1.2 p.2.1 p.2.2

theorem allSame_take (xs ys : List (Nat × Nat)) (k : Nat) (h1 : k < xs.length) (h2 : k < ys.length) :
    allSame (xs.take (k + 1)) (ys.take (k + 1)) = (allSame (xs.take k) (ys.take k) && sameB xs[k].1 xs[k].2 ys[k].1 ys[k].2) := by
  unfold allSame
  rw [List.take_succ_eq_append_getElem h1, List.take_succ_eq_append_getElem h2, List.zip_append (by simp; omega), List.all_append]
  simp

theorem allSame_false (xs ys : List (Nat × Nat)) (k : Nat) (h1 : k < xs.length) (h2 : k < ys.length) (h : sameB xs[k].1 xs[k].2 ys[k].1 ys[k].2 = false) : allSame xs ys = false := by
  unfold allSame
  rw [List.all_eq_false]
  refine ⟨(xs[k], ys[k]), ?_, by simp [h]⟩
  rw [List.mem_iff_getElem]
  exact ⟨k, by simp; omega, by simp⟩

theorem rd_cx {w : World} {ao : Option Addr} {cap n : Nat} {xs : List (Nat × Nat)} (h : RdS w ao cap (xs.map cxV)) (hn : xs.length = n) (k : Nat) (hk : k < n) : ∃ b off, ao = some ⟨b, off, none⟩ ∧ ∃ h2 : k < xs.length, w.cell? ⟨b, off + k, none⟩ = some (.complex .f64 xs[k].1 xs[k].2) := by
  obtain ⟨b, off, e, _, hc⟩ := h.at (t := k) (by simp; omega)
  refine ⟨b, off, e, by omega, ?_⟩
  rw [hc k (by simp; omega)]
  simp [cxV]

set_option maxHeartbeats 400000 in
theorem eqf_any (a1 a2 : Option Addr) (c1 c2 n : Nat) (xs ys : List (Nat × Nat)) (w : World) (h1 : RdS w a1 c1 (xs.map cxV)) (h2 : RdS w a2 c2 (ys.map cxV)) (hx : xs.length = n) (hy : ys.length = n) (hn : n ≤ 140737488355328) :
    Calls Try.prog 24 #[.slice a1 n c1, .slice a2 n c2, .func (.func 25) #[] #[]] w fun e w' => e = .returned (.bool (allSame xs ys)) ∧ w' = w := by
  go_enter Try.func24, Try.ntmps24
  go_wp2
  go_loopw [17] (fun i wr => ∃ (k : Nat), k ≤ n ∧ i = .int .i64 k ∧ allSame (xs.take k) (ys.take k) = true ∧ wr = w) (fun i _ => n - (intOf i).toNat)
  case atStart => exact ⟨0, Nat.zero_le _, rfl, rfl, rfl⟩
  case round =>
    obtain ⟨k, hk, rfl, hsm, hw⟩ := hrel
    subst wr
    have HSM : Hid (allSame (xs.take k) (ys.take k) = true) := hsm
    clear hsm
    by_cases hlt : k < n
    · obtain ⟨b1, o1, rfl, l1, q1⟩ := rd_cx h1 hx k hlt
      obtain ⟨b2, o2, rfl, l2, q2⟩ := rd_cx h2 hy k hlt
      have HT : Hid (allSame (xs.take (k + 1)) (ys.take (k + 1)) = (allSame (xs.take k) (ys.take k) && sameB xs[k].1 xs[k].2 ys[k].1 ys[k].2)) := allSame_take xs ys k l1 l2
      have HF := allSame_false xs ys k l1 l2
      cases hs : sameB xs[k].1 xs[k].2 ys[k].1 ys[k].2
      · have HFF : Hid (allSame xs ys = false) := HF hs
        clear HF
        go_wp2_with (first
          | (go_at_call 25; refine (same_any _ _ _ _ _).mono ?_; rintro e w' ⟨rfl, hw⟩; subst w'))
        go_returns
        exact ⟨ret_bool HFF.out.symm, rfl⟩
      · have HTT : Hid (allSame (xs.take (k + 1)) (ys.take (k + 1)) = true) := by
          have := HT.out
          rw [HSM.out, hs] at this
          exact this
        clear HF HT
        go_wp2_with (first
          | (go_at_call 25; refine (same_any _ _ _ _ _).mono ?_; rintro e w' ⟨rfl, hw⟩; subst w'))
        go_roundw
        case rel => exact ⟨k + 1, by omega, by go_num, HTT.out, by first | rfl | trivial⟩
        case measure => simp [intOf]; omega
    · have hkn : k = n := by omega
      subst hkn
      go_wp2
      go_returns
      refine ⟨ret_bool ?_, rfl⟩
      have := HSM.out
      rw [List.take_of_length_le (by omega), List.take_of_length_le (by omega)] at this
      exact this.symm

theorem RdS.heapS {w w' : World} {ao : Option Addr} {cap : Nat} {xs : List Value} (h : RdS w ao cap xs) (e : w'.heap = w.heap) : RdS w' ao cap xs := by
  refine ⟨h.le, h.mx, h.nil, fun hx => ?_⟩
  obtain ⟨b, off, e1, hlt, hc⟩ := h.cell hx
  refine ⟨b, off, e1, by rw [e]; exact hlt, fun t ht => ?_⟩
  rw [← hc t ht]
  exact World.cell?_of_block (w := w) (by rw [e])

/-- Are two pages the same? -/
def sameP (l m : Int) (x0 x1 x2 x3 y0 y1 y2 y3 : Nat × Nat) : Bool := (l == m) && allSame [x0, x1, x2, x3] [y0, y1, y2, y3]

/-- The objects of a page, as a slice. -/
theorem PgAt.objs {w : World} {g : Nat} {l : Int} {a b c d : Nat × Nat} (h : PgAt w g l a b c d) : RdS w (some ⟨g, 1, none⟩) 4 ([a, b, c, d].map cxV) := by
  refine ⟨by simp, by decide, fun h => (by cases h), fun _ => ⟨g, 1, rfl, h.lt, fun t ht => ?_⟩⟩
  simp at ht
  obtain rfl | rfl | rfl | rfl : t = 0 ∨ t = 1 ∨ t = 2 ∨ t = 3 := by omega
  · exact h.c1
  · exact h.c2
  · exact h.c3
  · exact h.c4

theorem below_pair (w : World) (o1 o2 : Obj) (n : Nat) : Below w.heap.size w (((w.alloc o1).alloc o2).drewN n) := by
  have h : Below w.heap.size w ((w.alloc o1).alloc o2) := ((Below.refl _ _).alloc (Nat.le_refl _) _).alloc (by simp) _
  exact ⟨h.os, h.tape, h.output, h.size, h.block⟩

set_option maxHeartbeats 400000 in
theorem samep_any (l m : Int) (x0 x1 x2 x3 y0 y1 y2 y3 : Nat × Nat) (w : World) :
    Calls Try.prog 12 #[pgV l x0 x1 x2 x3, pgV m y0 y1 y2 y3] w fun e w' => e = .returned (.bool (sameP l m x0 x1 x2 x3 y0 y1 y2 y3)) ∧ Below w.heap.size w w' := by
  have hA : PgAt ((w.alloc (pgO l x0 x1 x2 x3)).alloc (pgO m y0 y1 y2 y3)) w.heap.size l x0 x1 x2 x3 := (PgAt.new w l x0 x1 x2 x3).below ((Below.refl _ _).alloc (Nat.le_refl _) _) (PgAt.new w l x0 x1 x2 x3).lt
  have hB : PgAt ((w.alloc (pgO l x0 x1 x2 x3)).alloc (pgO m y0 y1 y2 y3)) (w.heap.size + 1) m y0 y1 y2 y3 := by
    have := PgAt.new (w.alloc (pgO l x0 x1 x2 x3)) m y0 y1 y2 y3
    rwa [show (w.alloc (pgO l x0 x1 x2 x3)).heap.size = w.heap.size + 1 by simp] at this
  have hS := fun (W : World) (hh : W.heap = ((w.alloc (pgO l x0 x1 x2 x3)).alloc (pgO m y0 y1 y2 y3)).heap) => eqf_any (some ⟨w.heap.size, 1, none⟩) (some ⟨w.heap.size + 1, 1, none⟩) 4 4 4 [x0, x1, x2, x3] [y0, y1, y2, y3] W (hA.objs.heapS hh) (hB.objs.heapS hh) rfl rfl (by omega)
  have HS : Hid _ := hS
  clear hS hA hB
  cases hlm : (l == m)
  · unfold pgV
    go_enter Try.func12, Try.ntmps12
    go_wp2
    go_quiet (fail)
    go_wp2
    go_returns
    refine ⟨ret_bool (by simp [sameP, hlm]), ?_⟩
    exact below_pair w _ _ _
  · unfold pgV
    go_enter Try.func12, Try.ntmps12
    go_wp2
    go_quiet ((first
      | (go_at_call 24; refine (HS.out _ ?_).mono ?_; rfl; rintro e w' ⟨rfl, hw⟩; subst w'; exact ⟨rfl, _, rfl⟩)))
    go_wp2
    go_returns
    refine ⟨ret_bool (by simp [sameP, hlm]), ?_⟩
    exact below_pair w _ _ _

end Go.Proofs.Ytmcepcpcfkmebaa
