/- bytes.Equal, and Spoil of package net, walked. -/
import Derived.Test.YtfllkhimlambhaaN4
namespace Go.Proofs.Ytfllkhimlambhaa
open Go.RowKit
set_option linter.unusedVariables false
set_option maxRecDepth 8000

theorem str_eq {xs ys : List Nat} (h : xs = ys) : ((strOfNums (ci xs)).toList == (strOfNums (ci ys)).toList) = true := by subst h; simp

theorem equal_any (ao : Option Addr) (n cap : Nat) (xs : List Nat) (ao' : Option Addr) (n' cap' : Nat) (ys : List Nat) (w : World) (h : Rd8 w ao n cap xs) (h' : Rd8 w ao' n' cap' ys) : Calls Try.prog 30 #[.slice ao n cap, .slice ao' n' cap'] w fun e w' => e = .returned (.bool (decide (xs = ys))) ∧ w' = w := by
  have hx := h.str
  have hy := h'.str
  have HE : Hid (((strOfNums (ci xs)).toList == (strOfNums (ci ys)).toList) = decide (xs = ys)) := by
    unfold Hid
    by_cases e : xs = ys
    · rw [str_eq e, decide_eq_true e]
    · rw [str_ne h.byte h'.byte e, decide_eq_false e]
  clear h h'
  go_enter Try.func30, Try.ntmps30
  go_wp2
  go_ret
  exact ⟨ret_bool HE.out, rfl⟩

theorem spoil_no {w : World} {g : Nat} {V : Nat → Prop} {T : Nat → List It} (H : Net w g V T) (z i p : Int) (m : Value) (h : hasB T z i = false) : Calls Try.prog 20 #[np g, .int .i64 z, .int .i64 i, .int .i64 p, m] w fun e w' => e = .returned (.bool false) ∧ w' = w := by
  go_enter Try.func20, Try.ntmps20
  go_wp2_with (go_at_call 26; refine (has_any H _ _).mono ?_; rw [h]; rintro e w1 ⟨rfl, hw1⟩; subst w1)
  go_ret
  exact ⟨rfl, rfl⟩

/-- What a frame is behind a burst. -/
def brI (x : It) (p : Int) (m : Nat) : List Nat := brN x.1 p m (L16 m)
def spB (L : List It) (k : Nat) (p : Int) (m : Nat) : Bool := !(itAt L k).2 && !decide (brI (itAt L k) p m = (itAt L k).1)
def spT (T : Nat → List It) (l k : Nat) (p : Int) (m : Nat) : Nat → List It := if spB (T l) k p m then upd T l ((T l).set k (brI (itAt (T l) k) p m, true)) else T

set_option maxHeartbeats 1600000 in
theorem spoil_yes {w : World} {g : Nat} {V : Nat → Prop} {T : Nat → List It} (H : Net w g V T) (l : Nat) (hl : l < 8) (k : Nat) (hk : k < (T l).length) (p : Int) (m : Nat) (hm : m < 65536) (hp : -9223372036854775808 ≤ p) (hp2 : p ≤ 9223372036854775807) : Calls Try.prog 20 #[np g, .int .i64 (l : Int), .int .i64 (k : Int), .int .i64 p, .int .u16 (m : Int)] w fun e w' => e = .returned (.bool (spB (T l) k p m)) ∧ Ned w w' g V (spT T l k p m) := by
  have h : hasB T (l : Int) (k : Int) = true := by rw [hasB_nat T hl]; simpa using hk
  have HH : Hid (Net w g V T) := H
  have HHas := has_any H (l : Int) (k : Int)
  rw [h] at HHas
  have HQ : Hid (Calls Try.prog 26 #[np g, .int .i64 (l : Int), .int .i64 (k : Int)] w fun e w' => e = .returned (.bool true) ∧ w' = w) := HHas
  clear HHas
  obtain ⟨A, C, F, H, hT⟩ := H
  have e1 : (F l).length = (T l).length := by rw [← hT l hl, List.length_map]
  obtain ⟨r, x, hA, hx, hrV, hrl, hrg, hby, z0, z1⟩ := H.at l k hl (by omega)
  have hc := H.cell l hl
  rw [hA, e1] at hc
  have hxi : itAt (T l) k = x.it := itAt_of (by rw [← hT l hl, List.getElem?_map, hx]; rfl)
  have hlz : (l : Int) < 8 := by omega
  have hrow := H.row l hl
  rw [hA] at hrow
  have hfz : ∀ j, w.frozen? ⟨r, j, none⟩ = false := by
    intro j
    obtain ⟨_, cur, h2⟩ := hrow.lt _ rfl
    exact frozen_of_row _ _ _ _ _ h2
  obtain ⟨xao, xn, xcap, xbs, xsp⟩ := x
  simp only at z0 z1
  by_cases hsp : xsp = true
  · subst hsp
    have HB : Hid (spB (T l) k p m = false ∧ spT T l k p m = T) := by
      have : spB (T l) k p m = false := by unfold spB; rw [hxi]; rfl
      exact ⟨this, by unfold spT; rw [this]; rfl⟩
    clear hT hx hrV hby hxi H e1 h hrow
    generalize (T l).length = n at *
    go_enter Try.func20, Try.ntmps20
    go_wp2_with (go_at_call 26; refine HQ.out.mono ?_; rintro e w1 ⟨rfl, hw1⟩; subst w1)
    go_ret
    exact ⟨ret_bool HB.out.1.symm, by rw [HB.out.2]; exact Ned.same HH.out⟩
  · have hsp' : xsp = false := by simpa using hsp
    subst hsp'
    clear hsp
    obtain ⟨xs, hxs⟩ : ∃ xs, brN xbs p m (L16 m) = xs := ⟨_, rfl⟩
    have HC : Hid (Calls Try.prog 29 #[.slice xao xn xcap, .int .i64 p, .int .u16 (m : Int)] w fun e w' => ∃ ao' cap', e = .returned (.slice ao' xn cap') ∧ Hid (Own8 w' w.heap.size ao' xn cap' xs ∧ Below w.heap.size w w')) := burst_to xao xn xcap xbs xs p m w hby.rd hxs hby.sz hm hp hp2
    have HY : Hid (Rd8 w xao xn xcap xbs ∧ xn ≤ 140737488355328 ∧ r < w.heap.size ∧ g < w.heap.size) := ⟨hby.rd, hby.sz, hrl, H.lt⟩
    have hd : Hid (w.cell? ⟨g, l, none⟩ = some (.slice (some ⟨r, 0, none⟩) (T l).length (C l))) := hc
    by_cases heq : xs = xbs
    · have HB : Hid (spB (T l) k p m = false ∧ spT T l k p m = T) := by
        have : spB (T l) k p m = false := by
          unfold spB brI
          rw [hxi]
          simp [Fv.it, hxs, heq]
        exact ⟨this, by unfold spT; rw [this]; rfl⟩
      have HX : Hid (∀ W ao' cap', Own8 W w.heap.size ao' xn cap' xs → Below w.heap.size w W → Calls Try.prog 30 #[.slice ao' xn cap', .slice xao xn xcap] W fun e w' => e = .returned (.bool true) ∧ w' = W) := by
        intro W ao' cap' ho hb
        have := equal_any ao' xn cap' xs xao xn xcap xbs W ho.rd (HY.out.1.below hb)
        rwa [decide_eq_true heq] at this
      clear hT hx hrV hby hxi H e1 h hrow heq hxs
      generalize (T l).length = n at *
      go_enter Try.func20, Try.ntmps20
      go_wp2_with (first
        | (go_at_call 26; refine HQ.out.mono ?_; rintro e w1 ⟨rfl, hw1⟩; subst w1)
        | (go_at_call 29; refine HC.out.mono ?_; rintro e w1 ⟨ao1, cap1, rfl, HN⟩; have y0 := (HN.out.2.cell (p := ⟨r, k * 2, none⟩) HY.out.2.2.1).trans z0)
        | (go_at_call 30; refine (HX.out _ _ _ HN.out.1 HN.out.2).mono ?_; rintro e w2 ⟨rfl, hw2⟩; subst w2))
      go_ret
      exact ⟨ret_bool HB.out.1.symm, by rw [HB.out.2]; exact ⟨(HH.out.below HN.out.2).mono fun k _ h => .inl h, OffN.of_below HN.out.2⟩⟩
    · have HB : Hid (spB (T l) k p m = true ∧ spT T l k p m = upd T l ((T l).set k (xs, true))) := by
        have : spB (T l) k p m = true := by
          unfold spB brI
          rw [hxi]
          simp [Fv.it, hxs, heq]
        refine ⟨this, ?_⟩
        unfold spT brI
        rw [this, hxi]
        simp [Fv.it, hxs]
      have HX : Hid (∀ W ao' cap', Own8 W w.heap.size ao' xn cap' xs → Below w.heap.size w W → Calls Try.prog 30 #[.slice ao' xn cap', .slice xao xn xcap] W fun e w' => e = .returned (.bool false) ∧ w' = W) := by
        intro W ao' cap' ho hb
        have := equal_any ao' xn cap' xs xao xn xcap xbs W ho.rd (HY.out.1.below hb)
        rwa [decide_eq_false heq] at this
      have HZ : Hid (∀ W ao' cap', Own8 W w.heap.size ao' xn cap' xs → Below w.heap.size w W → Ned w ((W.setCell ⟨r, k * 2, none⟩ (.slice ao' xn cap')).setCell ⟨r, k * 2 + 1, none⟩ (.bool true)) g V (upd T l ((T l).set k (xs, true)))) := by
        intro W ao' cap' ho hb
        obtain ⟨hkl, hxe⟩ := List.getElem?_eq_some_iff.1 hx
        have hO := hrow.below hb
        have hO1 := hO.put fvE k hkl 0 (by decide) (.slice ao' xn cap') ⟨ao', xn, cap', xs, false⟩ (by rw [hxe]; rfl)
        have hO2 := hO1.put fvE k (by rw [List.length_set]; exact hkl) 1 (by decide) (.bool true) ⟨ao', xn, cap', xs, true⟩ (by rw [List.getElem_set_self]; rfl)
        rw [List.set_set] at hO2
        simp only [Nat.add_zero] at hO2
        have hbz : ∀ j, j ≠ r → ((W.setCell ⟨r, k * 2, none⟩ (.slice ao' xn cap')).setCell ⟨r, k * 2 + 1, none⟩ (.bool true)).heap[j]? = W.heap[j]? := by
          intro j hj
          rw [Below.heap_setCell _ _ _ _ (by simpa using hj), Below.heap_setCell _ _ _ _ (by simpa using hj)]
        have hsz : W.heap.size ≤ ((W.setCell ⟨r, k * 2, none⟩ (.slice ao' xn cap')).setCell ⟨r, k * 2 + 1, none⟩ (.bool true)).heap.size := by simp
        rw [← hA] at hO2
        have hk5 : ∀ (U : Nat → Prop) (y : Fv), Fb W U y → Fb ((W.setCell ⟨r, k * 2, none⟩ (.slice ao' xn cap')).setCell ⟨r, k * 2 + 1, none⟩ (.bool true)) U y := by
          intro U y hy
          refine hy.keep hsz fun j cs _ hq5 => hbz j ?_
          rintro rfl
          obtain ⟨_, cur, h2⟩ := hO.lt _ rfl
          rw [hq5] at h2
          cases h2
        obtain ⟨q1, q2⟩ := H.rowed (U := Grow w V) (w6 := (W.setCell ⟨r, k * 2, none⟩ (.slice ao' xn cap')).setCell ⟨r, k * 2 + 1, none⟩ (.bool true)) hl (Nat.le_trans hb.size hsz) hb.os hb.tape hb.output (fun j hj hne => (hbz j (fun e => hne _ hA e.symm)).trans (hb.block j hj)) hO2 (by rw [List.length_set]) (fun _ h => .inl h) (fun y hy => by
          rcases List.mem_or_eq_of_mem_set hy with hy | rfl
          · exact hk5 _ _ (((H.by' l hl y hy).mono (U := Grow w V) fun _ _ h => .inl h).below hb)
          · exact hk5 _ _ (Fb.own ho true (Grow w V) (fun _ h => .inr h) HY.out.2.1))
        refine ⟨⟨_, _, _, q1, fun j hj => ?_⟩, q2⟩
        by_cases e : j = l
        · subst e
          rw [upd_same, upd_same, List.map_set, hT j hj]
          rfl
        · rw [upd_other _ _ e, upd_other _ _ e]
          exact hT j hj
      clear hT hx hrV hby hxi H e1 h hrow heq hxs
      generalize (T l).length = n at *
      go_enter Try.func20, Try.ntmps20
      go_wp2_with (first
        | (go_at_call 26; refine HQ.out.mono ?_; rintro e w1 ⟨rfl, hw1⟩; subst w1)
        | (go_at_call 29; refine HC.out.mono ?_; rintro e w1 ⟨ao1, cap1, rfl, HN⟩; have y0 := (HN.out.2.cell (p := ⟨r, k * 2, none⟩) HY.out.2.2.1).trans z0; have y1 := (HN.out.2.cell (p := ⟨r, k * 2 + 1, none⟩) HY.out.2.2.1).trans z1; have yf : ∀ j, w1.frozen? ⟨r, j, none⟩ = false := fun j => (World.frozen?_of_block (w := w) (a := ⟨r, j, none⟩) (HN.out.2.block r HY.out.2.2.1)).trans (hfz j); have HZ2 := HZ.out _ _ _ HN.out.1 HN.out.2; have HZ3 : Hid (Ned w ((w1.setCell ⟨r, k * 2, none⟩ (.slice ao1 xn cap1)).setCell ⟨r, k * 2 + 1, none⟩ (.bool true)) g V (upd T l ((T l).set k (xs, true)))) := HZ2; clear HZ2)
        | (go_at_call 30; refine (HX.out _ _ _ HN.out.1 HN.out.2).mono ?_; rintro e w2 ⟨rfl, hw2⟩; subst w2))
      go_ret
      exact ⟨ret_bool HB.out.1.symm, by rw [HB.out.2]; exact HZ3.out⟩

end Go.Proofs.Ytfllkhimlambhaa
