/- New, All, Ahead, Reserved of package queue, walked. -/
import Derived.Test.YtllggjkhbecalaaDoorQ1
namespace Go.Proofs.YtllggjkhbecalaaDoor
open Go.RowKit Go.Maps
set_option linter.unusedVariables false
set_option maxRecDepth 8000

theorem new_any (w : World) : Calls Tryd.prog 14 #[] w fun e w' => e = .returned (qp (w.heap.size + 1)) ∧ Qw w' (fun k => w.heap.size ≤ k) (w.heap.size + 1) [] (fun _ => none) 0 ∧ Below w.heap.size w w' := by
  have hmm := @run_makeMap Tryd.prog
  go_enter Tryd.func14, Tryd.ntmps14
  go_wp2
  go_ret
  refine ⟨by simp, ⟨none, 0, w.heap.size, ⟨?_, OwR.nil _ _, (MapC.new w).keep ?_, by simp, Nat.le_refl _, fun a h => (by cases h)⟩⟩, by go_grown⟩
  · have := heap_alloc_new (w.alloc (.map #[] 0)) (.cells #[.slice none 0 0, .map (some w.heap.size)] 77)
    simpa using this
  · exact Below.heap_alloc _ _ _ (by simp)

theorem all_any (w : World) (A : Nat → Prop) (q : Nat) (L : List Wt) (C : Cl) (n : Nat) (H : Qw w A q L C n) (hl : L.length ≤ 1000000) :
    Calls Tryd.prog 23 #[qp q] w fun e w' => ∃ a c, e = .returned (.slice a L.length c) ∧ OwR wtC 4 43 w' a c L ∧ (∀ x, a = some x → x.block = w.heap.size) ∧ Below w.heap.size w w' := by
  obtain ⟨ao, cap, b, H⟩ := H
  have h0 := H.c0
  have HO : Hid (OwR wtC 4 43 w ao cap L) := H.own
  clear H
  obtain ⟨m, hm⟩ : ∃ m, L.length = m := ⟨_, rfl⟩
  have HM : Hid (L.length = m) := hm
  rw [hm] at h0 hl ⊢
  clear hm
  go_enter Tryd.func23, Tryd.ntmps23
  go_wp2_with (first
    | (at_builtin; refine wpList_append_R wtE _ rfl _ _ 38 rfl 43 _ 32 Tryd.underlying38 info29 rfl (L := []) (n := 0) rfl rfl (OwR.nil 43 _) HO.out.rd rfl HM.out (by omega) (by unfold maxLen; omega) ?_; intro a1 c1 w1 ho1 hg1 hw1)
    | fail)
  go_ret
  refine ⟨a1, c1, by simp, by simpa using ho1, ?_, ⟨hg1.os, hg1.tape, hg1.output, hg1.size, fun k hk => hg1.block k hk (by simp)⟩⟩
  rintro x rfl
  rcases hw1 with h | h
  · cases h
  · cases h; rfl

/-- Who is ahead: of the list M, those that are in the way. -/
def ahL (M : List Wt) (x : Wt) : List Int := (M.filter fun y => wayB y x).map (·.c)
def ahead (L : List Wt) (x : Wt) : List Int := ahL (if plN L x.c < L.length then L.take (plN L x.c) else L) x

theorem ahL_snoc (M : List Wt) (y x : Wt) : ahL (M ++ [y]) x = if wayB y x then ahL M x ++ [y.c] else ahL M x := by
  unfold ahL
  rw [List.filter_append, List.map_append]
  cases h : wayB y x <;> simp [h]

set_option maxHeartbeats 1600000 in
theorem ahead_any (w : World) (A : Nat → Prop) (q : Nat) (L : List Wt) (C : Cl) (n : Nat) (H : Qw w A q L C n) (hl : L.length ≤ 1000000) (x : Wt) :
    Calls Tryd.prog 26 #[qp q, wtV x] w fun e w' => ∃ a c, e = .returned (.slice a (ahead L x).length c) ∧ OwnI w' w.heap.size 3 .i64 a c (ahead L x) ∧ Below w.heap.size w w' := by
  obtain ⟨ao, cap, b, H⟩ := H
  have hb0 : Below w.heap.size w (w.alloc (wtO x)) := (Below.refl _ _).alloc (Nat.le_refl _) _
  have h0 := (H.below hb0).c0
  have HP : Hid (Calls Tryd.prog 32 #[qp q, .int .i64 x.c] (w.alloc (wtO x)) fun e w' => e = .returned (.int .i64 (plZ L x.c)) ∧ Below w.heap.size w w' ∧ w'.heap[w.heap.size]? = some (wtO x)) := by
    refine (place_any _ A q ao cap b L C n (H.below hb0) hl x.c).mono ?_
    rintro e w' ⟨rfl, hb⟩
    exact ⟨rfl, below_step hb0 hb, (hb.block _ (by simp)).trans (heap_alloc_new w _)⟩
  obtain ⟨M, hM⟩ : ∃ M, (if plN L x.c < L.length then L.take (plN L x.c) else L) = M := ⟨_, rfl⟩
  obtain ⟨m, hm⟩ : ∃ m, M.length = m := ⟨_, rfl⟩
  obtain ⟨z, hz⟩ : ∃ z, plZ L x.c = z := ⟨_, rfl⟩
  obtain ⟨nn, hnn⟩ : ∃ nn, L.length = nn := ⟨_, rfl⟩
  have hle := H.len
  have hmx := H.own.rd.mx
  have HR : Hid (ahead L x = ahL M x) := by show ahead L x = _; unfold ahead; rw [hM]
  rw [HR.out]
  rw [hz] at HP
  rw [hnn] at h0
  have HM : Hid (RdR wtC w ao cap M ∧ M.length = m) := by
    refine ⟨?_, hm⟩
    rw [← hM]
    split
    · exact H.own.rd.head wtE _ cap (by omega) (by omega) hmx H.own.rd.nil
    · exact H.own.rd
  have HZ : (0 ≤ z → z = (m : Int) ∧ m ≤ nn ∧ m ≤ cap ∧ 0 < cap ∧ ∃ g, ao = some ⟨g, 0, none⟩) ∧ (¬ 0 ≤ z → nn = m ∧ z = -1) ∧ m ≤ 1000000 := by
    refine ⟨fun h => ?_, fun h => ?_, ?_⟩
    · unfold plZ at hz
      split at hz
      · rename_i hp
        rw [if_pos hp] at hM
        subst hM
        have hml : m = plN L x.c := by rw [← hm, List.length_take]; omega
        refine ⟨by omega, by omega, by omega, by omega, ?_⟩
        rcases H.own with ⟨_, e, _⟩ | ⟨g, _, e, _⟩
        · omega
        · exact ⟨g, e⟩
      · omega
    · unfold plZ at hz
      split at hz
      · omega
      · rename_i hp
        rw [if_neg hp] at hM
        subst hM
        exact ⟨by omega, by omega⟩
    · rw [← hm, ← hM]
      split
      · rw [List.length_take]; omega
      · omega
  obtain ⟨hz1, hz2, hm6⟩ := HZ
  clear H hM hm hz hnn hle hmx hl hb0
  by_cases hz0 : 0 ≤ z
  · obtain ⟨rfl, hq1, hq2, hq3, g, rfl⟩ := hz1 hz0
    have hq4 : (m : Int) ≤ (cap : Int) := by omega
    have hq5 : ¬ (cap = 0) := by omega
    clear hz1 hz2
    go_enter Tryd.func26, Tryd.ntmps26
    go_wp2_with (first
      | (go_at_call 32; refine HP.out.mono ?_; rintro e w1 ⟨rfl, hb1, hx1⟩)
      | fail)
    go_loopw [7, 25] (fun v i wr => ∃ (k : Nat) (a : Option Addr) (c : Nat), k ≤ m ∧ i = .int .i64 k ∧ v = .slice a (ahL (M.take k) x).length c ∧ Hid (OwnI wr (w.heap.size + 1) 3 .i64 a c (ahL (M.take k) x)) ∧ Below w.heap.size w wr ∧ Hid (wr.heap[w.heap.size]? = some (wtO x))) (fun _ i _ => m - (intOf i).toNat)
    case atStart => exact ⟨0, none, 0, Nat.zero_le _, rfl, rfl, OwnI.nil _ _ _ _, hb1, hx1⟩
    case round =>
      clear hb1 hx1
      obtain ⟨k, a, c, hk, rfl, rfl, HO, hbel, HX⟩ := hrel
      rename World => wr
      by_cases hlt : k < m
      · have hkl : k < M.length := by have := HM.out.2; omega
        obtain ⟨bk, off, hao, -, hcc⟩ := (HM.out.1.below hbel).at wtE hkl
        obtain ⟨z0, z1, z2, z3⟩ := wtIn _ _ _ _ hcc
        obtain ⟨rfl, rfl⟩ : g = bk ∧ 0 = off := by simpa using hao
        simp only [Nat.zero_add] at z0 z1 z2 z3
        have HS : Hid (ahL (M.take (k + 1)) x = if wayB M[k] x then ahL (M.take k) x ++ [M[k].c] else ahL (M.take k) x) := by
          show _ = _
          rw [List.take_succ_eq_append_getElem hkl, ahL_snoc]
        have HLn : Hid ((ahL (M.take k) x).length ≤ k) := by
          show _ ≤ _
          unfold ahL
          rw [List.length_map]
          exact Nat.le_trans (List.length_filter_le _ _) (by rw [List.length_take]; omega)
        clear hcc; try clear hao
        generalize M[k] = y at *
        generalize hA0 : ahL (M.take k) x = A0 at *
        generalize hA1 : ahL (M.take (k + 1)) x = A1 at *
        have HA1 : Hid (ahL (M.take (k + 1)) x = A1) := hA1
        clear hA0 hA1
        obtain ⟨ln, hln⟩ : ∃ ln, A0.length = ln := ⟨_, rfl⟩
        have HLN : Hid (A0.length = ln) := hln
        rw [hln] at HLn ⊢
        clear hln
        have e0' : decide ((k : Int) < m) = true := by simp; omega
        have hbW : Below wr.heap.size wr (wr.alloc (wtO y)) := (Below.refl _ _).alloc (Nat.le_refl _) _
        have HB1 : Hid (Below w.heap.size w (wr.alloc (wtO y)) ∧ w.heap.size < wr.heap.size) := ⟨below_step hbel hbW, (Array.getElem?_eq_some_iff.1 HX.out).1⟩
        have HY : Hid ((wr.alloc (wtO y)).heap[wr.heap.size]? = some (wtO y)) := heap_alloc_new wr _
        have HXW : Hid ((wr.alloc (wtO y)).heap[w.heap.size]? = some (wtO x)) := (hbW.block _ HB1.out.2).trans HX.out
        have x0 : (wr.alloc (wtO y)).cell? ⟨w.heap.size, 0, none⟩ = some (.int .i64 x.c) := by rw [cell_of_row _ _ _ _ _ _ HXW.out]; rfl
        have x1 : (wr.alloc (wtO y)).cell? ⟨w.heap.size, 1, none⟩ = some (.int .i64 x.p) := by rw [cell_of_row _ _ _ _ _ _ HXW.out]; rfl
        have x2 : (wr.alloc (wtO y)).cell? ⟨w.heap.size, 2, none⟩ = some (.int .i64 x.o) := by rw [cell_of_row _ _ _ _ _ _ HXW.out]; rfl
        have x3 : (wr.alloc (wtO y)).cell? ⟨w.heap.size, 3, none⟩ = some (.bool x.wr) := by rw [cell_of_row _ _ _ _ _ _ HXW.out]; rfl
        have HW : Hid (Calls Tryd.prog 41 #[wtV y, wtV x] (wr.alloc (wtO y)) fun e w' => e = .returned (.bool (wayB y x)) ∧ Below wr.heap.size wr w' ∧ Hid (w'.heap[w.heap.size]? = some (wtO x)) ∧ w'.cell? ⟨wr.heap.size, 0, none⟩ = some (.int .i64 y.c)) := by
          refine (way_any y x _).mono ?_
          rintro e w' ⟨rfl, hb⟩
          refine ⟨rfl, hbW.trans (hb.mono hbW.size), (hb.block _ (by have := HB1.out.2; simp; omega)).trans HXW.out, ?_⟩
          rw [cell_of_row _ _ _ _ _ _ ((hb.block _ (by simp)).trans HY.out)]
          rfl
        cases hwy : wayB y x
        · rw [hwy] at HW HS
          go_wp2_with (first
            | (go_at_call 41; refine HW.out.mono ?_; rintro e w2 ⟨rfl, hb2, HX2, y0⟩)
            | fail)
          go_roundw
          case rel =>
            have e1 : A1 = A0 := by have := HS.out; simpa using this
            have e2 := HLN.out
            exact ⟨k + 1, a, c, by omega, by go_num, by rw [HA1.out, e1, e2], by rw [HA1.out, e1]; exact HO.out.below hb2, below_step hbel hb2, HX2⟩
          case measure => simp [intOf]; omega
        · rw [hwy] at HW HS
          have hln' : ln ≤ 1000000 := by have := HLn.out; omega
          go_wp2_with (first
            | (at_builtin; refine wpList_append_rdI _ rfl _ _ 59 rfl (w.heap.size + 1) 3 .i64 _ 8 Tryd.underlying59 info3 rfl rfl rfl ((HO.out.below hb2).alloc _) (RdI.one w2 3 .i64 y.c) HLN.out rfl (by omega) (by unfold maxLen; omega) (by have := HB1.out.2; have := hb2.size; simp; omega) ?_; intro a3 c3 w3 ho3 hb3)
            | (go_at_call 41; refine HW.out.mono ?_; rintro e w2 ⟨rfl, hb2, HX2, y0⟩)
            | fail)
          go_roundw
          case rel =>
            have e1 : A1 = A0 ++ [y.c] := by have := HS.out; simpa using this
            have e2 := HLN.out
            have hb23 : Below (w.heap.size + 1) w2 w3 := ((Below.refl _ _).alloc (by have := HB1.out.2; have := hb2.size; omega) _).trans hb3
            exact ⟨k + 1, a3, c3, by omega, by go_num, by rw [HA1.out, e1, List.length_append, e2]; rfl, by rw [HA1.out, e1]; exact ho3, (below_step hbel hb2).trans (hb23.mono (by omega)), (hb23.block _ (by omega)).trans HX2.out⟩
          case measure => simp [intOf]; omega
      · obtain rfl : k = m := by omega
        have e0' : decide ((k : Int) < k) = false := by simp
        have e9 : M.take k = M := List.take_of_length_le (by have := HM.out.2; omega)
        rw [e9] at HO ⊢
        go_wp2
        go_ret
        exact ⟨a, c, rfl, HO.out.mono (by omega), hbel⟩
  · obtain ⟨hnm, rfl⟩ := hz2 hz0
    rw [hnm] at h0
    clear hnm
    clear hz1 hz2
    go_enter Tryd.func26, Tryd.ntmps26
    go_wp2_with (first
      | (go_at_call 32; refine HP.out.mono ?_; rintro e w1 ⟨rfl, hb1, hx1⟩)
      | fail)
    go_loopw [7, 25] (fun v i wr => ∃ (k : Nat) (a : Option Addr) (c : Nat), k ≤ m ∧ i = .int .i64 k ∧ v = .slice a (ahL (M.take k) x).length c ∧ Hid (OwnI wr (w.heap.size + 1) 3 .i64 a c (ahL (M.take k) x)) ∧ Below w.heap.size w wr ∧ Hid (wr.heap[w.heap.size]? = some (wtO x))) (fun _ i _ => m - (intOf i).toNat)
    case atStart => exact ⟨0, none, 0, Nat.zero_le _, rfl, rfl, OwnI.nil _ _ _ _, hb1, hx1⟩
    case round =>
      clear hb1 hx1
      obtain ⟨k, a, c, hk, rfl, rfl, HO, hbel, HX⟩ := hrel
      rename World => wr
      by_cases hlt : k < m
      · have hkl : k < M.length := by have := HM.out.2; omega
        obtain ⟨bk, off, hao, -, hcc⟩ := (HM.out.1.below hbel).at wtE hkl
        obtain ⟨z0, z1, z2, z3⟩ := wtIn _ _ _ _ hcc
        subst hao
        have HS : Hid (ahL (M.take (k + 1)) x = if wayB M[k] x then ahL (M.take k) x ++ [M[k].c] else ahL (M.take k) x) := by
          show _ = _
          rw [List.take_succ_eq_append_getElem hkl, ahL_snoc]
        have HLn : Hid ((ahL (M.take k) x).length ≤ k) := by
          show _ ≤ _
          unfold ahL
          rw [List.length_map]
          exact Nat.le_trans (List.length_filter_le _ _) (by rw [List.length_take]; omega)
        clear hcc; try clear hao
        generalize M[k] = y at *
        generalize hA0 : ahL (M.take k) x = A0 at *
        generalize hA1 : ahL (M.take (k + 1)) x = A1 at *
        have HA1 : Hid (ahL (M.take (k + 1)) x = A1) := hA1
        clear hA0 hA1
        obtain ⟨ln, hln⟩ : ∃ ln, A0.length = ln := ⟨_, rfl⟩
        have HLN : Hid (A0.length = ln) := hln
        rw [hln] at HLn ⊢
        clear hln
        have e0' : decide ((k : Int) < m) = true := by simp; omega
        have hbW : Below wr.heap.size wr (wr.alloc (wtO y)) := (Below.refl _ _).alloc (Nat.le_refl _) _
        have HB1 : Hid (Below w.heap.size w (wr.alloc (wtO y)) ∧ w.heap.size < wr.heap.size) := ⟨below_step hbel hbW, (Array.getElem?_eq_some_iff.1 HX.out).1⟩
        have HY : Hid ((wr.alloc (wtO y)).heap[wr.heap.size]? = some (wtO y)) := heap_alloc_new wr _
        have HXW : Hid ((wr.alloc (wtO y)).heap[w.heap.size]? = some (wtO x)) := (hbW.block _ HB1.out.2).trans HX.out
        have x0 : (wr.alloc (wtO y)).cell? ⟨w.heap.size, 0, none⟩ = some (.int .i64 x.c) := by rw [cell_of_row _ _ _ _ _ _ HXW.out]; rfl
        have x1 : (wr.alloc (wtO y)).cell? ⟨w.heap.size, 1, none⟩ = some (.int .i64 x.p) := by rw [cell_of_row _ _ _ _ _ _ HXW.out]; rfl
        have x2 : (wr.alloc (wtO y)).cell? ⟨w.heap.size, 2, none⟩ = some (.int .i64 x.o) := by rw [cell_of_row _ _ _ _ _ _ HXW.out]; rfl
        have x3 : (wr.alloc (wtO y)).cell? ⟨w.heap.size, 3, none⟩ = some (.bool x.wr) := by rw [cell_of_row _ _ _ _ _ _ HXW.out]; rfl
        have HW : Hid (Calls Tryd.prog 41 #[wtV y, wtV x] (wr.alloc (wtO y)) fun e w' => e = .returned (.bool (wayB y x)) ∧ Below wr.heap.size wr w' ∧ Hid (w'.heap[w.heap.size]? = some (wtO x)) ∧ w'.cell? ⟨wr.heap.size, 0, none⟩ = some (.int .i64 y.c)) := by
          refine (way_any y x _).mono ?_
          rintro e w' ⟨rfl, hb⟩
          refine ⟨rfl, hbW.trans (hb.mono hbW.size), (hb.block _ (by have := HB1.out.2; simp; omega)).trans HXW.out, ?_⟩
          rw [cell_of_row _ _ _ _ _ _ ((hb.block _ (by simp)).trans HY.out)]
          rfl
        cases hwy : wayB y x
        · rw [hwy] at HW HS
          go_wp2_with (first
            | (go_at_call 41; refine HW.out.mono ?_; rintro e w2 ⟨rfl, hb2, HX2, y0⟩)
            | fail)
          go_roundw
          case rel =>
            have e1 : A1 = A0 := by have := HS.out; simpa using this
            have e2 := HLN.out
            exact ⟨k + 1, a, c, by omega, by go_num, by rw [HA1.out, e1, e2], by rw [HA1.out, e1]; exact HO.out.below hb2, below_step hbel hb2, HX2⟩
          case measure => simp [intOf]; omega
        · rw [hwy] at HW HS
          have hln' : ln ≤ 1000000 := by have := HLn.out; omega
          go_wp2_with (first
            | (at_builtin; refine wpList_append_rdI _ rfl _ _ 59 rfl (w.heap.size + 1) 3 .i64 _ 8 Tryd.underlying59 info3 rfl rfl rfl ((HO.out.below hb2).alloc _) (RdI.one w2 3 .i64 y.c) HLN.out rfl (by omega) (by unfold maxLen; omega) (by have := HB1.out.2; have := hb2.size; simp; omega) ?_; intro a3 c3 w3 ho3 hb3)
            | (go_at_call 41; refine HW.out.mono ?_; rintro e w2 ⟨rfl, hb2, HX2, y0⟩)
            | fail)
          go_roundw
          case rel =>
            have e1 : A1 = A0 ++ [y.c] := by have := HS.out; simpa using this
            have e2 := HLN.out
            have hb23 : Below (w.heap.size + 1) w2 w3 := ((Below.refl _ _).alloc (by have := HB1.out.2; have := hb2.size; omega) _).trans hb3
            exact ⟨k + 1, a3, c3, by omega, by go_num, by rw [HA1.out, e1, List.length_append, e2]; rfl, by rw [HA1.out, e1]; exact ho3, (below_step hbel hb2).trans (hb23.mono (by omega)), (hb23.block _ (by omega)).trans HX2.out⟩
          case measure => simp [intOf]; omega
      · obtain rfl : k = m := by omega
        have e0' : decide ((k : Int) < k) = false := by simp
        have e9 : M.take k = M := List.take_of_length_le (by have := HM.out.2; omega)
        rw [e9] at HO ⊢
        go_wp2
        go_ret
        exact ⟨a, c, rfl, HO.out.mono (by omega), hbel⟩

end Go.Proofs.YtllggjkhbecalaaDoor
