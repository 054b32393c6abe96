/- A crash keeps just the sectors whose bits are there: the walk. -/
import Derived.Test.YtnapkcejpllmcaaKp
import Derived.Test.YtnapkcejpllmcaaMm
import Derived.WalkSmall
namespace Go.Proofs.Ytnapkcejpllmcaa
open Go.RowKit
set_option linter.unusedVariables false

/-- Slices lie in a block. -/
structure PtAt (w : World) (p : Nat) (T : List Pt) : Prop where
  c : ∀ i (h : i < T.length), w.cell? ⟨p, i, none⟩ = some (.slice T[i].ao T[i].n T[i].cap)
  lt : p < w.heap.size

theorem PtAt.block {w w' : World} {p : Nat} {T : List Pt} (h : PtAt w p T) (hb : w'.heap[p]? = w.heap[p]?) (hs : w.heap.size ≤ w'.heap.size) : PtAt w' p T :=
  ⟨fun i hi => (World.cell?_of_block (w := w) hb).trans (h.c i hi), Nat.lt_of_lt_of_le h.lt hs⟩
theorem PtAt.below {w w' : World} {p B : Nat} {T : List Pt} (h : PtAt w p T) (hb : Below B w w') (hB : p < B) : PtAt w' p T := h.block (hb.block p hB) hb.size

theorem PtAt.new (w : World) (t : TypeId) (xs : Array Value) (T : List Pt) (h : xs.toList = T.map Pt.val) : PtAt (w.alloc (.cells xs t)) w.heap.size T := by
  have hh := heap_alloc_new w (.cells xs t)
  refine ⟨fun i hi => ?_, by simp⟩
  rw [cell_of_row _ _ _ _ _ _ hh, ← Array.getElem?_toList, h]
  simp [hi, Pt.val]

theorem loose_none (L : List Sec) (k : Nat) (h : ∀ x ∈ L, x.l = false) : (looseK L k).length = 0 := by
  unfold looseK
  rw [List.length_map, List.length_eq_zero_iff, List.filter_eq_nil_iff]
  intro i _
  cases hx : L[i]? with
  | none => simp
  | some x =>
    have := h x (List.mem_of_getElem? hx)
    simp [this]

theorem fate_l (keep : Int) (i : Nat) (x : Sec) : (fate keep i x).l = false := by unfold fate; split <;> rfl

theorem crash_l (keep : Int) (L : List Sec) : ∀ x ∈ L.mapIdx (fate keep), x.l = false := by
  intro x hx
  obtain ⟨i, hi, rfl⟩ := List.getElem_of_mem hx
  rw [List.getElem_mapIdx]; exact fate_l _ _ _

set_option maxRecDepth 100000 in
set_option maxHeartbeats 6400000 in
theorem mask_walk (x0 x1 x2 x3 x4 x5 y0 y1 y2 y3 y4 y5 : Pt) (T M : List Pt) (eT : T = [x0, x1, x2, x3, x4, x5]) (eM : M = [y0, y1, y2, y3, y4, y5]) (keep : Int) (w : World)
    (hT : ∀ p ∈ T, Rd8 w p.ao p.n p.cap p.bs) (hM : ∀ p ∈ M, Rd8 w p.ao p.n p.cap p.bs) :
    Calls Try.prog 7 #[.agg #[.slice x0.ao x0.n x0.cap, .slice x1.ao x1.n x1.cap, .slice x2.ao x2.n x2.cap, .slice x3.ao x3.n x3.cap, .slice x4.ao x4.n x4.cap, .slice x5.ao x5.n x5.cap],
      .agg #[.slice y0.ao y0.n y0.cap, .slice y1.ao y1.n y1.cap, .slice y2.ao y2.n y2.cap, .slice y3.ao y3.n y3.cap, .slice y4.ao y4.n y4.cap, .slice y5.ao y5.n y5.cap], .int .i64 keep] w fun e w' => e = .returned (.bool true) ∧ Below w.heap.size w w' := by
  have HT : Hid (∀ p ∈ T, Rd8 w p.ao p.n p.cap p.bs) := hT
  have HM : Hid (∀ p ∈ M, Rd8 w p.ao p.n p.cap p.bs) := hM
  have hTl : T.length = 6 := by rw [eT]; rfl
  have hMl : M.length = 6 := by rw [eM]; rfl
  have qT := PtAt.new w 56 #[.slice x0.ao x0.n x0.cap, .slice x1.ao x1.n x1.cap, .slice x2.ao x2.n x2.cap, .slice x3.ao x3.n x3.cap, .slice x4.ao x4.n x4.cap, .slice x5.ao x5.n x5.cap] T (by rw [eT]; rfl)
  have qM := PtAt.new (w.alloc (.cells #[.slice x0.ao x0.n x0.cap, .slice x1.ao x1.n x1.cap, .slice x2.ao x2.n x2.cap, .slice x3.ao x3.n x3.cap, .slice x4.ao x4.n x4.cap, .slice x5.ao x5.n x5.cap] 56)) 56 #[.slice y0.ao y0.n y0.cap, .slice y1.ao y1.n y1.cap, .slice y2.ao y2.n y2.cap, .slice y3.ao y3.n y3.cap, .slice y4.ao y4.n y4.cap, .slice y5.ao y5.n y5.cap] M (by rw [eM]; rfl)
  have qT := qT.below ((Below.refl _ _).alloc (Nat.le_refl _) (.cells #[.slice y0.ao y0.n y0.cap, .slice y1.ao y1.n y1.cap, .slice y2.ao y2.n y2.cap, .slice y3.ao y3.n y3.cap, .slice y4.ao y4.n y4.cap, .slice y5.ao y5.n y5.cap] 56)) (by simp)
  simp only [World.size_alloc] at qM
  clear hT hM eT eM
  go_enter Try.func7, Try.ntmps7
  go_wp2_with (first
    | (go_at_call 10; refine (alive_any _).mono ?_; rintro e w1 ⟨rfl, hb1⟩; have hs1 := hb1.size; simp at hs1; have hT1 := qT.below hb1 (by simp; omega); have hM1 := qM.below hb1 (by simp); clear qT qM; have hB1 : Below w.heap.size w w1 := below_alloc (below_alloc (hb1.mono (by simp)) |>.mono (by simp)))
    | (go_at_call 8; refine (new_any 6 _).mono ?_; rintro e w2 ⟨rfl, hD2, hS2, hb2⟩; have hD2 : Drv w2 w1.heap.size (fun k => w1.heap.size + 2 ≤ k) (List.replicate 6 Sec.e) := hD2 _ (by omega); have hs2 : w1.heap.size + 2 ≤ w2.heap.size := (by omega); clear hS2))
  have hB2 : Below w.heap.size w w2 := below_step hB1 hb2
  go_loopw [18] (fun t wr => ∃ (k : Nat) (L : List Sec), k ≤ 6 ∧ t = .int .i64 k ∧ Hid (L.length = 6 ∧ (∀ j (h : j < L.length) (h2 : j < T.length), j < k → L[j].b = T[j].bs) ∧ (∀ j (h : j < T.length) (h2 : j < M.length), j < k → T[j].n ≤ 100 ∧ M[j].n ≤ 100)) ∧ Drv wr w1.heap.size (fun k => w1.heap.size + 2 ≤ k) L ∧ PtAt wr w.heap.size T ∧ PtAt wr (w.heap.size + 1) M ∧ Below w.heap.size w wr ∧ w1.heap.size + 2 ≤ wr.heap.size) (fun t _ => 6 - (intOf t).toNat)
  case atStart => exact ⟨0, _, Nat.zero_le _, rfl, ⟨by simp, fun j _ _ hj => by omega, fun j _ _ hj => by omega⟩, hD2, hT1.below hb2 (by omega), hM1.below hb2 (by omega), hB2, hs2⟩
  case round =>
    obtain ⟨k, L, hk, rfl, HI, hD, hT, hM, hbel, hsz⟩ := hrel
    have hLl := HI.out.1
    by_cases hlt : k < 6
    · have hct := hT.c k (by omega)
      have hcm := hM.c k (by omega)
      have hct2 := (hT.below ((Below.refl _ _).alloc (Nat.le_refl _) (.cells #[] 5)) hT.lt).c k (by omega)
      have hRt := (HT.out _ (List.getElem_mem (show k < T.length by omega))).below hbel
      generalize hte : T[k] = tk at *
      generalize hme : M[k] = mk at *
      have hlt6 : (k : Int) < 6 := by omega
      have HTe : Hid (T[k] = tk) := hte
      have HMe : Hid (M[k] = mk) := hme
      clear hte hme
      have htl := hRt.len
      by_cases h1 : tk.n ≤ 100
      · by_cases h2 : mk.n ≤ 100
        · go_wp2_with (first
            | (at_builtin; refine wpList_append_rdI _ rfl (.tmp 35) (.tmp 38) 22 rfl wr.heap.size 5 .u8 (.int .u8 0) 1 Try.underlying22 info5 rfl rfl rfl (OwnI.fresh wr _ _ _ (Nat.le_refl _)) (hRt.alloc _).rd rfl (by rw [ci_length]; exact htl) (by omega) (by unfold maxLen; omega) (by simp) ?_; intro ao3 cap3 w3 ho3 hb3; have hO3 := Own8.mk ho3 htl hRt.byte; have hB3 : Below wr.heap.size wr w3 := below_alloc hb3; have hs3 := hB3.size)
            | (go_at_call 13; refine (write_okB _ _ L k _ _ _ tk.bs w3 (hD.below hB3) (by omega) hO3.rd h1 (by omega)).mono ?_; rintro e w4 ⟨rfl, hD4, hO4⟩; have hs4 := hO4.size))
          have hB4 : Below w.heap.size w w4 := below_off (below_step hbel hB3) hO4 (by omega) (by omega)
          have hB4' : Below w1.heap.size wr w4 := (hB3.mono (by omega)).trans (hO4.below (Nat.le_refl _) (by omega))
          go_roundw
          case rel =>
            refine ⟨k + 1, _, by omega, by go_num, ⟨by simp; omega, fun j hj hj2 hjk => ?_, fun j hj hj2 hjk => ?_⟩, hD4, hT.below hB4' (by omega), hM.below hB4' (by omega), hB4, by omega⟩
            · rw [List.getElem_set]
              split
              · rename_i e; subst e; rw [HTe.out]; rfl
              · exact HI.out.2.1 j _ hj2 (by omega)
            · by_cases e : j = k
              · subst e; rw [HTe.out, HMe.out]; exact ⟨h1, h2⟩
              · exact HI.out.2.2 j hj hj2 (by omega)
          case measure => simp [intOf]; omega
        · go_wp2
          go_ret
          exact ⟨rfl, hbel⟩
      · go_wp2
        go_ret
        exact ⟨rfl, hbel⟩
    · go_wp2_with (go_at_call 15; refine (sync_any _ _ L _ hD).mono ?_; rintro e w3 ⟨rfl, hD3, hO3, hS3⟩; have hs3 := hO3.size; clear hS3)
      have hk6 : k = 6 := by omega
      have hB3 : Below w.heap.size w w3 := below_off hbel hO3 (by omega) (by omega)
      have hB3' : Below w1.heap.size wr w3 := hO3.below (Nat.le_refl _) (by omega)
      have hT3 := hT.below hB3' (by omega)
      have hM3 := hM.below hB3' (by omega)
      have HN : Hid (∀ j (h : j < T.length) (h2 : j < M.length), T[j].n ≤ 100 ∧ M[j].n ≤ 100) := fun j h h2 => HI.out.2.2 j h h2 (by omega)
      have HJ : Hid (∀ j (h : j < L.length) (h2 : j < T.length), L[j].b = T[j].bs) := fun j h h2 => HI.out.2.1 j h h2 (by omega)
      clear hk6
      go_loopw [44] (fun t wr => ∃ (k : Nat) (X : List Sec), k ≤ 6 ∧ t = .int .i64 k ∧ Hid (X.length = 6 ∧ (∀ j (h : j < X.length) (h2 : j < T.length) (h3 : j < M.length), X[j].s = T[j].bs ∧ X[j].b = if j < k ∧ 0 < M[j].n then M[j].bs else T[j].bs)) ∧ Drv wr w1.heap.size (fun k => w1.heap.size + 2 ≤ k) X ∧ PtAt wr w.heap.size T ∧ PtAt wr (w.heap.size + 1) M ∧ Below w.heap.size w wr ∧ w1.heap.size + 2 ≤ wr.heap.size) (fun t _ => 6 - (intOf t).toNat)
      case atStart => exact ⟨0, _, Nat.zero_le _, rfl, ⟨by simp; omega, fun j h h2 h3 => by simp only [List.getElem_mapIdx, Sec.settle]; simp; exact HJ.out j (by simpa using h) h2⟩, hD3, hT3, hM3, hB3, by omega⟩
      case round =>
        obtain ⟨k2, X, hk2, rfl, HX, hDx, hTx, hMx, hbx, hsx⟩ := hrel
        have hXl := HX.out.1
        by_cases hlt2 : k2 < 6
        · have hcm := hMx.c k2 (by omega)
          have hcm2 := (hMx.below ((Below.refl _ _).alloc (Nat.le_refl _) (.cells #[] 5)) hMx.lt).c k2 (by omega)
          have hRm := (HM.out _ (List.getElem_mem (show k2 < M.length by omega))).below hbx
          have hm100 := (HN.out k2 (by omega) (by omega)).2
          generalize hme : M[k2] = mk at *
          have hlt6 : (k2 : Int) < 6 := by omega
          have HMe : Hid (M[k2] = mk) := hme
          clear hme
          have hml := hRm.len
          by_cases h0 : 0 < mk.n
          · go_wp2_with (first
              | (at_builtin; refine wpList_append_rdI _ rfl (.tmp 54) (.tmp 57) 22 rfl wr.heap.size 5 .u8 (.int .u8 0) 1 Try.underlying22 info5 rfl rfl rfl (OwnI.fresh wr _ _ _ (Nat.le_refl _)) (hRm.alloc _).rd rfl (by rw [ci_length]; exact hml) (by omega) (by unfold maxLen; omega) (by simp) ?_; intro ao4 cap4 w4 ho4 hb4; have hO4 := Own8.mk ho4 hml hRm.byte; have hB4 : Below wr.heap.size wr w4 := below_alloc hb4; have hs4 := hB4.size)
              | (go_at_call 13; refine (write_okB _ _ X k2 _ _ _ mk.bs w4 (hDx.below hB4) (by omega) hO4.rd hm100 (by omega)).mono ?_; rintro e w5 ⟨rfl, hD5, hO5⟩; have hs5 := hO5.size))
            have hB5 : Below w.heap.size w w5 := below_off (below_step hbx hB4) hO5 (by omega) (by omega)
            have hB5' : Below w1.heap.size wr w5 := (hB4.mono (by omega)).trans (hO5.below (Nat.le_refl _) (by omega))
            go_roundw
            case rel =>
              refine ⟨k2 + 1, _, by omega, by go_num, ⟨by simp; omega, fun j hj hj2 hj3 => ?_⟩, hD5, hTx.below hB5' (by omega), hMx.below hB5' (by omega), hB5, by omega⟩
              rw [List.getElem_set]
              split
              · rename_i e; subst e
                obtain ⟨q1, q2⟩ := HX.out.2 k2 (by omega) hj2 hj3
                refine ⟨q1, ?_⟩
                rw [HMe.out, if_pos ⟨by omega, h0⟩]; rfl
              · rename_i e
                obtain ⟨q1, q2⟩ := HX.out.2 j (by simpa using hj) hj2 hj3
                refine ⟨q1, ?_⟩
                rw [q2]
                have : (j < k2 ∧ 0 < M[j].n) ↔ (j < k2 + 1 ∧ 0 < M[j].n) := by constructor <;> (rintro ⟨h1, h2⟩; exact ⟨by omega, h2⟩)
                simp only [this]
            case measure => simp [intOf]; omega
          · go_wp2
            go_roundw
            case rel =>
              refine ⟨k2 + 1, X, by omega, by go_num, ⟨hXl, fun j hj hj2 hj3 => ?_⟩, hDx, hTx, hMx, hbx, hsx⟩
              obtain ⟨q1, q2⟩ := HX.out.2 j hj hj2 hj3
              refine ⟨q1, ?_⟩
              rw [q2]
              by_cases e : j = k2
              · subst e; rw [HMe.out, if_neg (by omega), if_neg (by omega)]
              · have : (j < k2 ∧ 0 < M[j].n) ↔ (j < k2 + 1 ∧ 0 < M[j].n) := by constructor <;> (rintro ⟨h1, h2⟩; exact ⟨by omega, h2⟩)
                simp only [this]
            case measure => simp [intOf]; omega
        · go_wp2_with (go_at_call 17; refine (crash_any _ _ X keep _ hDx).mono ?_; rintro e w4 ⟨rfl, hD4, hO4⟩; have hs4 := hO4.size)
          have hB4 : Below w.heap.size w w4 := below_off hbx hO4 (by omega) (by omega)
          have hB4' : Below w1.heap.size wr w4 := hO4.below (Nat.le_refl _) (by omega)
          have hT4 := hTx.below hB4' (by omega)
          have hM4 := hMx.below hB4' (by omega)
          have hYl : (X.mapIdx (fate keep)).length = 6 := by simp; exact hXl
          have HY : Hid (∀ j (h : j < (X.mapIdx (fate keep)).length) (h2 : j < T.length) (h3 : j < M.length), (X.mapIdx (fate keep))[j].b = if 0 < M[j].n ∧ bits .and .i64 keep ((2 : Int) ^ j) ≠ 0 then M[j].bs else T[j].bs) := by
            intro j h h2 h3
            obtain ⟨q1, q2⟩ := HX.out.2 j (by omega) h2 h3
            rw [List.getElem_mapIdx]
            unfold fate
            have hkb := kbit_iff keep j (by omega)
            cases hb : kbit keep j
            · rw [hb] at hkb
              simp only [Bool.false_eq_true, false_iff, Decidable.not_not] at hkb
              rw [if_neg (by simp), if_neg (by rw [hkb]; simp)]
              exact q1
            · rw [hb] at hkb
              simp only [true_iff] at hkb
              rw [if_pos rfl]
              simp only [Sec.settle]
              rw [q2]
              have : (j < k2 ∧ 0 < M[j].n) ↔ (0 < M[j].n ∧ bits .and .i64 keep ((2 : Int) ^ j) ≠ 0) := by
                constructor
                · rintro ⟨_, h⟩; exact ⟨h, hkb⟩
                · rintro ⟨h, _⟩; exact ⟨by omega, h⟩
              simp only [this]
          have HLo : Hid (∀ x ∈ X.mapIdx (fate keep), x.l = false) := crash_l keep X
          generalize X.mapIdx (fate keep) = Y at *
          go_wp2
          go_loopw [10, 64] (fun bt t wr => ∃ (k : Nat) (z : Int), k ≤ 6 ∧ t = .int .i64 k ∧ bt = .int .i64 z ∧ Hid (z = (2 : Int) ^ k) ∧ Below w4.heap.size w4 wr) (fun _ t _ => 6 - (intOf t).toNat)
          case atStart => exact ⟨0, 1, Nat.zero_le _, rfl, rfl, rfl, Below.refl _ _⟩
          case round =>
            obtain ⟨k3, z, hk3, rfl, rfl, HZ, hb3⟩ := hrel
            have hDq := hD4.below hb3
            have hTq := hT4.below hb3 hT4.lt
            have hMq := hM4.below hb3 hM4.lt
            by_cases hlt3 : k3 < 6
            · have hlt6 : (k3 : Int) < 6 := by omega
              have hyb := HY.out k3 (by omega) (by omega) (by omega)
              rw [← HZ.out] at hyb
              have hzw : IntKind.i64.wrap (z * 2) = z * 2 := by
                rw [HZ.out, IntKind.wrap_i64]
                obtain rfl | rfl | rfl | rfl | rfl | rfl : k3 = 0 ∨ k3 = 1 ∨ k3 = 2 ∨ k3 = 3 ∨ k3 = 4 ∨ k3 = 5 := by omega
                all_goals decide
              have hzn : z * 2 = (2 : Int) ^ (k3 + 1) := by rw [HZ.out, Int.pow_succ]
              have HZN : Hid (z * 2 = (2 : Int) ^ (k3 + 1)) := hzn
              clear hzn
              by_cases hm0 : 0 < M[k3].n
              · by_cases hz0 : bits .and .i64 keep z = 0
                · rw [if_neg (by rintro ⟨_, h⟩; exact h hz0)] at hyb
                  go_wp2_with (go_at_call 9; refine (read_ok _ _ Y k3 _ hDq (by omega)).mono ?_; rintro e w5 ⟨ao5, n5, cap5, rfl, ho5, hn5, hb5⟩; rw [hyb] at ho5; have hB5 := below_step hb3 hb5; have hB5w := below_step hB4 hB5; have hct := (hT4.below hB5 hT4.lt).c k3 (by omega); have hcm := (hM4.below hB5 hM4.lt).c k3 (by omega); have hx5 := ho5.rd.str; have hxt := ((HT.out _ (List.getElem_mem (show k3 < T.length by omega))).below hB5w).str; have hxm := ((HM.out _ (List.getElem_mem (show k3 < M.length by omega))).below hB5w).str)
                  go_roundw
                  case rel => exact ⟨k3 + 1, z * 2, by omega, by go_num, rfl, HZN, hB5⟩
                  case measure => simp [intOf]; omega
                · rw [if_pos ⟨hm0, hz0⟩] at hyb
                  have hz0' : (bits .and .i64 keep z == 0) = false := by simpa using hz0
                  go_wp2_with (go_at_call 9; refine (read_ok _ _ Y k3 _ hDq (by omega)).mono ?_; rintro e w5 ⟨ao5, n5, cap5, rfl, ho5, hn5, hb5⟩; rw [hyb] at ho5; have hB5 := below_step hb3 hb5; have hB5w := below_step hB4 hB5; have hct := (hT4.below hB5 hT4.lt).c k3 (by omega); have hcm := (hM4.below hB5 hM4.lt).c k3 (by omega); have hx5 := ho5.rd.str; have hxt := ((HT.out _ (List.getElem_mem (show k3 < T.length by omega))).below hB5w).str; have hxm := ((HM.out _ (List.getElem_mem (show k3 < M.length by omega))).below hB5w).str)
                  go_roundw
                  case rel => exact ⟨k3 + 1, z * 2, by omega, by go_num, rfl, HZN, hB5⟩
                  case measure => simp [intOf]; omega
              · rw [if_neg (by rintro ⟨h, _⟩; exact hm0 h)] at hyb
                go_wp2_with (go_at_call 9; refine (read_ok _ _ Y k3 _ hDq (by omega)).mono ?_; rintro e w5 ⟨ao5, n5, cap5, rfl, ho5, hn5, hb5⟩; rw [hyb] at ho5; have hB5 := below_step hb3 hb5; have hB5w := below_step hB4 hB5; have hct := (hT4.below hB5 hT4.lt).c k3 (by omega); have hcm := (hM4.below hB5 hM4.lt).c k3 (by omega); have hx5 := ho5.rd.str; have hxt := ((HT.out _ (List.getElem_mem (show k3 < T.length by omega))).below hB5w).str; have hxm := ((HM.out _ (List.getElem_mem (show k3 < M.length by omega))).below hB5w).str)
                go_roundw
                case rel => exact ⟨k3 + 1, z * 2, by omega, by go_num, rfl, HZN, hB5⟩
                case measure => simp [intOf]; omega
            · go_wp2_with (go_at_call 23; refine (loose_n _ _ Y _ 0 hDq (loose_none _ _ HLo.out)).mono ?_; rintro e w5 ⟨ao5, cap5, rfl, _, hb5⟩)
              go_ret
              exact ⟨rfl, below_step (below_step hB4 hb3) hb5⟩

end Go.Proofs.Ytnapkcejpllmcaa
