/- Out and Gone of package queue, walked. -/
import Derived.Test.YtcjajckmcikhcaaQ5
namespace Go.Proofs.Ytcjajckmcikhcaa
open Go.RowKit Go.Maps
set_option linter.unusedVariables false

/-- Is a holder out for something of a page? -/
def outP (C : Cl) (h p : Int) : Prop := ∃ k : Wt, C k = some false ∧ k.c = h ∧ k.p = p
open Classical in
noncomputable def outB (C : Cl) (h p : Int) : Bool := decide (outP C h p)

theorem outB_true {C : Cl} {h p : Int} (x : outP C h p) : outB C h p = true := by classical exact decide_eq_true x
theorem outB_false {C : Cl} {h p : Int} (x : ¬ outP C h p) : outB C h p = false := by classical exact decide_eq_false x

set_option maxHeartbeats 1600000 in
theorem out_any (w : World) (A : Nat → Prop) (q : Nat) (L : List Wt) (C : Cl) (n : Nat) (H : Qw w A q L C n) (h p : Int) :
    Calls Try.prog 26 #[qp q, .int .i64 h, .int .i64 p] w fun e w' => e = .returned (.bool (outB C h p)) ∧ Below w.heap.size w w' := by
  obtain ⟨ao, cap, b, H⟩ := H
  have h1 := H.c1
  have HM : Hid (MapC w b n C ∧ b < w.heap.size) := ⟨H.map, H.map.lt⟩
  clear H
  go_enter Try.func26, Try.ntmps26
  go_wp2_with (first
    | (at_range; refine wpList_range_C _ rfl _ rfl rfl HM.out.1 ?_; intro w1 cnt1 hr1 hb1 hs1)
    | fail)
  go_frame
  go_loopw [15] (fun _ wr => ∃ (lf : Wt → Bool) (cnt : Nat), Hid (RanC wr b w.heap.size n C lf cnt ∧ ∀ k, C k = some false → k.c = h → k.p = p → lf k = true) ∧ Below w.heap.size w wr) (fun _ wr => wr.rangeLeft b w.heap.size)
  case atStart => exact ⟨_, cnt1, ⟨hr1, fun k hk _ _ => by simp [hk]⟩, hb1⟩
  case round =>
    clear hr1 hb1 hs1
    obtain ⟨lf, cnt, HR, hbel⟩ := hrel
    rename World => wr
    go_wp2_with (first
      | (at_next; refine wpList_next_C _ rfl _ rfl rfl HR.out.1 ?_ ?_)
      | fail)
    · intro hl0
      have HL : Hid (∀ k, lf k = false) := hl0
      clear hl0
      go_wp2
      go_ret
      refine ⟨ret_bool (Eq.symm (outB_false ?_)), hbel⟩
      rintro ⟨k, hk1, hk2, hk3⟩
      have := HR.out.2 k hk1 hk2 hk3
      rw [HL.out k] at this
      cases this
    · intro k c w2 cnt2 hok hlf hc hcu hr2 hlt hg2 hs2 hen
      have HK : Hid (k.ok ∧ lf k = true ∧ C k = some (decide (c = 1)) ∧ (c = 0 ∨ c = 1) ∧ RanC w2 b w.heap.size n C (strike lf k) cnt2 ∧ cnt2 < cnt) := ⟨hok, hlf, hcu, hc, hr2, hlt⟩
      have hb2 : Below w.heap.size w w2 := hbel.grown hg2 hbel.size (fun j hj => by cases hj; exact Nat.le_refl _)
      have HQ : Hid (∀ j, C j = some false → j.c = h → j.p = p → lf j = true) := HR.out.2
      have HLt : Hid (wr.rangeLeft b w.heap.size = cnt) := HR.out.1.left_eq
      have HB2 : Hid (Below w.heap.size w w2 ∧ b < w.heap.size ∧ w.heap.size < w2.heap.size) := ⟨hb2, HM.out.2, hr2.lt⟩
      have HS : Hid (∀ V : World, Below w2.heap.size w2 V → (k.c ≠ h ∨ k.p ≠ p ∨ c = 1) → (RanC V b w.heap.size n C (strike lf k) cnt2 ∧ ∀ j, C j = some false → j.c = h → j.p = p → strike lf k j = true)) := fun V hV hne => by
        refine ⟨hr2.kept hV.size (hV.block _ (by have := HB2.out; omega)) (hV.block _ HB2.out.2.2), fun j h1 h2 h3 => ?_⟩
        unfold strike
        rw [HQ.out j h1 h2 h3]
        have : ¬ (j.c = k.c ∧ j.p = k.p ∧ j.o = k.o ∧ j.wr = k.wr) := by
          intro e
          have e' := wt_eq.1 e
          subst e'
          rw [hcu] at h1
          rcases hne with e1 | e1 | e1
          · exact e1 h2
          · exact e1 h3
          · rw [e1] at h1; cases h1
        simp [this]
      clear hok hlf hcu hr2 hlt hg2 hs2 hb2 HR
      obtain ⟨kc, kp, ko, kw⟩ := k
      simp only [wtV] at hen
      have hbA : Below w2.heap.size w2 (w2.alloc (caO ⟨kc, kp, ko, kw⟩)) := (Below.refl _ _).alloc (Nat.le_refl _) _
      have HBA : Hid (Below w2.heap.size w2 (w2.alloc (caO ⟨kc, kp, ko, kw⟩)) ∧ Below w.heap.size w (w2.alloc (caO ⟨kc, kp, ko, kw⟩))) := ⟨hbA, below_step HB2.out.1 hbA⟩
      clear hbA
      cases e1 : (kc == h)
      · have hn9 : kc ≠ h := by simpa using e1
        have HN : Hid (kc ≠ h) := hn9
        clear hn9
        clear hc
        go_wp2
        go_roundw
        case rel => exact ⟨_, cnt2, HS.out _ HBA.out.1 (.inl HN.out), HBA.out.2⟩
        case measure => rw [(HS.out _ HBA.out.1 (.inl HN.out)).1.left_eq, HLt.out]; exact HK.out.2.2.2.2.2
      · have hn9 : kc = h := by simpa using e1
        have HE1 : Hid (kc = h) := hn9
        clear hn9
        cases e2 : (kp == p)
        · have hn9 : kp ≠ p := by simpa using e2
          have HN : Hid (kp ≠ p) := hn9
          clear hn9
          clear hc
          go_wp2
          go_roundw
          case rel => exact ⟨_, cnt2, HS.out _ HBA.out.1 (.inr (.inl HN.out)), HBA.out.2⟩
          case measure => rw [(HS.out _ HBA.out.1 (.inr (.inl HN.out))).1.left_eq, HLt.out]; exact HK.out.2.2.2.2.2
        · have hn9 : kp = p := by simpa using e2
          have HE2 : Hid (kp = p) := hn9
          clear hn9
          rcases hc with hc0 | hc0
          · have hc1 : (c == 0) = true := by rw [hc0]; rfl
            have HO : Hid (outP C h p) := ⟨⟨kc, kp, ko, kw⟩, by rw [HK.out.2.2.1, hc0]; rfl, HE1.out, HE2.out⟩
            clear hc0
            go_wp2
            go_ret
            exact ⟨ret_bool (outB_true HO.out).symm, HBA.out.2⟩
          · have hc1 : (c == 0) = false := by rw [hc0]; rfl
            have HC1 : Hid (c = 1) := hc0
            clear hc0
            go_wp2
            go_roundw
            case rel => exact ⟨_, cnt2, HS.out _ HBA.out.1 (.inr (.inr HC1.out)), HBA.out.2⟩
            case measure => rw [(HS.out _ HBA.out.1 (.inr (.inr HC1.out))).1.left_eq, HLt.out]; exact HK.out.2.2.2.2.2

/-- The calls without those of a client that have come. -/
def goC (C : Cl) (c : Int) (lf : Wt → Bool) : Cl := fun j => if j.c = c ∧ lf j = false then none else C j
def goneC (C : Cl) (c : Int) : Cl := fun j => if j.c = c then none else C j

theorem goC_start (C : Cl) (c : Int) : goC C c (fun k => (C k).isSome) = C := by
  funext j
  unfold goC
  split
  · rename_i h
    cases hc : C j with
    | none => rfl
    | some u => simp only [hc] at h; exact absurd h.2 (by simp)
  · rfl
theorem goC_end (C : Cl) (c : Int) {lf : Wt → Bool} (h : ∀ k, lf k = false) : goC C c lf = goneC C c := by
  funext j
  unfold goC goneC
  simp [h j]
theorem goC_other (C : Cl) {c : Int} (lf : Wt → Bool) {k : Wt} (h : k.c ≠ c) : goC C c (strike lf k) = goC C c lf := by
  funext j
  unfold goC strike
  by_cases e : j.c = c
  · have : ¬ (j.c = k.c ∧ j.p = k.p ∧ j.o = k.o ∧ j.wr = k.wr) := fun e' => h (e'.1.symm.trans e)
    simp [this]
  · simp [e]
theorem goC_own (C : Cl) {c : Int} (lf : Wt → Bool) {k : Wt} (h : k.c = c) : (goC C c lf).set k none = goC C c (strike lf k) := by
  funext j
  unfold Cl.set goC strike
  by_cases e : j.c = k.c ∧ j.p = k.p ∧ j.o = k.o ∧ j.wr = k.wr
  · rw [if_pos e]
    rw [if_pos ⟨e.1.trans h, by simp [e]⟩]
  · rw [if_neg e]
    simp [e]

set_option maxHeartbeats 1600000 in
theorem gone_any (w : World) (A : Nat → Prop) (q : Nat) (L : List Wt) (C : Cl) (n : Nat) (H : Qw w A q L C n) (hl : L.length ≤ 1000000) (c : Int) :
    Calls Try.prog 22 #[qp q, .int .i64 c] w fun e w' => e = .returned (.tuple #[]) ∧ Nx w w' A q (rmL L c) (goneC C c) n := by
  have HC : Hid (Calls Try.prog 13 #[qp q, .int .i64 c] w fun e w1 => e = .returned (.bool (hasB L c)) ∧ OffS A w w1 ∧ w.heap.size ≤ w1.heap.size ∧ ∃ ao cap b, Qu w1 (fun k => A k ∨ w.heap.size ≤ k) q ao cap b (rmL L c) C n) := (remove_any w A q L C n H hl c).mono fun e w1 ⟨h1, h2, h3⟩ => ⟨h1, h3, h3.size, h2⟩
  clear H hl
  go_enter Try.func22, Try.ntmps22
  go_wp2_with (first
    | (at_range; refine wpList_range_C _ rfl _ rfl rfl HM.out.1 ?_; intro w2 cnt2 hr2 hb2 hs2)
    | (go_at_call 13; refine HC.out.mono ?_; rintro e w1 ⟨rfl, hof, hsz, ao, cap, b, H1⟩; have h1 := H1.c1; have HM : Hid (MapC w1 b n C ∧ b < w1.heap.size) := ⟨H1.map, H1.map.lt⟩; have HQ : Hid (OffS A w w1 ∧ Qu w1 (fun k => A k ∨ w.heap.size ≤ k) q ao cap b (rmL L c) C n) := ⟨hof, H1⟩; clear hof H1)
    | fail)
  go_frame
  go_loopw [14] (fun _ wr => ∃ (lf : Wt → Bool) (cnt : Nat), Hid (RanC wr b w1.heap.size n (goC C c lf) lf cnt ∧ OffS (fun k => k = b) w1 wr)) (fun _ wr => wr.rangeLeft b w1.heap.size)
  case atStart => exact ⟨_, cnt2, by rw [goC_start]; exact hr2, .of_below hb2⟩
  case round =>
    clear hr2 hb2 hs2
    obtain ⟨lf, cnt, HR⟩ := hrel
    rename World => wr
    go_wp2_with (first
      | (at_next; refine wpList_next_C _ rfl _ rfl rfl HR.out.1 ?_ ?_)
      | fail)
    · intro hl0
      have HL : Hid (∀ k, lf k = false) := hl0
      clear hl0
      go_wp2
      go_end0
      refine ⟨rfl, ?_⟩
      have hm := HR.out.1.owns
      rw [goC_end C c HL.out] at hm
      have hN := HQ.out.2.turned (w6 := wr) ⟨HR.out.2.os, HR.out.2.tape, HR.out.2.output, HR.out.2.size, fun k hk hne => HR.out.2.block k hk (fun e => hne (by rw [e]))⟩ hm
      exact ⟨hN.1.mono fun k _ hk => by have := hsz; rcases hk with h | h; exact h; exact .inr (by omega), HQ.out.1.trans hN.2⟩
    · intro k cv w3 cnt3 hok hlf hc hcu hr3 hlt hg3 hs3 hen
      have HK : Hid (k.ok ∧ RanC w3 b w1.heap.size n (goC C c lf) (strike lf k) cnt3 ∧ cnt3 < cnt ∧ OffS (fun k => k = b) w1 w3 ∧ w1.heap.size < w3.heap.size ∧ b < w1.heap.size) := by
        refine ⟨hok, hr3, hlt, HR.out.2.trans (OffS.grown hg3 fun j hj => by cases hj; exact .inr (Nat.le_refl _)), hr3.lt, HM.out.2⟩
      have HLt : Hid (wr.rangeLeft b w1.heap.size = cnt) := HR.out.1.left_eq
      have hq1 : w3.cell? ⟨q, 1, none⟩ = some (.map (some b)) := by
        have hb := HK.out.2.2.2.1.block q HQ.out.2.lt HQ.out.2.ne.symm
        exact (World.cell?_of_block (w := w1) (w' := w3) (a := ⟨q, 1, none⟩) hb).trans HQ.out.2.c1
      have hql : q < w3.heap.size := World.block_lt_of_cell? w3 _ hq1
      clear hok hlf hcu hc hr3 hlt hg3 hs3 HR
      obtain ⟨kc, kp, ko, kw⟩ := k
      simp only [wtV] at hen
      have hbA : Below w3.heap.size w3 (w3.alloc (caO ⟨kc, kp, ko, kw⟩)) := (Below.refl _ _).alloc (Nat.le_refl _) _
      have HBA : Hid (Below w3.heap.size w3 (w3.alloc (caO ⟨kc, kp, ko, kw⟩)) ∧ OffS (fun k => k = b) w1 (w3.alloc (caO ⟨kc, kp, ko, kw⟩)) ∧ RanC (w3.alloc (caO ⟨kc, kp, ko, kw⟩)) b w1.heap.size n (goC C c lf) (strike lf ⟨kc, kp, ko, kw⟩) cnt3) :=
        ⟨hbA, HK.out.2.2.2.1.trans ((OffS.of_below hbA)), HK.out.2.1.kept hbA.size (hbA.block _ (by have := HK.out; omega)) (hbA.block _ HK.out.2.2.2.2.1)⟩
      have hq2 : (w3.alloc (caO ⟨kc, kp, ko, kw⟩)).cell? ⟨q, 1, none⟩ = some (.map (some b)) := (hbA.cell hql).trans hq1
      have HG : Hid ((w3.alloc (caO ⟨kc, kp, ko, kw⟩)).heap[w3.heap.size]? = some (caO ⟨kc, kp, ko, kw⟩)) := heap_alloc_new w3 _
      clear hbA
      by_cases e0 : kc = c
      · have e1 : (kc == c) = true := by simpa using e0
        have HE : Hid (kc = c) := e0
        clear e0
        go_upto_region 5 with fail
        obtain ⟨g4, hg⟩ : ∃ g, w3.heap.size = g := ⟨_, rfl⟩
        rw [hg] at HG ⊢
        have HLT : Hid (g4 < (w3.alloc (caO ⟨kc, kp, ko, kw⟩)).heap.size ∧ q < (w3.alloc (caO ⟨kc, kp, ko, kw⟩)).heap.size ∧ b ≠ g4 ∧ b ≠ q) := by
          refine ⟨by simp; omega, by simp; omega, ?_, HQ.out.2.ne⟩
          have := HK.out
          omega
        clear hg hql hq1
        show Code.wp _ _ _ _ (w3.alloc (caO ⟨kc, kp, ko, kw⟩))
        generalize w3.alloc (caO ⟨kc, kp, ko, kw⟩) = W at *
        have HF : Hid (∀ V : World, V.heap[q]? = W.heap[q]? → V.heap[g4]? = W.heap[g4]? → V.cell? ⟨q, 1, none⟩ = some (.map (some b)) ∧ V.cell? ⟨g4, 0, none⟩ = some (.int .i64 kc) ∧ V.cell? ⟨g4, 1, none⟩ = some (.int .i64 kp) ∧ V.cell? ⟨g4, 2, none⟩ = some (.int .i64 ko) ∧ V.cell? ⟨g4, 3, none⟩ = some (.bool kw)) := fun V hV1 hV2 => by
          refine ⟨(World.cell?_of_block (w := W) (w' := V) (a := ⟨q, 1, none⟩) hV1).trans hq2, ?_, ?_, ?_, ?_⟩
          all_goals rw [cell_of_row _ _ _ _ _ _ (hV2.trans HG.out)]; rfl
        have hF0 := HF.out W.drew rfl rfl
        refine wp_region_held (S := fun V => V.cell? ⟨q, 1, none⟩ = some (.map (some b)) ∧ V.cell? ⟨g4, 0, none⟩ = some (.int .i64 kc) ∧ V.cell? ⟨g4, 1, none⟩ = some (.int .i64 kp) ∧ V.cell? ⟨g4, 2, none⟩ = some (.int .i64 ko) ∧ V.cell? ⟨g4, 3, none⟩ = some (.bool kw)) (by kernel_rfl) ?_
        show wpAnyH _ _ _ _ _ _ _ _ W.drew
        refine held_val (i := 0) ?_ 21 rfl rfl (by kernel_rfl) (by kernel_rfl) (by kernel_rfl) (by rfl) (fun _ _ _ h => h) hF0 ?_ ?_
        rotate_left
        · (intro w hSw; obtain ⟨c1, c2, c3, c4, c5⟩ := hSw; go_simp; first | done | with_reducible rfl)
        simp only [Act.put, List.setIfInBounds_toArray, List.set_cons_zero, List.set_cons_succ]
        refine held_val (i := 1) ?_ 22 rfl rfl (by kernel_rfl) (by kernel_rfl) (by kernel_rfl) (by rfl) (fun _ _ _ h => h) hF0 ?_ ?_
        rotate_left
        · (intro w hSw; obtain ⟨c1, c2, c3, c4, c5⟩ := hSw; go_simp; first | done | with_reducible rfl)
        simp only [Act.put, List.setIfInBounds_toArray, List.set_cons_zero, List.set_cons_succ]
        refine held_val (i := 2) ?_ 23 rfl rfl (by kernel_rfl) (by kernel_rfl) (by kernel_rfl) (by rfl) (fun _ _ _ h => h) hF0 ?_ ?_
        rotate_left
        · (intro w hSw; obtain ⟨c1, c2, c3, c4, c5⟩ := hSw; go_simp; first | done | with_reducible rfl)
        simp only [Act.put, List.setIfInBounds_toArray, List.set_cons_zero, List.set_cons_succ]
        refine held_val (i := 3) ?_ 24 rfl rfl (by kernel_rfl) (by kernel_rfl) (by kernel_rfl) (by rfl) (fun _ _ _ h => h) hF0 ?_ ?_
        rotate_left
        · (intro w hSw; obtain ⟨c1, c2, c3, c4, c5⟩ := hSw; go_simp; first | done | with_reducible rfl)
        simp only [Act.put, List.setIfInBounds_toArray, List.set_cons_zero, List.set_cons_succ]
        refine held_val (i := 4) ?_ 25 rfl rfl (by kernel_rfl) (by kernel_rfl) (by kernel_rfl) (by rfl) (fun _ _ _ h => h) hF0 ?_ ?_
        rotate_left
        · (intro w hSw; obtain ⟨c1, c2, c3, c4, c5⟩ := hSw; go_simp; first | done | with_reducible rfl)
        simp only [Act.put, List.setIfInBounds_toArray, List.set_cons_zero, List.set_cons_succ]
        refine held_delete_C (i := 5) (k := ⟨kc, kp, ko, kw⟩) rfl rfl (by kernel_rfl) (by rfl) _ _ rfl rfl (HBA.out.2.2.kept (Nat.le_refl _) rfl rfl : RanC W.drew b w1.heap.size n (goC C c lf) _ cnt3) HK.out.1 (by simp [strike]) rfl ?_
        intro w7 cnt7 hr7 hle7 hg7
        refine ⟨HF.out w7 (hg7.block q HLT.out.2.1 (by have := HLT.out.2.2.2; simp; omega)) (hg7.block g4 HLT.out.1 (by have := HLT.out.2.2.1; simp; omega)), ?_⟩
        refine wpAnyH_done (by kernel_rfl) ?_ _
        have HR7 : Hid (RanC w7 b w1.heap.size n (goC C c (strike lf ⟨kc, kp, ko, kw⟩)) (strike lf ⟨kc, kp, ko, kw⟩) cnt7 ∧ cnt7 ≤ cnt3 ∧ OffS (fun k => k = b) w1 w7) := by
          have hs := goC_own C lf (k := ⟨kc, kp, ko, kw⟩) HE.out
          refine ⟨by rw [← hs]; exact hr7, hle7, HBA.out.2.1.trans (OffS.grown (w := W) (w' := w7) (row := some b) ⟨hg7.os, hg7.tape, hg7.output, hg7.size, hg7.block⟩ fun j hj => by cases hj; exact .inl rfl)⟩
        clear hr7 hle7 hg7 hF0
        go_wp2
        go_roundw
        case rel => exact ⟨_, cnt7, HR7.out.1, HR7.out.2.2⟩
        case measure => rw [HR7.out.1.left_eq, HLt.out]; have := HR7.out.2.1; have := HK.out.2.2.1; omega
      · have e1 : (kc == c) = false := by simpa using e0
        have HN : Hid (kc ≠ c) := e0
        clear e0
        go_wp2
        go_roundw
        case rel =>
          have hs := goC_other C lf (k := ⟨kc, kp, ko, kw⟩) HN.out
          exact ⟨_, cnt3, by rw [hs]; exact HBA.out.2.2, HBA.out.2.1⟩
        case measure => rw [HBA.out.2.2.left_eq, HLt.out]; exact HK.out.2.2.1

end Go.Proofs.Ytcjajckmcikhcaa
