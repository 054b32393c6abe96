/- The document's Put (there is room), walked. -/
import Derived.Test.YtfllkhimlambhaaRs
import Derived.Test.YtfllkhimlambhaaOr
namespace Go.Proofs.Ytfllkhimlambhaa
open Go.RowKit
set_option linter.unusedVariables false
set_option maxRecDepth 8000

theorem bx_ne {W : World} {q : Nat} {R : Nat → Rw} (h : Bx W q R) {a : Nat} {cs : Array Value} {e : TypeId} (hc : W.heap[a]? = some (.cells cs e)) (he : e ≠ 31) : a ≠ q := by
  rintro rfl
  obtain ⟨cs', h'⟩ := h.t
  rw [hc] at h'
  cases h'
  exact he rfl

/-- A row is stored in one box, and that box's net in another. -/
theorem fin_put {W : World} {q3 q6 : Nat} {R Z : Nat → Rw} (h3 : Bx W q3 R) (h6 : Bx W q6 Z) (hne : q3 ≠ q6) {l : Nat} (hl : l < 8) (r : Rw) {L : List Fv} (ho : OwR fvC 2 39 W r.ao r.cap L) {V : Nat → Prop} (hb : ∀ x ∈ L, Fb W V x) :
    Bx (W.setCell ⟨q3, l, none⟩ (.slice r.ao r.n r.cap)) q3 (upd R l r) ∧ Bx (W.setCell ⟨q3, l, none⟩ (.slice r.ao r.n r.cap)) q6 Z ∧ Bx (st8 (W.setCell ⟨q3, l, none⟩ (.slice r.ao r.n r.cap)) q6 (upd R l r)) q6 (upd R l r) ∧ OwR fvC 2 39 (st8 (W.setCell ⟨q3, l, none⟩ (.slice r.ao r.n r.cap)) q6 (upd R l r)) r.ao r.cap L ∧ (∀ x ∈ L, Fb (st8 (W.setCell ⟨q3, l, none⟩ (.slice r.ao r.n r.cap)) q6 (upd R l r)) V x) := by
  have k3 : Bx (W.setCell ⟨q3, l, none⟩ (.slice r.ao r.n r.cap)) q3 (upd R l r) := h3.put hl r
  have e1 : ∀ j, j ≠ q3 → (W.setCell ⟨q3, l, none⟩ (.slice r.ao r.n r.cap)).heap[j]? = W.heap[j]? := fun j hj => Below.heap_setCell _ _ _ _ (by simpa using hj)
  have k6 : Bx (W.setCell ⟨q3, l, none⟩ (.slice r.ao r.n r.cap)) q6 Z := h6.keep (e1 q6 (Ne.symm hne))
  obtain ⟨s1, s2, s3, s4, s5, s6⟩ := st8_facts (upd R l r) k6
  have hsz : W.heap.size ≤ (st8 (W.setCell ⟨q3, l, none⟩ (.slice r.ao r.n r.cap)) q6 (upd R l r)).heap.size := by rw [s3]; simp
  refine ⟨k3, k6, s1, ho.keep fun a ha _ => ?_, fun x hx => (hb x hx).keep hsz fun k cs _ hc => ?_⟩
  · obtain ⟨_, cur, hc⟩ := ho.lt a ha
    exact (s2 _ (bx_ne h6 hc (by decide))).trans (e1 _ (bx_ne h3 hc (by decide)))
  · exact (s2 _ (bx_ne h6 hc (by decide))).trans (e1 _ (bx_ne h3 hc (by decide)))

set_option maxHeartbeats 3200000 in
theorem rput_yes {w : World} {U : Nat → Prop} {R : Nat → Rw} {F : Nat → List Fv} (H : Rn w U R F) (l : Nat) (hl : l < 8) (n : Nat) (hn : (F l).length = n) (hn200 : n < 200) (X : Fv) (hX : Rd8 w X.ao X.n X.cap X.bs) (hXs : X.n ≤ 140737488351232) : Calls Try.prog 13 #[rnV R, .int .i64 (l : Int), fvV X] w fun e w' => ∃ r' x', e = .returned (.tuple #[rnV (upd R l r'), .bool true]) ∧ x'.it = X.it ∧ Rn w' (Grow w U) (upd R l r') (upd F l (F l ++ [x'])) ∧ Below w.heap.size w w' := by
  obtain ⟨hb, hq3, hq5, hq6⟩ := three_al w (rnO R) (itO X) (rnO r0)
  have HW : Hid (Below w.heap.size w (((w.alloc (rnO R)).alloc (itO X)).alloc (rnO r0)) ∧ Bx (((w.alloc (rnO R)).alloc (itO X)).alloc (rnO r0)) w.heap.size R ∧ (((w.alloc (rnO R)).alloc (itO X)).alloc (rnO r0)).heap[w.heap.size + 1]? = some (itO X) ∧ Bx (((w.alloc (rnO R)).alloc (itO X)).alloc (rnO r0)) (w.heap.size + 2) r0) := ⟨hb, Bx.of hq3, hq5, Bx.of hq6⟩
  clear hb hq3 hq5 hq6
  have HH : Hid (Rn w U R F ∧ (F l).length = n ∧ (R l).n = n ∧ Rd8 w X.ao X.n X.cap X.bs ∧ X.n ≤ 140737488351232 ∧ n < 200) := ⟨H, hn, by rw [← H.len l hl]; exact hn, hX, hXs, hn200⟩
  clear H hn hX hXs
  go_enter Try.func13, Try.ntmps13
  go_upto_region 1 with fail
  show Code.wp _ _ _ _ (((w.alloc (rnO R)).alloc (itO X)).alloc (rnO r0))
  obtain ⟨q3, hq3⟩ : ∃ q, w.heap.size = q := ⟨_, rfl⟩
  obtain ⟨q5, hq5⟩ : ∃ q, w.heap.size + 1 = q := ⟨_, rfl⟩
  obtain ⟨q6, hq6⟩ : ∃ q, w.heap.size + 2 = q := ⟨_, rfl⟩
  rw [hq6, hq5, hq3]
  have HW2 : Hid (Below w.heap.size w (((w.alloc (rnO R)).alloc (itO X)).alloc (rnO r0)) ∧ Bx (((w.alloc (rnO R)).alloc (itO X)).alloc (rnO r0)) q3 R ∧ (((w.alloc (rnO R)).alloc (itO X)).alloc (rnO r0)).heap[q5]? = some (itO X) ∧ Bx (((w.alloc (rnO R)).alloc (itO X)).alloc (rnO r0)) q6 r0 ∧ w.heap.size = q3 ∧ w.heap.size + 1 = q5 ∧ w.heap.size + 2 = q6) := by rw [← hq3, ← hq5, ← hq6]; exact ⟨HW.out.1, HW.out.2.1, HW.out.2.2.1, HW.out.2.2.2, rfl, rfl, rfl⟩
  clear HW hq3 hq5 hq6
  generalize ((w.alloc (rnO R)).alloc (itO X)).alloc (rnO r0) = W at *
  have hc := HW2.out.2.1.c l hl
  have hl0 : ¬ (l : Int) < 0 := by omega
  have hl7 : ¬ (7 : Int) < (l : Int) := by omega
  have hlz : (l : Int) < 8 := by omega
  have hn2 : ¬ (200 : Int) ≤ (n : Int) := by omega
  obtain ⟨a0, ha0⟩ : ∃ a, (R l).ao = a := ⟨_, rfl⟩
  obtain ⟨c0, hc0⟩ : ∃ c, (R l).cap = c := ⟨_, rfl⟩
  rw [show sl (R l) = .slice (R l).ao (R l).n (R l).cap from rfl, HH.out.2.2.1, ha0, hc0] at hc
  have hcA : (W.alloc (.cells #[] 39)).cell? ⟨q3, l, none⟩ = some (.slice a0 n c0) := (((Below.refl W.heap.size W).alloc (Nat.le_refl _) (.cells #[] 39)).cell (p := ⟨q3, l, none⟩) HW2.out.2.1.lt).trans hc
  have HR : Hid (RdR fvC (W.alloc (.cells #[] 39)) a0 c0 (F l) ∧ (F l).length = n) := by
    have := (HH.out.1.row l hl).rd
    rw [ha0, hc0] at this
    exact ⟨(this.below HW2.out.1).below ((Below.refl _ _).alloc (Nat.le_refl _) _), HH.out.2.1⟩
  clear ha0 hc0
  go_upto_region 4 with (first
    | (at_builtin; refine wpList_append_R fvE _ rfl (.tmp 23) (.tmp 26) 29 rfl 39 _ 32 Try.underlying29 info39 rfl (n := 0) (m := n) (L := []) (M := F l) rfl rfl (OwR.fresh 39 W) HR.out.1 rfl HR.out.2 (by omega) (by unfold maxLen; omega) ?_; intro a8 c8 W8 ho8 hg8 hl8; simp only [List.nil_append] at ho8; have HB8 : Hid (Below W.heap.size W W8 ∧ OwR fvC 2 39 W8 a8 c8 (F l) ∧ ∀ a, a8 = some a → W.heap.size ≤ a.block) := ⟨((Below.refl _ _).alloc (Nat.le_refl _) (.cells #[] 39)).trans (grown_bel hg8 (by simp) (fun a ha => by cases ha; exact Nat.le_refl _)), ho8, fun a ha => by rcases hl8 with e | e <;> (rw [e] at ha; cases ha; simp)⟩; clear ho8 hg8 hl8)
    | fail)
  clear hc hcA HR
  have HS : Hid (∀ V : World, Below W.heap.size W V → V.cell? ⟨q5, 0, none⟩ = some (.slice X.ao X.n X.cap) ∧ V.cell? ⟨q5, 1, none⟩ = some (.bool X.sp)) := fun V hV => itCells ((hV.block q5 (Array.getElem?_eq_some_iff.1 HW2.out.2.2.1).1).trans HW2.out.2.2.1)
  refine wp_region_held (S := fun V => V.cell? ⟨q5, 0, none⟩ = some (.slice X.ao X.n X.cap) ∧ V.cell? ⟨q5, 1, none⟩ = some (.bool X.sp)) (by kernel_rfl) ?_
  have hS := HS.out _ (HB8.out.1.trans ((bel0 W8).mono HB8.out.1.size))
  refine held_val (i := 0) ?_ 28 rfl rfl (by kernel_rfl) (by kernel_rfl) (by kernel_rfl) (by rfl) (fun _ _ _ h => h) hS ?_ ?_
  rotate_left
  · (intro w hSw; go_simp; first | done | with_reducible rfl)
  simp only [Act.put, List.setIfInBounds_toArray, List.set_cons_zero, List.set_cons_succ]
  refine held_val (i := 1) ?_ 29 rfl rfl (by kernel_rfl) (by kernel_rfl) (by kernel_rfl) (by rfl) (fun _ _ _ h => h) hS ?_ ?_
  rotate_left
  · (intro w hSw; go_simp; first | done | with_reducible rfl)
  simp only [Act.put, List.setIfInBounds_toArray, List.set_cons_zero, List.set_cons_succ]
  refine held_val (i := 3) ?_ 31 rfl rfl (by kernel_rfl) (by kernel_rfl) (by kernel_rfl) (by rfl) (fun _ _ _ h => h) hS ?_ ?_
  rotate_left
  · (intro w hSw; go_simp; first | done | with_reducible rfl)
  simp only [Act.put, List.setIfInBounds_toArray, List.set_cons_zero, List.set_cons_succ]
  refine held_val (i := 4) ?_ 32 rfl rfl (by kernel_rfl) (by kernel_rfl) (by kernel_rfl) (by rfl) (fun _ _ _ h => h) hS ?_ ?_
  rotate_left
  · (intro w hSw; obtain ⟨k0, k1⟩ := hSw; go_simp; first | done | with_reducible rfl)
  simp only [Act.put, List.setIfInBounds_toArray, List.set_cons_zero, List.set_cons_succ]
  refine held_val (i := 6) ?_ 34 rfl rfl (by kernel_rfl) (by kernel_rfl) (by kernel_rfl) (by rfl) (fun _ _ _ h => h) hS ?_ ?_
  rotate_left
  · (intro w hSw; go_simp; first | done | with_reducible rfl)
  simp only [Act.put, List.setIfInBounds_toArray, List.set_cons_zero, List.set_cons_succ]
  refine held_val (i := 7) ?_ 35 rfl rfl (by kernel_rfl) (by kernel_rfl) (by kernel_rfl) (by rfl) (fun _ _ _ h => h) hS ?_ ?_
  rotate_left
  · (intro w hSw; obtain ⟨k0, k1⟩ := hSw; go_simp; first | done | with_reducible rfl)
  simp only [Act.put, List.setIfInBounds_toArray, List.set_cons_zero, List.set_cons_succ]
  have HB9 : Hid (Below W.heap.size W (W8.drew.alloc (.cells #[] 5)) ∧ Below W8.heap.size W8 (W8.drew.alloc (.cells #[] 5))) := ⟨HB8.out.1.trans (((bel0 W8).alloc (Nat.le_refl _) _).mono HB8.out.1.size), (bel0 W8).alloc (Nat.le_refl _) _⟩
  have hS9 := HS.out _ HB9.out.1
  refine held_run (i := 2) 30 (.slice (some ⟨W8.drew.heap.size, 0, none⟩) 0 0) (W8.drew.alloc (.cells #[] 5)) rfl rfl (by kernel_rfl) (by rfl) (by go_simp) hS9 ?_
  simp only [Act.put, List.setIfInBounds_toArray, List.set_cons_zero, List.set_cons_succ]
  have HY : Hid (OwnI (W8.drew.alloc (.cells #[] 5)) W8.heap.size 5 .u8 (some ⟨W8.drew.heap.size, 0, none⟩) 0 [] ∧ Rd8 (W8.drew.alloc (.cells #[] 5)) X.ao X.n X.cap X.bs ∧ X.n ≤ 140737488351232 ∧ W8.heap.size ≤ (W8.drew.alloc (.cells #[] 5)).heap.size) := ⟨OwnI.fresh W8.drew _ 5 .u8 (Nat.le_refl _), (HH.out.2.2.2.1.below HW2.out.1).below HB9.out.1, HH.out.2.2.2.2.1, HB9.out.2.size⟩
  refine held_append_rdI (i := 5) (n := 0) (m := X.n) 33 (.tmp 30) (.tmp 32) 33 rfl rfl (by kernel_rfl) (by rfl) rfl W8.heap.size 5 .u8 (.int .u8 0) 1 Try.underlying33 info5 rfl rfl rfl HY.out.1 HY.out.2.1.rd rfl (by rw [ci_length]; exact HY.out.2.1.len) (by have := HY.out; omega) (by unfold maxLen; have := HY.out; omega) HY.out.2.2.2 X.n (by omega) ?_
  intro a10 c10 W10 ho10 hb10
  have HB10 : Hid (Below W.heap.size W W10 ∧ Below W8.heap.size W8 W10 ∧ Fb W10 (Grow w U) ⟨a10, X.n, c10, X.bs, X.sp⟩) := ⟨HB9.out.1.trans (hb10.mono HB8.out.1.size), HB9.out.2.trans hb10, Fb.own ⟨by simpa using ho10, HY.out.2.1.len, HY.out.2.1.byte⟩ X.sp _ (fun k hk => .inr (Nat.le_trans (Nat.le_trans HW2.out.1.size HB8.out.1.size) hk)) (by have := HY.out; omega)⟩
  clear ho10 hb10 HY
  have hS10 := HS.out _ HB10.out.1
  refine ⟨hS10, ?_⟩
  simp only [Act.put, List.setIfInBounds_toArray, List.set_cons_zero, List.set_cons_succ]
  refine held_val (i := 8) (fvV ⟨a10, X.n, c10, X.bs, X.sp⟩) 36 rfl rfl (by kernel_rfl) (by kernel_rfl) (by kernel_rfl) (by rfl) (fun _ _ _ h => h) hS10 ?_ ?_
  · (intro w hSw; go_simp; first | done | with_reducible rfl)
  simp only [Act.put, List.setIfInBounds_toArray, List.set_cons_zero, List.set_cons_succ]
  have HB11 : Hid (Below W.heap.size W (W10.alloc (itO ⟨a10, X.n, c10, X.bs, X.sp⟩)) ∧ Below W8.heap.size W8 (W10.alloc (itO ⟨a10, X.n, c10, X.bs, X.sp⟩)) ∧ Fb (W10.alloc (itO ⟨a10, X.n, c10, X.bs, X.sp⟩)) (Grow w U) ⟨a10, X.n, c10, X.bs, X.sp⟩ ∧ OwR fvC 2 39 (W10.alloc (itO ⟨a10, X.n, c10, X.bs, X.sp⟩)) a8 c8 (F l) ∧ RdR fvC (W10.alloc (itO ⟨a10, X.n, c10, X.bs, X.sp⟩)) (some ⟨W10.heap.size, 0, none⟩) 1 [⟨a10, X.n, c10, X.bs, X.sp⟩]) := by
    have hba : Below W10.heap.size W10 (W10.alloc (itO ⟨a10, X.n, c10, X.bs, X.sp⟩)) := (Below.refl _ _).alloc (Nat.le_refl _) _
    exact ⟨below_step HB10.out.1 hba, below_step HB10.out.2.1 hba, HB10.out.2.2.below hba, (HB8.out.2.1.below HB10.out.2.1).below hba, RdR.built fvE W10 39 _ [⟨a10, X.n, c10, X.bs, X.sp⟩] rfl 1 rfl (by decide)⟩
  have hS11 := HS.out _ HB11.out.1
  refine held_run (i := 9) 37 (.slice (some ⟨W10.heap.size, 0, none⟩) 1 1) (W10.alloc (itO ⟨a10, X.n, c10, X.bs, X.sp⟩)) rfl rfl (by kernel_rfl) (by rfl) (by go_simp) hS11 ?_
  simp only [Act.put, List.setIfInBounds_toArray, List.set_cons_zero, List.set_cons_succ]
  generalize W10.alloc (itO ⟨a10, X.n, c10, X.bs, X.sp⟩) = W11 at *
  refine held_append_R fvE (i := 10) (n := n) (m := 1) (L := F l) (M := [⟨a10, X.n, c10, X.bs, X.sp⟩]) 38 (.tmp 29) (.tmp 37) 29 rfl rfl (by kernel_rfl) (by rfl) rfl 39 _ 32 Try.underlying29 info39 rfl rfl rfl HB11.out.2.2.2.1 HB11.out.2.2.2.2 HH.out.2.1 rfl (by omega) (by unfold maxLen; omega) ?_
  intro a12 c12 W12 ho12 hg12 hl12
  have HB12 : Hid (Below W.heap.size W W12 ∧ OwR fvC 2 39 W12 a12 c12 (F l ++ [⟨a10, X.n, c10, X.bs, X.sp⟩]) ∧ ∀ x ∈ F l ++ [⟨a10, X.n, c10, X.bs, X.sp⟩], Fb W12 (Grow w U) x) := by
    have hgk : ∀ (k : Nat) cs, W11.heap[k]? = some (.cells cs 5) → W12.heap[k]? = W11.heap[k]? := by
      intro k cs hc
      refine hg12.block k (Array.getElem?_eq_some_iff.1 hc).1 ?_
      intro e
      cases ha : a8 with
      | none => rw [ha] at e; cases e
      | some a =>
        rw [ha] at e
        obtain ⟨_, cur, h2⟩ := HB11.out.2.2.2.1.lt a ha
        have e2 : k = a.block := by simpa using e
        rw [e2, h2] at hc
        cases hc
    refine ⟨HB11.out.1.trans (grown_bel hg12 HB11.out.1.size HB8.out.2.2), ho12, fun x hx => ?_⟩
    rcases List.mem_append.1 hx with hx | hx
    · refine ((((HH.out.1.by' l hl x hx).mono (U := Grow w U) fun _ _ h => .inl h).below HW2.out.1).below HB11.out.1).keep hg12.size fun k cs _ hc => hgk k cs hc
    · have : x = ⟨a10, X.n, c10, X.bs, X.sp⟩ := by simpa using hx
      subst this
      exact HB11.out.2.2.1.keep hg12.size fun k cs _ hc => hgk k cs hc
  clear ho12 hg12 hl12 HB11 HB10 HB9 hS hS9 hS10 hS11
  have hS12 := HS.out _ HB12.out.1
  refine ⟨hS12, ?_⟩
  simp only [Act.put, List.setIfInBounds_toArray, List.set_cons_zero, List.set_cons_succ]
  refine held_val (i := 11) ?_ 39 rfl rfl (by kernel_rfl) (by kernel_rfl) (by kernel_rfl) (by rfl) (fun _ _ _ h => h) hS12 ?_ ?_
  rotate_left
  · (intro w hSw; go_simp; first | done | with_reducible rfl)
  simp only [Act.put, List.setIfInBounds_toArray, List.set_cons_zero, List.set_cons_succ]
  have HX3 : Hid (Bx W12 q3 R ∧ Bx W12 q6 r0) := ⟨HW2.out.2.1.below HB12.out.1, HW2.out.2.2.2.1.below HB12.out.1⟩
  have hc12 := HX3.out.1.c l hl
  have hf12 := HX3.out.1.fz l
  obtain ⟨r', hr'⟩ : ∃ r : Rw, r = ⟨a12, n + 1, c12⟩ := ⟨_, rfl⟩
  have HFP := hid_of (fin_put HX3.out.1 HX3.out.2 (by have := HW2.out; omega) hl ⟨a12, n + 1, c12⟩ (L := F l ++ [⟨a10, X.n, c10, X.bs, X.sp⟩]) HB12.out.2.1 HB12.out.2.2)
  have hS13 : (W12.setCell ⟨q3, l, none⟩ (.slice a12 (n + 1) c12)).cell? ⟨q5, 0, none⟩ = some (.slice X.ao X.n X.cap) ∧ (W12.setCell ⟨q3, l, none⟩ (.slice a12 (n + 1) c12)).cell? ⟨q5, 1, none⟩ = some (.bool X.sp) := by
    have hne : q5 ≠ q3 := by have := HW2.out; omega
    have e1 : (W12.setCell ⟨q3, l, none⟩ (.slice a12 (n + 1) c12)).heap[q5]? = W12.heap[q5]? := Below.heap_setCell _ _ _ _ (by simpa using hne)
    exact ⟨(World.cell?_of_block (w := W12) (a := ⟨q5, 0, none⟩) e1).trans hS12.1, (World.cell?_of_block (w := W12) (a := ⟨q5, 1, none⟩) e1).trans hS12.2⟩
  have HZ0 : Hid (Below w.heap.size w (W12.setCell ⟨q3, l, none⟩ (.slice a12 (n + 1) c12))) := (HW2.out.1.trans (HB12.out.1.mono HW2.out.1.size)).setCell (by have := HW2.out; simp only; omega) _
  refine held_last (i := 12) (W12.setCell ⟨q3, l, none⟩ (.slice a12 (n + 1) c12)) rfl (by kernel_rfl) (by rfl) (by go_simp) hS13 ?_
  refine wpAnyH_done (by kernel_rfl) ?_ _
  clear hS12 hS13 hc12 hf12 hr' HS
  have HZ : Hid (Bx (st8 (W12.setCell ⟨q3, l, none⟩ (.slice a12 (n + 1) c12)) q6 (upd R l ⟨a12, n + 1, c12⟩)) q6 (upd R l ⟨a12, n + 1, c12⟩) ∧ Below w.heap.size w (st8 (W12.setCell ⟨q3, l, none⟩ (.slice a12 (n + 1) c12)) q6 (upd R l ⟨a12, n + 1, c12⟩)) ∧ Rn (st8 (W12.setCell ⟨q3, l, none⟩ (.slice a12 (n + 1) c12)) q6 (upd R l ⟨a12, n + 1, c12⟩)) (Grow w U) (upd R l ⟨a12, n + 1, c12⟩) (upd F l (F l ++ [⟨a10, X.n, c10, X.bs, X.sp⟩]))) := by
    obtain ⟨p1, p2, p3, p4, p5⟩ := HFP.out
    have hb := st8_below (upd R l ⟨a12, n + 1, c12⟩) p2 HZ0.out (by have := HW2.out; omega)
    exact ⟨p3, hb, HH.out.1.upd hb p4 (by simp [HH.out.2.1]) (by simp [HH.out.2.1]; omega) (fun _ h => .inl h) p5⟩
  obtain ⟨y0, y1, y2, y3, y4, y5, y6, y7⟩ := HFP.out.1.all
  obtain ⟨d0, d1, d2, d3, d4, d5, d6, d7⟩ := HFP.out.2.1.all
  have f6 := HFP.out.2.1.fz
  clear HFP HX3 HB12 HZ0
  obtain ⟨R', hR'⟩ : ∃ R', upd R l ⟨a12, n + 1, c12⟩ = R' := ⟨_, rfl⟩
  rw [hR'] at HZ y0 y1 y2 y3 y4 y5 y6 y7
  generalize W12.setCell ⟨q3, l, none⟩ (.slice a12 (n + 1) c12) = W13 at *
  go_wp2
  unfold st8 at HZ
  generalize (((((((W13.setCell ⟨q6, 0, none⟩ (.slice (R' 0).ao (R' 0).n (R' 0).cap)).setCell ⟨q6, 1, none⟩ (.slice (R' 1).ao (R' 1).n (R' 1).cap)).setCell ⟨q6, 2, none⟩ (.slice (R' 2).ao (R' 2).n (R' 2).cap)).setCell ⟨q6, 3, none⟩ (.slice (R' 3).ao (R' 3).n (R' 3).cap)).setCell ⟨q6, 4, none⟩ (.slice (R' 4).ao (R' 4).n (R' 4).cap)).setCell ⟨q6, 5, none⟩ (.slice (R' 5).ao (R' 5).n (R' 5).cap)).setCell ⟨q6, 6, none⟩ (.slice (R' 6).ao (R' 6).n (R' 6).cap)).setCell ⟨q6, 7, none⟩ (.slice (R' 7).ao (R' 7).n (R' 7).cap) = W4 at *
  obtain ⟨u0, u1, u2, u3, u4, u5, u6, u7⟩ := HZ.out.1.all
  refine bodyPost_ret (by simp [results, Try.results13, go_sem, u0, u1, u2, u3, u4, u5, u6, u7]; try rfl) rfl ?_
  exact ⟨⟨a12, n + 1, c12⟩, by rw [hR'], ⟨a10, X.n, c10, X.bs, X.sp⟩, rfl, by rw [hR']; exact HZ.out.2.2, HZ.out.2.1⟩

end Go.Proofs.Ytfllkhimlambhaa
