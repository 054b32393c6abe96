/- The document's Take (there is one), walked. -/
import Derived.Test.YtfllkhimlambhaaRu
namespace Go.Proofs.Ytfllkhimlambhaa
open Go.RowKit
set_option linter.unusedVariables false
set_option maxRecDepth 8000

/-- A frame's bytes where a row of things that aren't bytes has grown. -/
theorem Fb.grown {w w' : World} {V : Nat → Prop} {y : Fv} (h : Fb w V y) {ao : Option Addr} {cap : Nat} {L : List Fv} (ho : OwR fvC 2 39 w ao cap L) (hg : w.grownBy w' (ao.map (·.block))) : Fb w' V y := by
  refine h.keep hg.size fun k cs _ hc => hg.block k (Array.getElem?_eq_some_iff.1 hc).1 ?_
  intro e
  cases ha : ao with
  | none => rw [ha] at e; cases e
  | some a =>
    rw [ha] at e
    obtain ⟨_, cur, h2⟩ := ho.lt a ha
    have e2 : k = a.block := by simpa using e
    rw [e2, h2] at hc
    cases hc

/-- As fin_put, where the order of a region was drawn behind the store. -/
theorem fin_put2 {W W13 : World} {q3 q6 : Nat} {R Z : Nat → Rw} (h3 : Bx W q3 R) (h6 : Bx W q6 Z) (hne : q3 ≠ q6) {l : Nat} (hl : l < 8) (r : Rw) (hW : W13.heap = (W.setCell ⟨q3, l, none⟩ (.slice r.ao r.n r.cap)).heap) {L : List Fv} (ho : OwR fvC 2 39 W r.ao r.cap L) {V : Nat → Prop} (hb : ∀ x ∈ L, Fb W V x) :
    Bx W13 q3 (upd R l r) ∧ Bx W13 q6 Z ∧ Bx (st8 W13 q6 (upd R l r)) q6 (upd R l r) ∧ OwR fvC 2 39 (st8 W13 q6 (upd R l r)) r.ao r.cap L ∧ (∀ x ∈ L, Fb (st8 W13 q6 (upd R l r)) V x) := by
  have k3 : Bx W13 q3 (upd R l r) := (h3.put hl r).keep (by rw [hW])
  have e1 : ∀ j, j ≠ q3 → W13.heap[j]? = W.heap[j]? := fun j hj => by rw [hW]; exact Below.heap_setCell _ _ _ _ (by simpa using hj)
  have k6 : Bx W13 q6 Z := h6.keep (e1 q6 (Ne.symm hne))
  obtain ⟨s1, s2, s3, s4, s5, s6⟩ := st8_facts (upd R l r) k6
  have hsz : W.heap.size ≤ (st8 W13 q6 (upd R l r)).heap.size := by rw [s3, hW]; simp
  refine ⟨k3, k6, s1, ho.keep fun a ha _ => ?_, fun x hx => (hb x hx).keep hsz fun k cs _ hc => ?_⟩
  · obtain ⟨_, cur, hc⟩ := ho.lt a ha
    exact (s2 _ (bx_ne h6 hc (by decide))).trans (e1 _ (bx_ne h3 hc (by decide)))
  · exact (s2 _ (bx_ne h6 hc (by decide))).trans (e1 _ (bx_ne h3 hc (by decide)))

/-- What the document's Take answers. -/
def RTk (w w' : World) (U : Nat → Prop) (R : Nat → Rw) (F : Nat → List Fv) (l k : Nat) (e : Ending) : Prop := ∃ x r', (F l)[k]? = some x ∧ e = .returned (.tuple #[rnV (upd R l r'), .slice x.ao x.n x.cap, .bool true]) ∧ Rn w' U (upd R l r') (upd F l ((F l).take k ++ (F l).drop (k + 1))) ∧ Below w.heap.size w w'

set_option maxHeartbeats 3200000 in
theorem rtake_yes {w : World} {U : Nat → Prop} {R : Nat → Rw} {F : Nat → List Fv} (H : Rn w U R F) (l : Nat) (hl : l < 8) (k : Nat) (hk : k < (F l).length) : Calls Try.prog 15 #[rnV R, .int .i64 (l : Int), .int .i64 (k : Int)] w fun e w' => RTk w w' U R F l k e := by
  obtain ⟨hb, hq3, hq6⟩ := two_al w (rnO R) (rnO r0)
  have HW : Hid (Below w.heap.size w ((w.alloc (rnO R)).alloc (rnO r0)) ∧ Bx ((w.alloc (rnO R)).alloc (rnO r0)) w.heap.size R ∧ Bx ((w.alloc (rnO R)).alloc (rnO r0)) (w.heap.size + 1) r0) := ⟨hb, Bx.of hq3, Bx.of hq6⟩
  clear hb hq3 hq6
  have HH : Hid (Rn w U R F ∧ k < (F l).length) := ⟨H, hk⟩
  clear H hk
  go_enter Try.func15, Try.ntmps15
  go_upto_region 1 with fail
  show Code.wp _ _ _ _ ((w.alloc (rnO R)).alloc (rnO r0))
  obtain ⟨q3, hq3⟩ : ∃ q, w.heap.size = q := ⟨_, rfl⟩
  obtain ⟨q6, hq6⟩ : ∃ q, w.heap.size + 1 = q := ⟨_, rfl⟩
  rw [hq6, hq3]
  have HW2 : Hid (Below w.heap.size w ((w.alloc (rnO R)).alloc (rnO r0)) ∧ Bx ((w.alloc (rnO R)).alloc (rnO r0)) q3 R ∧ Bx ((w.alloc (rnO R)).alloc (rnO r0)) q6 r0 ∧ w.heap.size = q3 ∧ w.heap.size + 1 = q6) := by rw [← hq3, ← hq6]; exact ⟨HW.out.1, HW.out.2.1, HW.out.2.2, rfl, rfl⟩
  clear HW hq3 hq6
  generalize (w.alloc (rnO R)).alloc (rnO r0) = W at *
  obtain ⟨b0, b1, b2, b3, b4, b5, b6, b7⟩ := HW2.out.2.1.all
  have HA : Hid (Calls Try.prog 28 #[rnV R, .int .i64 (l : Int), .int .i64 (k : Int)] W fun e w' => ∃ x, (F l)[k]? = some x ∧ e = .returned (.tuple #[.agg #[.slice x.ao x.n x.cap, .bool x.sp], .bool true]) ∧ Hid (Below W.heap.size W w')) := at_yes (HH.out.1.below HW2.out.1) l hl k HH.out.2
  go_upto_region 2 with (first
    | (go_at_call 28; refine HA.out.mono ?_; rintro e W1 ⟨x, hx, rfl, HB1⟩)
    | fail)
  show Code.wp _ _ _ _ (W1.alloc (itO x))
  obtain ⟨q9, hq9⟩ : ∃ q, W1.heap.size = q := ⟨_, rfl⟩
  have HX : Hid ((F l)[k]? = some x) := hx
  have HB2 : Hid (Below W.heap.size W (W1.alloc (itO x)) ∧ (W1.alloc (itO x)).heap[q9]? = some (itO x) ∧ W.heap.size ≤ q9) := ⟨below_step HB1.out ((Below.refl _ _).alloc (Nat.le_refl _) _), hq9 ▸ heap_alloc_new W1 (itO x), hq9 ▸ HB1.out.size⟩
  rw [hq9]
  clear b0 b1 b2 b3 b4 b5 b6 b7 HA hx hq9
  generalize W1.alloc (itO x) = W2 at *
  have HRn : Hid (Rn W2 U R F) := (HH.out.1.below HW2.out.1).below HB2.out.1
  obtain ⟨e0, e1⟩ := itCells HB2.out.2.1
  obtain ⟨rb, xx, hA, hxx, hrl, -, -, -⟩ := HRn.out.at l k hl HH.out.2
  clear hxx
  have hc := (HW2.out.2.1.below HB2.out.1).c l hl
  have hlz : (l : Int) < 8 := by omega
  obtain ⟨n, hn⟩ : ∃ n, (R l).n = n := ⟨_, rfl⟩
  obtain ⟨c0, hc0⟩ : ∃ c, (R l).cap = c := ⟨_, rfl⟩
  have hnF : (F l).length = n := by rw [← hn]; exact HRn.out.len l hl
  have hkn : k < n := by have := HH.out.2; omega
  have hn200 : n ≤ 200 := hnF ▸ HRn.out.le l hl
  have hrow := HRn.out.row l hl
  rw [hA, hc0] at hrow
  have hnc : n ≤ c0 := hnF ▸ hrow.le
  have hcm : c0 ≤ maxLen := hrow.rd.mx
  rw [show sl (R l) = .slice (R l).ao (R l).n (R l).cap from rfl, hA, hn, hc0] at hc
  have hcA : (W2.alloc (.cells #[] 39)).cell? ⟨q3, l, none⟩ = some (.slice (some ⟨rb, 0, none⟩) n c0) := (((Below.refl W2.heap.size W2).alloc (Nat.le_refl _) (.cells #[] 39)).cell (p := ⟨q3, l, none⟩) (HW2.out.2.1.below HB2.out.1).lt).trans hc
  obtain ⟨r, hkr⟩ : ∃ r, n - (k + 1) = r := ⟨_, rfl⟩
  obtain ⟨N1, hN1⟩ : ∃ N1, k + r = N1 := ⟨_, rfl⟩
  have HK : Hid (k + r + 1 = n ∧ k + r = N1 ∧ (F l).length = n ∧ n ≤ 200 ∧ n ≤ c0) := ⟨by omega, hN1, hnF, hn200, hnc⟩
  have HRow : Hid (OwR fvC 2 39 W2 (some ⟨rb, 0, none⟩) c0 (F l) ∧ c0 ≤ maxLen) := ⟨hrow, hcm⟩
  have HR : Hid (RdR fvC (W2.alloc (.cells #[] 39)) (some ⟨rb, 0, none⟩) c0 ((F l).take k) ∧ ((F l).take k).length = k) := ⟨((hrow.sub fvE k).rd).below ((Below.refl _ _).alloc (Nat.le_refl _) _), by rw [List.length_take]; omega⟩
  clear hA hn hc0 hrow hcm hN1 hrl
  have hk63 : IntKind.i64.wrap ((k : Int) + 1) = (k : Int) + 1 := by rw [IntKind.wrap_i64]; omega
  have hkc : k ≤ c0 := by omega
  have hk1n : (k : Int) + 1 ≤ (n : Int) := by omega
  have hkp : (0 : Int) ≤ (k : Int) + 1 := by omega
  have hkq : (k : Int) ≤ (c0 : Int) := by omega
  have hkneg : ¬ (k : Int) < 0 := by omega
  go_upto_region 5 with (first
    | (at_builtin; refine wpList_append_N fvE _ k (n := 0) (m := k) (by omega) rfl (.tmp 22) (.tmp 27) 29 rfl 39 _ 32 Try.underlying29 info39 rfl (L := []) (M := (F l).take k) rfl rfl (OwR.fresh 39 W2) HR.out.1 rfl HR.out.2 (by omega) (by unfold maxLen; omega) ?_; intro a8 c8 W8 ho8 hg8 hl8; simp only [List.nil_append] at ho8; have HB8 : Hid (Below W2.heap.size W2 W8 ∧ OwR fvC 2 39 W8 a8 c8 ((F l).take k) ∧ ∀ a, a8 = some a → W2.heap.size ≤ a.block) := ⟨((Below.refl _ _).alloc (Nat.le_refl _) (.cells #[] 39)).trans (grown_bel hg8 (by simp) (fun a ha => by cases ha; exact Nat.le_refl _)), ho8, fun a ha => by rcases hl8 with e | e <;> (rw [e] at ha; cases ha; simp)⟩; clear ho8 hg8 hl8)
    | fail)
  have hc8 : W8.cell? ⟨q3, l, none⟩ = some (.slice (some ⟨rb, 0, none⟩) n c0) := (HB8.out.1.cell (p := ⟨q3, l, none⟩) (HW2.out.2.1.below HB2.out.1).lt).trans hc
  have hf8 := ((HW2.out.2.1.below HB2.out.1).below HB8.out.1).fz l
  clear hc hcA HR
  have HF3 : Hid (∀ (W9 : World) (a9 : Option Addr) (c9 : Nat), OwR fvC 2 39 W9 a9 c9 ((F l).take k ++ (F l).drop (k + 1)) → W8.grownBy W9 (a8.map (·.block)) → W9.cell? ⟨q3, l, none⟩ = some (.slice (some ⟨rb, 0, none⟩) n c0) ∧ W9.frozen? ⟨q3, l, none⟩ = false ∧ Hid (Below w.heap.size w (W9.setCell ⟨q3, l, none⟩ (.slice a9 N1 c9)).drew ∧ Bx (W9.setCell ⟨q3, l, none⟩ (.slice a9 N1 c9)).drew q3 (upd R l ⟨a9, N1, c9⟩) ∧ Bx (W9.setCell ⟨q3, l, none⟩ (.slice a9 N1 c9)).drew q6 r0 ∧ (W9.setCell ⟨q3, l, none⟩ (.slice a9 N1 c9)).drew.heap[q9]? = some (itO x) ∧ Bx (st8 (W9.setCell ⟨q3, l, none⟩ (.slice a9 N1 c9)).drew q6 (upd R l ⟨a9, N1, c9⟩)) q6 (upd R l ⟨a9, N1, c9⟩) ∧ Rn (st8 (W9.setCell ⟨q3, l, none⟩ (.slice a9 N1 c9)).drew q6 (upd R l ⟨a9, N1, c9⟩)) U (upd R l ⟨a9, N1, c9⟩) (upd F l ((F l).take k ++ (F l).drop (k + 1))) ∧ Below w.heap.size w (st8 (W9.setCell ⟨q3, l, none⟩ (.slice a9 N1 c9)).drew q6 (upd R l ⟨a9, N1, c9⟩)))) := by
    intro W9 a9 c9 ho9 hg9
    have hb9 : Below W2.heap.size W2 W9 := HB8.out.1.trans (grown_bel hg9 HB8.out.1.size HB8.out.2.2)
    have k3 := (HW2.out.2.1.below HB2.out.1).below hb9
    have k6 := (HW2.out.2.2.1.below HB2.out.1).below hb9
    have hbw : Below w.heap.size w W9 := (HW2.out.1.trans (HB2.out.1.mono HW2.out.1.size)).trans (hb9.mono (Nat.le_trans HW2.out.1.size HB2.out.1.size))
    have hfb : ∀ y ∈ (F l).take k ++ (F l).drop (k + 1), Fb W9 U y := by
      intro y hy
      have hy2 : y ∈ F l := by
        rcases List.mem_append.1 hy with hy | hy
        · exact List.mem_of_mem_take hy
        · exact List.mem_of_mem_drop hy
      exact ((HRn.out.by' l hl y hy2).below HB8.out.1).grown HB8.out.2.1 hg9
    obtain ⟨p1, p2, p3, p4, p5⟩ := fin_put2 (W13 := (W9.setCell ⟨q3, l, none⟩ (.slice a9 N1 c9)).drew) k3 k6 (by have := HW2.out; omega) hl ⟨a9, N1, c9⟩ rfl ho9 hfb
    have hbs : Below w.heap.size w (W9.setCell ⟨q3, l, none⟩ (.slice a9 N1 c9)).drew := (hbw.setCell (by have := HW2.out; simp only; omega) _).trans ((bel0 _).mono (by have := hbw.size; simp; omega))
    have hlen : ((F l).take k ++ (F l).drop (k + 1)).length = N1 := by rw [List.length_append, List.length_take, List.length_drop]; have := HK.out; omega
    have hb8 := st8_below (upd R l ⟨a9, N1, c9⟩) p2 hbs (by have := HW2.out; omega)
    refine ⟨?_, k3.fz l, hbs, p1, p2, ?_, p3, HH.out.1.upd hb8 p4 hlen (by have := HK.out; omega) (fun _ h => h) p5, hb8⟩
    · have h3 := (HW2.out.2.1.below HB2.out.1).lt
      have e1 : W9.heap[q3]? = W8.heap[q3]? := (hb9.block q3 h3).trans (HB8.out.1.block q3 h3).symm
      exact (World.cell?_of_block (w := W8) (a := ⟨q3, l, none⟩) e1).trans hc8
    · have h9 := (Array.getElem?_eq_some_iff.1 HB2.out.2.1).1
      exact (Below.heap_setCell _ _ _ _ (by have := HB2.out.2.2; have := HW2.out.2.1.lt; simp only; omega)).trans ((hb9.block q9 h9).trans HB2.out.2.1)
  by_cases hca : c0 = k + 1
  · subst hca
    have hkr0 : n - (k + 1) = 0 := by omega
    clear hkr
    have HT : Hid (RdR fvC W8 (some ⟨rb, 0, none⟩) (0) ((F l).drop (k + 1)) ∧ ((F l).drop (k + 1)).length = 0 ∧ k + 0 = N1 ∧ ((F l).take k).length = k ∧ k ≤ 200 ∧ N1 ≤ 200) := by
      have hk := HK.out
      have h2 := RdR.tail (off := 0) fvE (HRow.out.1.below HB8.out.1).rd (k + 1) (by omega) ⟨rb, 0, none⟩ (fun h => by omega)
      try simp at h2
      exact ⟨h2, by rw [List.length_drop]; omega, by omega, by rw [List.length_take]; omega, by omega, by omega⟩
    go_upto_region 6 with (first
      | (at_builtin; refine wpList_append_N fvE _ N1 (n := k) (m := 0) HT.out.2.2.1 rfl (.tmp 30) (.tmp 36) 29 rfl 39 _ 32 Try.underlying29 info39 rfl (L := (F l).take k) (M := (F l).drop (k + 1)) rfl rfl HB8.out.2.1 HT.out.1 HT.out.2.2.2.1 HT.out.2.1 (by have := HT.out; omega) (by unfold maxLen; have := HT.out; omega) ?_; intro a9 c9 W9 ho9 hg9 hl9; obtain ⟨hc9, hf9, HZ9⟩ := HF3.out W9 a9 c9 ho9 hg9; clear ho9 hg9 hl9 hc8 hf8)
      | fail)
    obtain ⟨R', hR'⟩ : ∃ R', upd R l ⟨a9, N1, c9⟩ = R' := ⟨_, rfl⟩
    rw [hR'] at HZ9
    have HE : Hid (upd R l ⟨a9, N1, c9⟩ = R') := hR'
    clear hR' hc9 hf9
    generalize W9.setCell ⟨q3, l, none⟩ (.slice a9 N1 c9) = W10 at *
    refine wp_region_held (S := fun V => Bx V q3 R' ∧ V.heap[q9]? = some (itO x)) (by kernel_rfl) ?_
    show wpAnyH _ _ _ _ _ _ _ _ W10.drew
    generalize W10.drew = W11 at *
    have hS : Bx W11 q3 R' ∧ W11.heap[q9]? = some (itO x) := ⟨HZ9.out.2.1, HZ9.out.2.2.2.1⟩
    refine held_val (i := 0) ?_ 39 rfl rfl (by kernel_rfl) (by kernel_rfl) (by kernel_rfl) (by rfl) (fun _ _ _ h => h) hS ?_ ?_
    rotate_left
    · (intro w hSw; obtain ⟨b0, b1, b2, b3, b4, b5, b6, b7⟩ := hSw.1.all; obtain ⟨e0, e1⟩ := itCells hSw.2; go_simp; first | done | with_reducible rfl)
    simp only [Act.put, List.setIfInBounds_toArray, List.set_cons_zero, List.set_cons_succ]
    refine held_val (i := 1) ?_ 40 rfl rfl (by kernel_rfl) (by kernel_rfl) (by kernel_rfl) (by rfl) (fun _ _ _ h => h) hS ?_ ?_
    rotate_left
    · (intro w hSw; go_simp; first | done | with_reducible rfl)
    simp only [Act.put, List.setIfInBounds_toArray, List.set_cons_zero, List.set_cons_succ]
    refine held_val (i := 2) ?_ 41 rfl rfl (by kernel_rfl) (by kernel_rfl) (by kernel_rfl) (by rfl) (fun _ _ _ h => h) hS ?_ ?_
    rotate_left
    · (intro w hSw; obtain ⟨b0, b1, b2, b3, b4, b5, b6, b7⟩ := hSw.1.all; obtain ⟨e0, e1⟩ := itCells hSw.2; go_simp; first | done | with_reducible rfl)
    simp only [Act.put, List.setIfInBounds_toArray, List.set_cons_zero, List.set_cons_succ]
    have H6 : Hid (Bx W11 q6 r0) := HZ9.out.2.2.1
    obtain ⟨d0, d1, d2, d3, d4, d5, d6, d7⟩ := H6.out.all
    have f6 := H6.out.fz
    have hS2 : Bx (st8 W11 q6 R') q3 R' ∧ (st8 W11 q6 R').heap[q9]? = some (itO x) := by
      have h2 := (st8_facts R' H6.out).2.1
      exact ⟨hS.1.keep (h2 q3 (by have := HW2.out; omega)), (h2 q9 (bx_ne H6.out hS.2 (by decide))).trans hS.2⟩
    have HZ : Hid (Bx (st8 W11 q6 R') q6 R' ∧ Below w.heap.size w (st8 W11 q6 R') ∧ Rn (st8 W11 q6 R') U R' (upd F l ((F l).take k ++ (F l).drop (k + 1)))) := ⟨HZ9.out.2.2.2.2.1, HZ9.out.2.2.2.2.2.2, HZ9.out.2.2.2.2.2.1⟩
    have HSS := hid_of hS2
    refine held_last (i := 3) (st8 W11 q6 R') rfl (by kernel_rfl) (by rfl) (by go_simp) hS2 ?_
    clear d0 d1 d2 d3 d4 d5 d6 d7 f6 hS H6 HZ9
    generalize st8 W11 q6 R' = W12 at *
    refine held_val (i := 4) ?_ 7 rfl rfl (by kernel_rfl) (by kernel_rfl) (by kernel_rfl) (by rfl) (fun _ _ _ h => h) HSS.out ?_ ?_
    rotate_left
    · (intro w hSw; go_simp; first | done | with_reducible rfl)
    simp only [Act.put, List.setIfInBounds_toArray, List.set_cons_zero, List.set_cons_succ]
    refine held_val (i := 5) ?_ 8 rfl rfl (by kernel_rfl) (by kernel_rfl) (by kernel_rfl) (by rfl) (fun _ _ _ h => h) HSS.out ?_ ?_
    rotate_left
    · (intro w hSw; go_simp; first | done | with_reducible rfl)
    simp only [Act.put, List.setIfInBounds_toArray, List.set_cons_zero, List.set_cons_succ]
    refine wpAnyH_done (by kernel_rfl) ?_ _
    clear HSS hS2
    obtain ⟨u0, u1, u2, u3, u4, u5, u6, u7⟩ := HZ.out.1.all
    go_wp2
    refine bodyPost_ret (by simp [results, Try.results15, go_sem, u0, u1, u2, u3, u4, u5, u6, u7]; try rfl) rfl ?_
    unfold RTk
    exact ⟨x, ⟨a9, N1, c9⟩, HX.out, by rw [HE.out], by rw [HE.out]; exact HZ.out.2.2, HZ.out.2.1⟩
  · have hca1 : ¬ c0 = k := by have := HK.out; omega
    have HT : Hid (RdR fvC W8 (some ⟨rb, (k + 1) * 2, none⟩) (c0 - (k + 1)) ((F l).drop (k + 1)) ∧ ((F l).drop (k + 1)).length = r ∧ k + r = N1 ∧ ((F l).take k).length = k ∧ k ≤ 200 ∧ N1 ≤ 200) := by
      have hk := HK.out
      have h2 := RdR.tail (off := 0) fvE (HRow.out.1.below HB8.out.1).rd (k + 1) (by omega) ⟨rb, (k + 1) * 2, none⟩ (fun h => by rw [Nat.zero_add])
      try simp at h2
      exact ⟨h2, by rw [List.length_drop]; omega, by omega, by rw [List.length_take]; omega, by omega, by omega⟩
    go_upto_region 6 with (first
      | (at_builtin; refine wpList_append_N fvE _ N1 (n := k) (m := r) HT.out.2.2.1 rfl (.tmp 30) (.tmp 36) 29 rfl 39 _ 32 Try.underlying29 info39 rfl (L := (F l).take k) (M := (F l).drop (k + 1)) rfl rfl HB8.out.2.1 HT.out.1 HT.out.2.2.2.1 HT.out.2.1 (by have := HT.out; omega) (by unfold maxLen; have := HT.out; omega) ?_; intro a9 c9 W9 ho9 hg9 hl9; obtain ⟨hc9, hf9, HZ9⟩ := HF3.out W9 a9 c9 ho9 hg9; clear ho9 hg9 hl9 hc8 hf8)
      | fail)
    obtain ⟨R', hR'⟩ : ∃ R', upd R l ⟨a9, N1, c9⟩ = R' := ⟨_, rfl⟩
    rw [hR'] at HZ9
    have HE : Hid (upd R l ⟨a9, N1, c9⟩ = R') := hR'
    clear hR' hc9 hf9
    generalize W9.setCell ⟨q3, l, none⟩ (.slice a9 N1 c9) = W10 at *
    refine wp_region_held (S := fun V => Bx V q3 R' ∧ V.heap[q9]? = some (itO x)) (by kernel_rfl) ?_
    show wpAnyH _ _ _ _ _ _ _ _ W10.drew
    generalize W10.drew = W11 at *
    have hS : Bx W11 q3 R' ∧ W11.heap[q9]? = some (itO x) := ⟨HZ9.out.2.1, HZ9.out.2.2.2.1⟩
    refine held_val (i := 0) ?_ 39 rfl rfl (by kernel_rfl) (by kernel_rfl) (by kernel_rfl) (by rfl) (fun _ _ _ h => h) hS ?_ ?_
    rotate_left
    · (intro w hSw; obtain ⟨b0, b1, b2, b3, b4, b5, b6, b7⟩ := hSw.1.all; obtain ⟨e0, e1⟩ := itCells hSw.2; go_simp; first | done | with_reducible rfl)
    simp only [Act.put, List.setIfInBounds_toArray, List.set_cons_zero, List.set_cons_succ]
    refine held_val (i := 1) ?_ 40 rfl rfl (by kernel_rfl) (by kernel_rfl) (by kernel_rfl) (by rfl) (fun _ _ _ h => h) hS ?_ ?_
    rotate_left
    · (intro w hSw; go_simp; first | done | with_reducible rfl)
    simp only [Act.put, List.setIfInBounds_toArray, List.set_cons_zero, List.set_cons_succ]
    refine held_val (i := 2) ?_ 41 rfl rfl (by kernel_rfl) (by kernel_rfl) (by kernel_rfl) (by rfl) (fun _ _ _ h => h) hS ?_ ?_
    rotate_left
    · (intro w hSw; obtain ⟨b0, b1, b2, b3, b4, b5, b6, b7⟩ := hSw.1.all; obtain ⟨e0, e1⟩ := itCells hSw.2; go_simp; first | done | with_reducible rfl)
    simp only [Act.put, List.setIfInBounds_toArray, List.set_cons_zero, List.set_cons_succ]
    have H6 : Hid (Bx W11 q6 r0) := HZ9.out.2.2.1
    obtain ⟨d0, d1, d2, d3, d4, d5, d6, d7⟩ := H6.out.all
    have f6 := H6.out.fz
    have hS2 : Bx (st8 W11 q6 R') q3 R' ∧ (st8 W11 q6 R').heap[q9]? = some (itO x) := by
      have h2 := (st8_facts R' H6.out).2.1
      exact ⟨hS.1.keep (h2 q3 (by have := HW2.out; omega)), (h2 q9 (bx_ne H6.out hS.2 (by decide))).trans hS.2⟩
    have HZ : Hid (Bx (st8 W11 q6 R') q6 R' ∧ Below w.heap.size w (st8 W11 q6 R') ∧ Rn (st8 W11 q6 R') U R' (upd F l ((F l).take k ++ (F l).drop (k + 1)))) := ⟨HZ9.out.2.2.2.2.1, HZ9.out.2.2.2.2.2.2, HZ9.out.2.2.2.2.2.1⟩
    have HSS := hid_of hS2
    refine held_last (i := 3) (st8 W11 q6 R') rfl (by kernel_rfl) (by rfl) (by go_simp) hS2 ?_
    clear d0 d1 d2 d3 d4 d5 d6 d7 f6 hS H6 HZ9
    generalize st8 W11 q6 R' = W12 at *
    refine held_val (i := 4) ?_ 7 rfl rfl (by kernel_rfl) (by kernel_rfl) (by kernel_rfl) (by rfl) (fun _ _ _ h => h) HSS.out ?_ ?_
    rotate_left
    · (intro w hSw; go_simp; first | done | with_reducible rfl)
    simp only [Act.put, List.setIfInBounds_toArray, List.set_cons_zero, List.set_cons_succ]
    refine held_val (i := 5) ?_ 8 rfl rfl (by kernel_rfl) (by kernel_rfl) (by kernel_rfl) (by rfl) (fun _ _ _ h => h) HSS.out ?_ ?_
    rotate_left
    · (intro w hSw; go_simp; first | done | with_reducible rfl)
    simp only [Act.put, List.setIfInBounds_toArray, List.set_cons_zero, List.set_cons_succ]
    refine wpAnyH_done (by kernel_rfl) ?_ _
    clear HSS hS2
    obtain ⟨u0, u1, u2, u3, u4, u5, u6, u7⟩ := HZ.out.1.all
    go_wp2
    refine bodyPost_ret (by simp [results, Try.results15, go_sem, u0, u1, u2, u3, u4, u5, u6, u7]; try rfl) rfl ?_
    unfold RTk
    exact ⟨x, ⟨a9, N1, c9⟩, HX.out, by rw [HE.out], by rw [HE.out]; exact HZ.out.2.2, HZ.out.2.1⟩

end Go.Proofs.Ytfllkhimlambhaa
