/- Put of package cache: a page that isn't there, and what can't be put, walked. -/
import Derived.Test.YtmmgdmfdiaoegaaGreatC7
namespace Go.Proofs.YtmmgdmfdiaoegaaGreat
open Go.RowKit
set_option linter.unusedVariables false
set_option maxRecDepth 8000

theorem mrL_le (L : List En) (room : Int) (ks : List Int) : (mrL L room ks).length ≤ L.length := by
  unfold mrL
  split
  · exact Nat.le_refl _
  · split
    · rw [List.length_append, List.length_take, List.length_drop]; omega
    · exact Nat.le_refl _

set_option maxHeartbeats 1600000 in
theorem put_full (w : World) (A : Nat → Prop) (hA : ∀ k, A k → k < w.heap.size) (c : Nat) (room : Int) (ao : Option Addr) (cap : Nat) (L : List En) (H : Ca w A c room ao cap L) (hl : L.length ≤ 100000) (p cm om : Nat) (hp : PutOk p cm om) (v : Nat → Nat × Nat) (ka : Option Addr) (kn kc : Nat) (ks : List Int) (hks : RdI w .i64 ka kc ks) (hkn : ks.length = kn) (hkl : kn ≤ 9223372036854775807) (hno : ¬ plN L p < L.length) (hf : mrB L room ks = false) :
    Calls Tryz.prog 78 #[cp c, .int .i64 (p : Int), .int .i64 (cm : Int), .int .i64 (om : Int), vaV v, .slice ka kn kc] w fun e w' => e = .returned (.tuple #[.int .i64 (-1), .bool false]) ∧ Ca w' A c room ao cap L ∧ OffS A w w' := by
  have hl' : L.length ≤ 1000000 := by omega
  have hl := hl'
  have h1 : pgB p = true := by have := hp.p6; simp [pgB]; omega
  have h2 : mkB cm = true := by have := hp.c16; simp [mkB]; omega
  have h3 : mkB om = true := by have := hp.o16; simp [mkB]; omega
  have h4 : (bits .andNot .i64 (om : Int) (cm : Int) != 0) = false := by rw [hp.sub]; rfl
  have h5 : ((cm : Int) == 0) = false := by have := hp.c0; simp; omega
  have hst := fun (ad : Addr) (re im : Nat) (W : World) => run_store Tryz.prog W ad (.complex .f64 re im) .plain rfl
  have hb0 : Below w.heap.size w (w.alloc (vaO v)) := (Below.refl _ _).alloc (Nat.le_refl _) _
  have hz : plZ L p = -1 := by rw [plZ, if_neg hno]
  have HP : Hid (Calls Tryz.prog 83 #[cp c, .int .i64 (p : Int)] (w.alloc (vaO v)) fun e w' => e = .returned (.int .i64 (-1)) ∧ Below w.heap.size w w' ∧ w'.heap[w.heap.size]? = some (vaO v)) := by
    refine (place_any _ A c room _ cap L (H.below hb0) hl p).mono ?_
    rintro e w' ⟨rfl, hb⟩
    exact ⟨ret_int hz, below_step hb0 hb, (hb.block _ (by simp)).trans (heap_alloc_new w _)⟩
  have HM : Hid (∀ W : World, Below w.heap.size w W → W.heap[w.heap.size]? = some (vaO v) → Calls Tryz.prog 96 #[cp c, .slice ka kn kc] W fun e w' => e = .returned (.tuple #[.int .i64 (mrZ L room ks), .bool (mrB L room ks)]) ∧ Ca w' A c room ao cap (mrL L room ks) ∧ OffS A w w' ∧ w'.heap[w.heap.size]? = some (vaO v)) := fun W hW hB => by
    refine (makeRoom_any W A c room ao cap L (H.below hW) hl ka kn kc ks (hks.below hW) hkn hkl).mono ?_
    rintro e w' ⟨rfl, u1, u2⟩
    have hlt : w.heap.size < W.heap.size := (Array.getElem?_eq_some_iff.1 hB).1
    exact ⟨rfl, u1, (OffS.of_below hW).trans (u2.mono fun _ h => .inl h), (u2.block _ hlt (fun h => by have := hA _ h; omega)).trans hB⟩
  have e3 : mrL L room ks = L := by
    simp only [mrB, Bool.or_eq_false_iff, decide_eq_false_iff_not] at hf
    unfold mrL
    rw [if_neg hf.1, if_neg hf.2]
  rw [hf, e3] at HM
  generalize mrZ L room ks = z at *
  clear H hl hA hb0 hz hp e3 hf hks hkn
  go_enter Tryz.func78, Tryz.ntmps78
  go_wp2_with (first
    | (go_at_call 95; refine (isPage_any _ _).mono ?_; rw [h1]; rintro e w1 ⟨rfl, hw1⟩; subst w1)
    | (go_at_call 84; refine (isMask_any _ _).mono ?_; (first | rw [h2] | rw [h3]); rintro e w2 ⟨rfl, hw2⟩; subst w2)
    | (go_at_call 96; refine (HM.out W hW1 hW3).mono ?_; rintro e W3 ⟨rfl, hC3, hO3, hB3⟩)
    | (go_at_call 83; refine HP.out.mono ?_; rintro e W ⟨rfl, hW1, hW3⟩)
    | fail)
  go_ret2
  exact ⟨rfl, hC3, hO3⟩

set_option maxHeartbeats 3200000 in
theorem put_new (w : World) (A : Nat → Prop) (hA : ∀ k, A k → k < w.heap.size) (c : Nat) (room : Int) (ao : Option Addr) (cap : Nat) (L : List En) (H : Ca w A c room ao cap L) (hl : L.length ≤ 100000) (p cm om : Nat) (hp : PutOk p cm om) (v : Nat → Nat × Nat) (ka : Option Addr) (kn kc : Nat) (ks : List Int) (hks : RdI w .i64 ka kc ks) (hkn : ks.length = kn) (hkl : kn ≤ 9223372036854775807) (hno : ¬ plN L p < L.length) (hf : mrB L room ks = true) :
    Calls Tryz.prog 78 #[cp c, .int .i64 (p : Int), .int .i64 (cm : Int), .int .i64 (om : Int), vaV v, .slice ka kn kc] w fun e w' => e = .returned (.tuple #[.int .i64 (mrZ L room ks), .bool true]) ∧ Nx w w' A c room (mrL L room ks ++ [fillE ⟨p, 0, 0, fun _ => (0, 0)⟩ cm om v]) := by
  have hl' : L.length ≤ 1000000 := by omega
  have hl0 := hl
  have hl := hl'
  have h1 : pgB p = true := by have := hp.p6; simp [pgB]; omega
  have h2 : mkB cm = true := by have := hp.c16; simp [mkB]; omega
  have h3 : mkB om = true := by have := hp.o16; simp [mkB]; omega
  have h4 : (bits .andNot .i64 (om : Int) (cm : Int) != 0) = false := by rw [hp.sub]; rfl
  have h5 : ((cm : Int) == 0) = false := by have := hp.c0; simp; omega
  have hst := fun (ad : Addr) (re im : Nat) (W : World) => run_store Tryz.prog W ad (.complex .f64 re im) .plain rfl
  have hb0 : Below w.heap.size w (w.alloc (vaO v)) := (Below.refl _ _).alloc (Nat.le_refl _) _
  have hz : plZ L p = -1 := by rw [plZ, if_neg hno]
  have HP : Hid (Calls Tryz.prog 83 #[cp c, .int .i64 (p : Int)] (w.alloc (vaO v)) fun e w' => e = .returned (.int .i64 (-1)) ∧ Below w.heap.size w w' ∧ w'.heap[w.heap.size]? = some (vaO v)) := by
    refine (place_any _ A c room _ cap L (H.below hb0) hl p).mono ?_
    rintro e w' ⟨rfl, hb⟩
    exact ⟨ret_int hz, below_step hb0 hb, (hb.block _ (by simp)).trans (heap_alloc_new w _)⟩
  have HM : Hid (∀ W : World, Below w.heap.size w W → W.heap[w.heap.size]? = some (vaO v) → Calls Tryz.prog 96 #[cp c, .slice ka kn kc] W fun e w' => e = .returned (.tuple #[.int .i64 (mrZ L room ks), .bool (mrB L room ks)]) ∧ Ca w' A c room ao cap (mrL L room ks) ∧ OffS A w w' ∧ w'.heap[w.heap.size]? = some (vaO v)) := fun W hW hB => by
    refine (makeRoom_any W A c room ao cap L (H.below hW) hl ka kn kc ks (hks.below hW) hkn hkl).mono ?_
    rintro e w' ⟨rfl, u1, u2⟩
    have hlt : w.heap.size < W.heap.size := (Array.getElem?_eq_some_iff.1 hB).1
    exact ⟨rfl, u1, (OffS.of_below hW).trans (u2.mono fun _ h => .inl h), (u2.block _ hlt (fun h => by have := hA _ h; omega)).trans hB⟩
  rw [hf] at HM
  have HLE : Hid ((mrL L room ks).length ≤ 100000) := Nat.le_trans (mrL_le L room ks) hl0
  generalize mrL L room ks = M at *
  generalize mrZ L room ks = z at *
  obtain ⟨m, hm⟩ : ∃ m, M.length = m := ⟨_, rfl⟩
  have HQ : Hid (M.length = m ∧ cm < 16 ∧ (∀ j, A j → j < w.heap.size)) := ⟨hm, hp.c16, hA⟩
  have hmm : m ≤ 100000 := by have := HLE.out; omega
  clear H hl hl0 hl' hA hb0 hz hp hf hks hkn hno hm
  go_enter Tryz.func78, Tryz.ntmps78
  go_upto_region 13 with (first
    | (go_at_call 95; refine (isPage_any _ _).mono ?_; rw [h1]; rintro e w1 ⟨rfl, hw1⟩; subst w1)
    | (go_at_call 84; refine (isMask_any _ _).mono ?_; (first | rw [h2] | rw [h3]); rintro e w2 ⟨rfl, hw2⟩; subst w2)
    | (go_at_call 96; refine (HM.out W hW1 hW3).mono ?_; rintro e W3 ⟨rfl, hC3, hO3, hB3⟩)
    | (go_at_call 83; refine HP.out.mono ?_; rintro e W ⟨rfl, hW1, hW3⟩)
    | fail)
  obtain ⟨n10, hn⟩ : ∃ n, w.heap.size = n := ⟨_, rfl⟩
  rw [hn] at hB3 HQ ⊢
  have HC : Hid (Ca W3 A c room ao cap M ∧ OffS A w W3 ∧ W3.heap[n10]? = some (vaO v) ∧ w.heap.size = n10) := ⟨hC3, hO3, hB3, hn⟩
  have d1 := hC3.c1
  rw [HQ.out.1] at d1
  clear hC3 hO3 hB3 hW1 hW3 HM HP
  clear hn
  have hbA : Below W3.heap.size W3 (W3.alloc (.cells #[.int .i64 (p : Int), .int .i64 0, .int .i64 0, .complex .f64 0 0, .complex .f64 0 0, .complex .f64 0 0, .complex .f64 0 0] 135)) := (Below.refl _ _).alloc (Nat.le_refl _) _
  have HAp : Hid (∀ a3 c3 w3, OwR enC 7 135 w3 a3 c3 (M ++ [⟨p, 0, 0, fun _ => (0, 0)⟩]) → (W3.alloc (.cells #[.int .i64 (p : Int), .int .i64 0, .int .i64 0, .complex .f64 0 0, .complex .f64 0 0, .complex .f64 0 0, .complex .f64 0 0] 135)).grownBy w3 (ao.map (·.block)) → (a3 = ao ∨ a3 = some ⟨(W3.alloc (.cells #[.int .i64 (p : Int), .int .i64 0, .int .i64 0, .complex .f64 0 0, .complex .f64 0 0, .complex .f64 0 0, .complex .f64 0 0] 135)).heap.size, 0, none⟩) →
      w3.cell? ⟨c, 1, none⟩ = some (.slice ao m cap) ∧ w3.frozen? ⟨c, 1, none⟩ = false ∧ Hid (∃ g, a3 = some ⟨g, 0, none⟩ ∧ Ca (w3.setCell ⟨c, 1, none⟩ (.slice a3 (m + 1) c3)) (fun k => A k ∨ W3.heap.size ≤ k) c room a3 c3 (M ++ [⟨p, 0, 0, fun _ => (0, 0)⟩]) ∧ OffS A w (w3.setCell ⟨c, 1, none⟩ (.slice a3 (m + 1) c3)) ∧ (w3.setCell ⟨c, 1, none⟩ (.slice a3 (m + 1) c3)).heap[n10]? = some (vaO v))) := fun a3 c3 w3 ho hg hloc => by
    have H := HC.out.1
    have hg' : W3.grownBy w3 (ao.map (·.block)) := ⟨hg.os, hg.tape, hg.output, Nat.le_trans hbA.size hg.size, fun j hj hne => (hg.block j (Nat.lt_of_lt_of_le hj hbA.size) hne).trans (hbA.block j hj)⟩
    have hcb : some c ≠ ao.map (·.block) := by
      intro e
      cases ao with
      | none => cases e
      | some a => exact H.ne a rfl (by simpa using e.symm)
    have hblk := (hg'.block c H.lt hcb).trans H.blk
    obtain ⟨k1, k2⟩ := H.stored hg' ho (m3 := m + 1) (by rw [List.length_append, HQ.out.1]; rfl) (fun k => A k ∨ W3.heap.size ≤ k) (fun _ h => .inl h) (fun a ha => by
      rcases hloc with rfl | rfl
      · exact .inl (H.ar a ha)
      · cases ha
        exact .inr (by simp))
    refine ⟨?_, frozen_of_row _ _ _ _ _ hblk, ?_⟩
    · rw [cell_of_row _ _ _ _ _ _ hblk, HQ.out.1]; rfl
    · obtain ⟨g, hg3⟩ : ∃ g, a3 = some ⟨g, 0, none⟩ := by
        rcases ho with ⟨_, _, e⟩ | ⟨g, _, e, _⟩
        · simp at e
        · exact ⟨g, e⟩
      have hlt : n10 < W3.heap.size := (Array.getElem?_eq_some_iff.1 HC.out.2.2.1).1
      have hnA : ¬ A n10 := fun h => by have := HQ.out.2.2 _ h; omega
      exact ⟨g, hg3, k1, HC.out.2.1.trans (k2.mono fun _ h => .inl h), (k2.block n10 hlt hnA).trans HC.out.2.2.1⟩
  have HOW : Hid (OwR enC 7 135 (W3.alloc (.cells #[.int .i64 (p : Int), .int .i64 0, .int .i64 0, .complex .f64 0 0, .complex .f64 0 0, .complex .f64 0 0, .complex .f64 0 0] 135)) ao cap M) := (HC.out.1.below hbA).own
  clear hbA
  go_upto_region 15 with (first
    | (at_builtin; refine wpList_append_R enE _ rfl _ _ 64 rfl 135 zE 88 Tryz.underlying64 info43 rfl (L := M) (M := [⟨p, 0, 0, fun _ => (0, 0)⟩]) (n := m) (m := 1) rfl rfl HOW.out (RdR.built enE W3 135 _ [⟨p, 0, 0, fun _ => (0, 0)⟩] rfl 1 rfl (by unfold maxLen; omega)) HQ.out.1 rfl (by omega) (by unfold maxLen; omega) ?_; intro a3 c3 w3 ho3 hg3 hl3; obtain ⟨e1, e2, HG⟩ := HAp.out a3 c3 w3 ho3 hg3 hl3)
    | fail)
  clear ho3 hg3 hl3 e1 e2 HAp HOW
  generalize w3.setCell ⟨c, 1, none⟩ (.slice a3 (m + 1) c3) = W at *
  have HG' := HG
  obtain ⟨g, rfl, hG1, hG2, hG3⟩ := HG'
  have HBX : Hid (W.heap[n10]? = some (vaO v)) := hG3
  have HW : Hid (Ca W (fun k => A k ∨ W3.heap.size ≤ k) c room (some ⟨g, 0, none⟩) c3 (M ++ [⟨p, 0, 0, fun _ => (0, 0)⟩]) ∧ OffS A w W ∧ ¬ A n10 ∧ n10 < W3.heap.size ∧ w.heap.size = n10) := ⟨hG1, hG2, fun h => by have := HQ.out.2.2 _ h; omega, (Array.getElem?_eq_some_iff.1 HC.out.2.2.1).1, HC.out.2.2.2⟩
  clear hG1 hG2 hG3 HG HC d1
  have hbd : Below W.heap.size W W.drew := ⟨rfl, rfl, rfl, Nat.le_refl _, fun _ _ => rfl⟩
  have HU : Hid (Calls Tryz.prog 97 #[cp c, .int .i64 (m : Int)] W.drew fun e w' => e = .returned (.pointer (some ⟨g, m * 7, none⟩)) ∧ Ca w' (fun k => A k ∨ W3.heap.size ≤ k) c room (some ⟨g, 0, none⟩) c3 (M ++ [⟨p, 0, 0, fun _ => (0, 0)⟩]) ∧ OffS A w w' ∧ w'.heap[n10]? = some (vaO v)) := by
    refine (use_any W.drew _ c room g c3 _ (HW.out.1.below hbd) m (by rw [List.length_append, HQ.out.1]; rfl) (by omega) m (by omega) ⟨p, 0, 0, fun _ => (0, 0)⟩ (by rw [← HQ.out.1]; simp)).mono ?_
    rintro e w' ⟨rfl, u1, u2⟩
    have hlt : n10 < W.heap.size := (Array.getElem?_eq_some_iff.1 HBX.out).1
    have hnn : ¬ (A n10 ∨ W3.heap.size ≤ n10) := by rintro (h | h); exact HW.out.2.2.1 h; have := HW.out.2.2.2.1; omega
    refine ⟨rfl, ?_, HW.out.2.1.trans (OffS.mono (A := fun k => A k ∨ W3.heap.size ≤ k) ⟨u2.os, u2.tape, u2.output, u2.size, u2.block⟩ fun k h => ?_), (u2.block n10 hlt hnn).trans HBX.out⟩
    · have e9 : (M ++ [(⟨p, 0, 0, fun _ => (0, 0)⟩ : En)]).take m ++ (M ++ [(⟨p, 0, 0, fun _ => (0, 0)⟩ : En)]).drop (m + 1) = M := by rw [← HQ.out.1]; simp
      rw [e9] at u1
      exact u1
    · rcases h with h | h
      · exact .inl h
      · exact .inr (by have := HW.out.2.2.2.1; have := HW.out.2.2.2.2; omega)
  have HF : Hid (∀ W2 : World, Ca W2 (fun k => A k ∨ W3.heap.size ≤ k) c room (some ⟨g, 0, none⟩) c3 (M ++ [⟨p, 0, 0, fun _ => (0, 0)⟩]) → OffS A w W2 → W2.heap[n10]? = some (vaO v) → Calls Tryz.prog 98 #[.pointer (some ⟨g, m * 7, none⟩), .int .i64 (cm : Int), .int .i64 (om : Int), vaV v] W2 fun e w' => e = .returned (.tuple #[]) ∧ Ca w' (fun k => A k ∨ W3.heap.size ≤ k) c room (some ⟨g, 0, none⟩) c3 (M ++ [fillE ⟨p, 0, 0, fun _ => (0, 0)⟩ cm om v]) ∧ OffS A w w' ∧ w'.heap[n10]? = some (vaO v)) := fun W2 a1 a2 a3 => by
    refine (fill_any W2 _ c room g c3 _ ⟨p, 0, 0, fun _ => (0, 0)⟩ a1 m (m * 7) HQ.out.1 rfl cm om HQ.out.2.1 v).mono ?_
    rintro e w' ⟨rfl, u1, u2⟩
    have hlt : n10 < W2.heap.size := (Array.getElem?_eq_some_iff.1 a3).1
    have hnn : ¬ (A n10 ∨ W3.heap.size ≤ n10) := by rintro (h | h); exact HW.out.2.2.1 h; have := HW.out.2.2.2.1; omega
    refine ⟨rfl, u1, a2.trans (u2.mono fun k h => ?_), (u2.block n10 hlt hnn).trans a3⟩
    rcases h with h | h
    · exact .inl h
    · exact .inr (by have := HW.out.2.2.2.1; have := HW.out.2.2.2.2; omega)
  refine wp_region_held (S := fun U => U.heap[n10]? = some (vaO v)) (by kernel_rfl) ?_
  have hS : (W).drew.heap[n10]? = some (vaO v) := HBX.out
  refine held_val (i := 0) ?_ 70 rfl rfl (by kernel_rfl) (by kernel_rfl) (by kernel_rfl) (by rfl) (fun _ _ _ h => h) hS ?_ ?_
  rotate_left
  · (intro w hSw; go_simp; first | done | with_reducible rfl)
  simp only [Act.put, List.setIfInBounds_toArray, List.set_cons_zero, List.set_cons_succ]
  refine held_val (i := 1) ?_ 71 rfl rfl (by kernel_rfl) (by kernel_rfl) (by kernel_rfl) (by rfl) (fun _ _ _ h => h) hS ?_ ?_
  rotate_left
  · (intro w hSw; go_simp; first | done | with_reducible rfl)
  simp only [Act.put, List.setIfInBounds_toArray, List.set_cons_zero, List.set_cons_succ]
  refine held_val (i := 3) ?_ 73 rfl rfl (by kernel_rfl) (by kernel_rfl) (by kernel_rfl) (by rfl) (fun _ _ _ h => h) hS ?_ ?_
  rotate_left
  · (intro w hSw; go_simp; first | done | with_reducible rfl)
  simp only [Act.put, List.setIfInBounds_toArray, List.set_cons_zero, List.set_cons_succ]
  refine held_val (i := 4) ?_ 74 rfl rfl (by kernel_rfl) (by kernel_rfl) (by kernel_rfl) (by rfl) (fun _ _ _ h => h) hS ?_ ?_
  rotate_left
  · (intro w hSw; go_simp; first | done | with_reducible rfl)
  simp only [Act.put, List.setIfInBounds_toArray, List.set_cons_zero, List.set_cons_succ]
  refine held_val (i := 5) (vaV v) 75 rfl rfl (by kernel_rfl) (by kernel_rfl) (by kernel_rfl) (by rfl) (fun _ _ _ h => h) hS ?_ ?_
  skip
  · (intro w hSw; obtain ⟨k0, k1, k2, k3⟩ := vaCells hSw; go_simp; first | done | with_reducible rfl)
  simp only [Act.put, List.setIfInBounds_toArray, List.set_cons_zero, List.set_cons_succ]
  refine held_call (i := 2) 72 97 #[cp c, .int .i64 (m : Int)] rfl rfl (by kernel_rfl) (by rfl) (by simp [go_sem]) HU.out ?_
  rintro e w2 ⟨rfl, hc2, ho2, hs2⟩
  refine ⟨_, rfl, hs2, ?_⟩
  simp only [Act.put, List.setIfInBounds_toArray, List.set_cons_zero, List.set_cons_succ]
  refine held_call (i := 6) 76 98 #[.pointer (some ⟨g, m * 7, none⟩), .int .i64 (cm : Int), .int .i64 (om : Int), vaV v] rfl rfl (by kernel_rfl) (by rfl) (by simp [go_sem]) (HF.out w2 hc2 ho2 hs2) ?_
  rintro e w6 ⟨rfl, hc6, ho6, hs6⟩
  refine ⟨_, rfl, hs6, ?_⟩
  simp only [Act.put, List.setIfInBounds_toArray, List.set_cons_zero, List.set_cons_succ]
  refine wpAnyH_done (by kernel_rfl) ?_ _
  have HE : Hid (Nx w w6 A c room (M ++ [fillE ⟨p, 0, 0, fun _ => (0, 0)⟩ cm om v])) := ⟨⟨_, _, hc6.mono fun k _ h => h.imp id fun h => by have := HW.out.2.2.2.1; have := HW.out.2.2.2.2; omega⟩, ho6⟩
  clear hc6 ho6 hc2 ho2 hs2 hs6 hS HU HF HBX
  go_wp2
  go_ret2
  exact ⟨rfl, HE.out⟩

theorem put_bad (w : World) (c : Nat) (p cm om : Int) (hbad : pgB p = false ∨ (mkB cm = true ∧ mkB om = true ∧ (bits .andNot .i64 om cm != 0) = true)) (v : Nat → Nat × Nat) (ks : Value) :
    Calls Tryz.prog 78 #[cp c, .int .i64 p, .int .i64 cm, .int .i64 om, vaV v, ks] w fun e w' => e = .returned (.tuple #[.int .i64 (-1), .bool false]) ∧ Below w.heap.size w w' := by
  have hst := fun (ad : Addr) (re im : Nat) (W : World) => run_store Tryz.prog W ad (.complex .f64 re im) .plain rfl
  cases h1 : pgB p
  · clear hbad
    go_enter Tryz.func78, Tryz.ntmps78
    go_wp2_with (first
      | (go_at_call 95; refine (isPage_any _ _).mono ?_; rw [h1]; rintro e w1 ⟨rfl, hw1⟩; subst w1)
      | fail)
    go_ret2
    exact ⟨rfl, by go_grown⟩
  · obtain ⟨h2, h3, h4⟩ := hbad.resolve_left (by rw [h1]; simp)
    clear hbad
    go_enter Tryz.func78, Tryz.ntmps78
    go_wp2_with (first
      | (go_at_call 95; refine (isPage_any _ _).mono ?_; rw [h1]; rintro e w1 ⟨rfl, hw1⟩; subst w1)
      | (go_at_call 84; refine (isMask_any _ _).mono ?_; (first | rw [h2] | rw [h3]); rintro e w2 ⟨rfl, hw2⟩; subst w2)
      | fail)
    go_ret2
    exact ⟨rfl, by go_grown⟩

end Go.Proofs.YtmmgdmfdiaoegaaGreat
