/- What the reference's Append and Drop do, walked. -/
import Derived.Test.YtdajhdeheheccaaF1
namespace Go.Proofs.Ytdajhdeheheccaa
open Go.RowKit
set_option linter.unusedVariables false

abbrev tbox (a : Option Addr) (n c s r : Nat) : Obj := .cells #[.slice a n c, .int .i64 (s : Int), .int .i64 (r : Int)] 30
abbrev zbox : Obj := .cells #[.slice none 0 0, .int .i64 0, .int .i64 0] 30

theorem Own8.set {w : World} {base : Nat} {ao : Option Addr} {n cap : Nat} {bs : List Nat} (h : Own8 w base ao n cap bs) (p : Addr) (u : Value) (hp : p.block < base) : Own8 (w.setCell p u) base ao n cap bs :=
  h.keep fun a ha => Below.heap_setCell _ _ _ _ (by have := h.ge a ha; omega)

theorem bx1 (w : World) (a : Option Addr) (n c s r : Nat) (o : Obj) : Bx ((w.alloc (tbox a n c s r)).alloc o) w.heap.size (.slice a n c) (.int .i64 (s : Int)) (.int .i64 (r : Int)) :=
  Bx.of (t := 30) (by rw [Below.heap_alloc _ _ _ (by simp)]; exact heap_alloc_new w _)
theorem bx2 (w : World) (o : Obj) : Bx ((w.alloc o).alloc zbox) (w.heap.size + 1) (.slice none 0 0) (.int .i64 0) (.int .i64 0) :=
  Bx.of (t := 30) (by have := heap_alloc_new (w.alloc o) zbox; simpa using this)
theorem OwnI.fresh3 (w : World) (o o' : Obj) (base : Nat) (e : TypeId) (k : IntKind) (hb : base ≤ w.heap.size + 2) : OwnI (((w.alloc o).alloc o').alloc (.cells #[] e)) base e k (some ⟨w.heap.size + 2, 0, none⟩) 0 [] := by
  have h := OwnI.fresh ((w.alloc o).alloc o') base e k (by simpa using hb)
  rwa [show ((w.alloc o).alloc o').heap.size = w.heap.size + 2 by simp] at h

theorem refAppend_bad (a : Option Addr) (n c s r : Nat) (ax : Option Addr) (m cx : Nat) (w : World) (hn : n ≤ 20000) (hm : m ≠ 0) (hf : ¬ n + m ≤ r) (hmx : m ≤ 140737488355328) :
    Calls Try.prog 12 #[rv a n c s r, .slice ax m cx] w fun e w' => e = .returned (.tuple #[rv a n c s r, .int .i64 61]) ∧ Below w.heap.size w w' := by
  have hp : 0 < m := by omega
  have hd1 : decide ((m : Int) > 0) = true := by simp; omega
  have hd2 : decide ((n : Int) + (m : Int) > (r : Int)) = true := by simp; omega
  have hq : (r : Int) < (n : Int) + (m : Int) := by omega
  go_enter Try.func12, Try.ntmps12
  go_wp2
  go_returns
  exact ⟨rfl, by go_grown⟩

set_option maxHeartbeats 1600000 in
theorem refAppend_ok (a : Option Addr) (n c s r : Nat) (bs : List Nat) (ax : Option Addr) (m cx : Nat) (ys : List Nat) (w : World) (hR : Rd8 w a n c bs) (hY : Rd8 w ax m cx ys) (hn : n ≤ 20000) (hr : r ≤ 20000) (hf : m = 0 ∨ n + m ≤ r) :
    Calls Try.prog 12 #[rv a n c s r, .slice ax m cx] w fun e w' => ∃ a' c', e = .returned (.tuple #[rv a' (n + m) c' s r, .int .i64 0]) ∧ Own8 w' w.heap.size a' (n + m) c' (bs ++ ys) ∧ Below w.heap.size w w' := by
  have hl := hR.len
  have hly := hY.len
  have HX1 := (show Hid _ from bx1 w a n c s r zbox)
  have HX2 := (show Hid _ from bx2 w (tbox a n c s r))
  have hW : Below w.heap.size w ((w.alloc (tbox a n c s r)).alloc zbox) := ((Below.refl _ _).alloc (Nat.le_refl _) _).alloc (by simp) _
  have key : (m = 0 ∨ (0 < m ∧ (n : Int) + (m : Int) ≤ (r : Int))) := by omega
  clear hf
  rcases key with hz | ⟨hp, hq⟩
  · have HZ0 : Hid (m = 0) := hz
    have hd1' : decide ((0 : Int) < (m : Int)) = false := by simp; omega
    have hle : (m : Int) ≤ 0 := by omega
    have hm20 : m ≤ 20000 := by omega
    clear hz
    go_enter Try.func12, Try.ntmps12
    go_wp2_with (first
      | (at_builtin; refine wpList_append_rdI _ rfl (.tmp 26) (.tmp 27) 27 rfl (w.heap.size + 2) 5 .u8 (.int .u8 0) 1 Try.underlying27 info5 rfl rfl rfl ho3.own (hY.below (hW.trans (hB3.mono (by omega)))).rd (by rw [ci_length]; exact ho3.len) (by rw [ci_length]; exact hly) (by omega) (by unfold maxLen; omega) (by have := hB3.size; simp at this; omega) ?_; intro ao4 cap4 w4 ho4 hb4; have ho4 : Own8 w4 (w.heap.size + 2) ao4 (n + m) cap4 (bs ++ ys) := ⟨by rw [ci_append]; exact ho4, by simp; omega, (fun b hb => by rcases List.mem_append.1 hb with hb | hb; exact hR.byte b hb; exact hY.byte b hb)⟩; have hB4 := hB3.trans hb4; have hx1 := HX1.out.below hB4 (by omega); have hx2 := HX2.out.below hB4 (by omega); have q0 := hx1.c0; have q1 := hx1.c1; have q2 := hx1.c2; have f0 := hx1.f 0; have s0 := hx2.c0; have s1 := hx2.c1; have s2 := hx2.c2; have g0 := hx2.f 0; have g1 := hx2.f 1; have g2 := hx2.f 2)
      | (at_builtin; refine wpList_append_rdI _ rfl (.tmp 22) (.tmp 24) 27 rfl (w.heap.size + 2) 5 .u8 (.int .u8 0) 1 Try.underlying27 info5 rfl rfl rfl (OwnI.fresh3 w _ _ _ _ _ (Nat.le_refl _)) ((hR.below hW).alloc _).rd rfl (by rw [ci_length]; exact hl) (by omega) (by unfold maxLen; omega) (by simp) ?_; intro ao3 cap3 w3 ho3 hb3; have ho3 : Own8 w3 (w.heap.size + 2) ao3 n cap3 bs := ⟨ho3, hl, hR.byte⟩; have hB3 : Below (w.heap.size + 2) ((w.alloc (tbox a n c s r)).alloc zbox) w3 := ((Below.refl _ _).alloc (by simp) (.cells #[] 5)).trans hb3))
    have hx3 := (hx2.other ⟨w.heap.size, 0, none⟩ (.slice ao4 (n + m) cap4) (by simp)).put (.slice ao4 (n + m) cap4) (.int .i64 (s : Int)) (.int .i64 (r : Int))
    refine bodyPost_ret (by simp [results, Try.results12, go_sem, hx3.c0, hx3.c1, hx3.c2]; try rfl) rfl ?_
    exact ⟨ao4, cap4, rfl, ((((ho4.set ⟨w.heap.size, 0, none⟩ _ (by simp)).set ⟨w.heap.size + 1, 0, none⟩ _ (by simp)).set ⟨w.heap.size + 1, 1, none⟩ _ (by simp)).set ⟨w.heap.size + 1, 2, none⟩ _ (by simp)).mono (by omega), ((((hW.trans (hB4.mono (by omega))).setCell (p := ⟨w.heap.size, 0, none⟩) (by simp) _).setCell (p := ⟨w.heap.size + 1, 0, none⟩) (by simp) _).setCell (p := ⟨w.heap.size + 1, 1, none⟩) (by simp) _).setCell (p := ⟨w.heap.size + 1, 2, none⟩) (by simp) _⟩
  · have hm20 : m ≤ 20000 := by omega
    go_enter Try.func12, Try.ntmps12
    go_wp2_with (first
      | (at_builtin; refine wpList_append_rdI _ rfl (.tmp 26) (.tmp 27) 27 rfl (w.heap.size + 2) 5 .u8 (.int .u8 0) 1 Try.underlying27 info5 rfl rfl rfl ho3.own (hY.below (hW.trans (hB3.mono (by omega)))).rd (by rw [ci_length]; exact ho3.len) (by rw [ci_length]; exact hly) (by omega) (by unfold maxLen; omega) (by have := hB3.size; simp at this; omega) ?_; intro ao4 cap4 w4 ho4 hb4; have ho4 : Own8 w4 (w.heap.size + 2) ao4 (n + m) cap4 (bs ++ ys) := ⟨by rw [ci_append]; exact ho4, by simp; omega, (fun b hb => by rcases List.mem_append.1 hb with hb | hb; exact hR.byte b hb; exact hY.byte b hb)⟩; have hB4 := hB3.trans hb4; have hx1 := HX1.out.below hB4 (by omega); have hx2 := HX2.out.below hB4 (by omega); have q0 := hx1.c0; have q1 := hx1.c1; have q2 := hx1.c2; have f0 := hx1.f 0; have s0 := hx2.c0; have s1 := hx2.c1; have s2 := hx2.c2; have g0 := hx2.f 0; have g1 := hx2.f 1; have g2 := hx2.f 2)
      | (at_builtin; refine wpList_append_rdI _ rfl (.tmp 22) (.tmp 24) 27 rfl (w.heap.size + 2) 5 .u8 (.int .u8 0) 1 Try.underlying27 info5 rfl rfl rfl (OwnI.fresh3 w _ _ _ _ _ (Nat.le_refl _)) ((hR.below hW).alloc _).rd rfl (by rw [ci_length]; exact hl) (by omega) (by unfold maxLen; omega) (by simp) ?_; intro ao3 cap3 w3 ho3 hb3; have ho3 : Own8 w3 (w.heap.size + 2) ao3 n cap3 bs := ⟨ho3, hl, hR.byte⟩; have hB3 : Below (w.heap.size + 2) ((w.alloc (tbox a n c s r)).alloc zbox) w3 := ((Below.refl _ _).alloc (by simp) (.cells #[] 5)).trans hb3))
    have hx3 := (hx2.other ⟨w.heap.size, 0, none⟩ (.slice ao4 (n + m) cap4) (by simp)).put (.slice ao4 (n + m) cap4) (.int .i64 (s : Int)) (.int .i64 (r : Int))
    refine bodyPost_ret (by simp [results, Try.results12, go_sem, hx3.c0, hx3.c1, hx3.c2]; try rfl) rfl ?_
    exact ⟨ao4, cap4, rfl, ((((ho4.set ⟨w.heap.size, 0, none⟩ _ (by simp)).set ⟨w.heap.size + 1, 0, none⟩ _ (by simp)).set ⟨w.heap.size + 1, 1, none⟩ _ (by simp)).set ⟨w.heap.size + 1, 2, none⟩ _ (by simp)).mono (by omega), ((((hW.trans (hB4.mono (by omega))).setCell (p := ⟨w.heap.size, 0, none⟩) (by simp) _).setCell (p := ⟨w.heap.size + 1, 0, none⟩) (by simp) _).setCell (p := ⟨w.heap.size + 1, 1, none⟩) (by simp) _).setCell (p := ⟨w.heap.size + 1, 2, none⟩) (by simp) _⟩

theorem refDrop_bad (a : Option Addr) (n c s r : Nat) (k : Int) (w : World) (hk : k < 0 ∨ (s : Int) < k) :
    Calls Try.prog 22 #[rv a n c s r, .int .i64 k] w fun e w' => e = .returned (.tuple #[rv a n c s r, .bool false]) ∧ Below w.heap.size w w' := by
  by_cases h0 : k < 0
  · clear hk
    go_enter Try.func22, Try.ntmps22
    go_wp2
    go_returns
    exact ⟨rfl, by go_grown⟩
  · have hk' : (s : Int) < k := by omega
    clear hk
    go_enter Try.func22, Try.ntmps22
    go_wp2
    go_returns
    exact ⟨rfl, by go_grown⟩

set_option maxHeartbeats 1600000 in
theorem refDrop_ok (a : Option Addr) (n c s r : Nat) (bs : List Nat) (k : Nat) (w : World) (hR : Rd8 w a n c bs) (hn : n ≤ 20000) (hs : s ≤ n) (hk : k ≤ s) :
    Calls Try.prog 22 #[rv a n c s r, .int .i64 (k : Int)] w fun e w' => ∃ a' c', e = .returned (.tuple #[rv a' (n - k) c' (s - k) r, .bool true]) ∧ Own8 w' w.heap.size a' (n - k) c' (bs.drop k) ∧ Below w.heap.size w w' := by
  have hl := hR.len
  have hcap := hR.rd.le
  rw [ci_length, hl] at hcap
  have hmx := hR.rd.mx
  unfold maxLen at hmx
  have hrt : Rd8 w (if c = k then a else a.map (fun x => x.add k)) (n - k) (c - k) (bs.drop k) := by
    have := hR.rd.tail k (by rw [ci_length]; omega)
    refine ⟨?_, by simp; omega, fun b hb => hR.byte b (List.mem_of_mem_drop hb)⟩
    have e : ci (bs.drop k) = (ci bs).drop k := by simp [ci]
    rw [e]; exact this
  have HR : Hid (Rd8 w (if c = k then a else a.map (fun x => x.add k)) (n - k) (c - k) (bs.drop k)) := hrt
  have hdl : (bs.drop k).length = n - k := by simp; omega
  clear hrt
  have HX1 := (show Hid _ from bx1 w a n c s r zbox)
  have HX2 := (show Hid _ from bx2 w (tbox a n c s r))
  have hW : Below w.heap.size w ((w.alloc (tbox a n c s r)).alloc zbox) := ((Below.refl _ _).alloc (Nat.le_refl _) _).alloc (by simp) _
  have hsk : ((s - k : Nat) : Int) = (s : Int) - (k : Int) := by omega
  have HSK : Hid (((s - k : Nat) : Int) = (s : Int) - (k : Int)) := hsk
  clear hsk
  go_enter Try.func22, Try.ntmps22
  go_wp2_with (first
    | (at_builtin; refine wpList_append_rdI (m := n - k) (ys := ci (bs.drop k)) _ rfl _ _ 27 rfl (w.heap.size + 2) 5 .u8 (.int .u8 0) 1 Try.underlying27 info5 rfl rfl rfl (OwnI.fresh3 w _ _ _ _ _ (Nat.le_refl _)) (by first | exact ((HR.out.below hW).alloc _).rd | simpa using ((HR.out.below hW).alloc (.cells #[] 5)).rd) rfl (by rw [ci_length]; exact hdl) (by omega) (by unfold maxLen; omega) (by simp) ?_; intro ao4 cap4 w4 ho4 hb4; have ho4 : Own8 w4 (w.heap.size + 2) ao4 (n - k) cap4 (bs.drop k) := ⟨ho4, hdl, (fun b hb => hR.byte b (List.mem_of_mem_drop hb))⟩; have hB4 : Below (w.heap.size + 2) ((w.alloc (tbox a n c s r)).alloc zbox) w4 := ((Below.refl _ _).alloc (by simp) (.cells #[] 5)).trans hb4; have hx1 := HX1.out.below hB4 (by omega); have hx2 := HX2.out.below hB4 (by omega); have q0 := hx1.c0; have q1 := hx1.c1; have q2 := hx1.c2; have f0 := hx1.f 0; have f1 := hx1.f 1; have s0 := hx2.c0; have s1 := hx2.c1; have s2 := hx2.c2; have g0 := hx2.f 0; have g1 := hx2.f 1; have g2 := hx2.f 2))
  all_goals
    have hx3 := ((hx2.other ⟨w.heap.size, 0, none⟩ (.slice ao4 (n - k) cap4) (by simp)).other ⟨w.heap.size, 1, none⟩ (.int .i64 ((s : Int) - (k : Int))) (by simp)).put (.slice ao4 (n - k) cap4) (.int .i64 ((s : Int) - (k : Int))) (.int .i64 (r : Int))
    refine bodyPost_ret (by simp [results, Try.results22, go_sem, hx3.c0, hx3.c1, hx3.c2]; try rfl) rfl ?_
    refine ⟨ao4, cap4, ?_, (((((ho4.set ⟨w.heap.size, 0, none⟩ _ (by simp)).set ⟨w.heap.size, 1, none⟩ _ (by simp)).set ⟨w.heap.size + 1, 0, none⟩ _ (by simp)).set ⟨w.heap.size + 1, 1, none⟩ _ (by simp)).set ⟨w.heap.size + 1, 2, none⟩ _ (by simp)).mono (by omega), (((((hW.trans (hB4.mono (by omega))).setCell (p := ⟨w.heap.size, 0, none⟩) (by simp) _).setCell (p := ⟨w.heap.size, 1, none⟩) (by simp) _).setCell (p := ⟨w.heap.size + 1, 0, none⟩) (by simp) _).setCell (p := ⟨w.heap.size + 1, 1, none⟩) (by simp) _).setCell (p := ⟨w.heap.size + 1, 2, none⟩) (by simp) _⟩
    rw [← HSK.out]

end Go.Proofs.Ytdajhdeheheccaa
