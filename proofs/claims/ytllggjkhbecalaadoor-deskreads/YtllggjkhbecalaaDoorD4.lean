/- call of package desk, walked. -/
import Derived.Test.YtllggjkhbecalaaDoorD3
namespace Go.Proofs.YtllggjkhbecalaaDoor
open Go.RowKit Go.Maps
set_option linter.unusedVariables false
set_option maxRecDepth 8000

/-- What is of others, and the row of what is sent. -/
def Va (V : Nat → Prop) (a : Option Addr) : Nat → Prop := fun k => V k ∨ ∃ y, a = some y ∧ k = y.block
/-- The desk, and a row of what is sent, which is new. -/
structure Dr (B : Nat) (V : Nat → Prop) (W W' : World) (d g q : Nat) (S : St) (n : Nat) (a : Option Addr) (c : Nat) (A : List Sa) : Prop where
  dk : Dk B (Va V a) W' d g q S n
  keep : ∀ k, V k → W'.heap[k]? = W.heap[k]?
  bel : Below B W W'
  own : OwR saC 13 34 W' a c A
  new : ∀ y, a = some y → W.heap.size ≤ y.block
  hB : B ≤ W.heap.size
section
variable {B : Nat} {V V1 : Nat → Prop} {w W w1 w2 w3 : World} {d g q b : Nat} {S S2 : St} {n n2 : Nat} {x : Wt} {a a2 : Option Addr} {c c2 : Nat} {A A2 : List Sa}
theorem Dk.dr (h : Dk B V W d g q S n) (hV : ∀ k, V k → k < W.heap.size) (hb : Below W.heap.size W w1) : Dr B V W w1 d g q S n none 0 [] :=
  ⟨(h.below hb).less (by rintro k (h | ⟨y, h, _⟩); exact h; cases h), fun k hk => hb.block k (hV k hk), hb.mono h.hB, OwR.nil _ _, (fun y h => by cases h), h.hB⟩
theorem Dr.size (h : Dr B V W w1 d g q S n a c A) : W.heap.size ≤ w1.heap.size := h.bel.size
theorem Dr.lt (h : Dr B V W w1 d g q S n a c A) (hV : ∀ k, V k → k < W.heap.size) : ∀ k, Va V a k → k < w1.heap.size := by
  rintro k (h' | ⟨y, rfl, rfl⟩)
  · exact Nat.lt_of_lt_of_le (hV k h') h.size
  · exact (h.own.lt y rfl).1
theorem Dr.step (h : Dr B V W w1 d g q S n a c A) (h2 : Dx B (Va V a) w1 w2 d g q S2 n2) : Dr B V W w2 d g q S2 n2 a c A :=
  ⟨h2.dk, fun k hk => (h2.keep k (.inl hk)).trans (h.keep k hk), h.bel.trans h2.bel, h.own.keep fun y hy _ => h2.keep y.block (.inr ⟨y, hy, rfl⟩), h.new, h.hB⟩
theorem Dr.more (h : Dr B V W w1 d g q S n a c A) (hV : ∀ k, V k → k < W.heap.size) (hb : Below w1.heap.size w1 w2) : Dr B V W w2 d g q S n a c A := h.step (h.dk.dx hb (h.lt hV))
theorem Dr.le (h : Dr B V W w1 d g q S n a c A) {m : Nat} (hm : n ≤ m) : Dr B V W w1 d g q S m a c A := ⟨h.dk.le hm, h.keep, h.bel, h.own, h.new, h.hB⟩
theorem Dr.bx (h : Dr B V W w1 d g q S n a c A) (hb : W.heap[b]? = some (wtO x)) (hv : V b) : Bx d g q b x w1 := h.dk.bx ((h.keep b hv).trans hb)
/-- Something is put behind. -/
theorem Dr.app (h : Dr B V W w1 d g q S n a c A) (hV : ∀ k, V k → k < W.heap.size) (hb : Below w1.heap.size w1 w2) (hg : w2.grownBy w3 (a.map (·.block))) (ho : OwR saC 13 34 w3 a2 c2 A2) (hl : a2 = a ∨ a2 = some ⟨w2.heap.size, 0, none⟩) : Dr B V W w3 d g q S n a2 c2 A2 := by
  have h1 := h.more hV hb
  have hW := h.size
  have hs2 := hb.size
  have hne : ∀ k, V k → some k ≠ a.map (·.block) := by
    intro k hk e
    cases ha : a with
    | none => rw [ha] at e; cases e
    | some y =>
      rw [ha] at e
      cases e
      have h2 := h.new y ha
      have h3 : y.block < _ := hV _ hk
      omega
  refine ⟨?_, fun k hk => (hg.block k (by have := hV k hk; omega) (fun e => hne k hk e)).trans (h1.keep k hk), h1.bel.trans ⟨hg.os, hg.tape, hg.output, hg.size, fun k hk => hg.block k (by have := h1.dk.hB; omega) ?_⟩, ho, ?_, h.hB⟩
  · refine h1.dk.move hg.size (fun k hk hn => hg.block k hk fun e => hn ?_) ?_
    · cases ha : a with
      | none => rw [ha] at e; cases e
      | some y => rw [ha] at e; cases e; exact .inr ⟨y, rfl, rfl⟩
    · rintro k (h' | ⟨y, hy, rfl⟩)
      · exact .inl (.inl h')
      · rcases hl with rfl | rfl
        · exact .inl (.inr ⟨y, hy, rfl⟩)
        · cases hy
          exact .inr (Nat.le_refl _)
  · intro e
    cases ha : a with
    | none => rw [ha] at e; cases e
    | some y =>
      rw [ha] at e
      cases e
      have h2 := h.new y ha
      have h3 := h.hB
      have h4 : y.block < B := hk
      omega
  · intro y hy
    rcases hl with rfl | rfl
    · exact h.new y hy
    · cases hy
      show W.heap.size ≤ w2.heap.size
      omega
theorem Dr.close (h : Dr B V1 W w1 d g q S n a c A) (hsub : ∀ k, V k → V1 k) (hW : Below w.heap.size w W) (hV : ∀ k, V k → k < w.heap.size) (hB : B ≤ w.heap.size) : Dr B V w w1 d g q S n a c A :=
  ⟨h.dk.less (by rintro k (h' | h'); exact .inl (hsub k h'); exact .inr h'), fun k hk => (h.keep k (hsub k hk)).trans (hW.block k (hV k hk)), (hW.mono hB).trans h.bel, h.own, fun y hy => Nat.le_trans hW.size (h.new y hy), hB⟩
end

theorem RdS.keep {w w' : World} {ao : Option Addr} {cap : Nat} {xs : List Value} (h : RdS w ao cap xs) (hs : w.heap.size ≤ w'.heap.size) (hb : ∀ y, ao = some y → w'.heap[y.block]? = w.heap[y.block]?) : RdS w' ao cap xs := by
  refine ⟨h.le, h.mx, h.nil, fun hx => ?_⟩
  obtain ⟨b1, off, e, hl1, hc⟩ := h.cell hx
  exact ⟨b1, off, e, Nat.lt_of_lt_of_le hl1 hs, fun j hj => (World.cell?_of_block (w := w) (w' := w') (a := ⟨b1, off + j, none⟩) (hb ⟨b1, off, none⟩ e)).trans (hc j hj)⟩

theorem cals_step (x : Wt) (hs : List Int) (s : List Ck × List Sa) {k : Nat} (hk : k < hs.length) : cals x (hs.drop k) s = cals x (hs.drop (k + 1)) (calK s.1 (kyOf hs[k] x), if calB s.1 (kyOf hs[k] x) then s.2 ++ [calA hs[k] x] else s.2) := by
  rw [List.drop_eq_getElem_cons hk]
  rfl

set_option maxHeartbeats 6400000 in
theorem call_desk {B : Nat} {V : Nat → Prop} {w : World} {d g q : Nat} {S : St} {n : Nat} (H : Dk B V w d g q S n) (hV : ∀ k, V k → k < w.heap.size) (hn : n ≤ 900000) (x : Wt) (ao : Option Addr) (m cap : Nat) (hs : List Int) (hr : RdI w .i64 ao cap hs) (hm : hs.length = m) (hm4 : m ≤ 4) (hva : ∀ y, ao = some y → V y.block) :
    Calls Tryd.prog 54 #[dp d, .slice ao m cap, wtV x] w fun e w' => ∃ a c, e = .returned (.slice a (cals x hs (S.K, [])).2.length c) ∧ Dr B V w w' d g q ⟨S.T, S.L, (cals x hs (S.K, [])).1⟩ (n + 4) a c (cals x hs (S.K, [])).2 ∧ (cals x hs (S.K, [])).2.length ≤ 4 := by
  have hbA : Below w.heap.size w (w.alloc (wtO x)) := (Below.refl _ _).alloc (Nat.le_refl _) _
  obtain ⟨V1, hV1⟩ : ∃ V1 : Nat → Prop, V1 = fun k => V k ∨ k = w.heap.size := ⟨_, rfl⟩
  have HW : Hid (Dk B V1 (w.alloc (wtO x)) d g q S n) := H.more hbA (by
    subst hV1
    rintro k (h | h)
    · exact .inl h
    · exact .inr (by omega))
  have HV : Hid ((∀ k, V k → V1 k) ∧ V1 w.heap.size ∧ (∀ k, V1 k → k < (w.alloc (wtO x)).heap.size)) := by
    subst hV1
    refine ⟨fun k h => .inl h, .inr rfl, ?_⟩
    rintro k (h | h)
    · have := hV k h; simp; omega
    · simp; omega
  have HB : Hid (Below w.heap.size w (w.alloc (wtO x)) ∧ B ≤ w.heap.size ∧ (∀ k, V k → k < w.heap.size)) := ⟨hbA, H.hB, hV⟩
  have HM : Hid ((w.alloc (wtO x)).heap[w.heap.size]? = some (wtO x)) := heap_alloc_new w (wtO x)
  have HR : Hid (RdI (w.alloc (wtO x)) .i64 ao cap hs ∧ hs.length = m ∧ (∀ y, ao = some y → V1 y.block)) := ⟨hr.below hbA, hm, fun y hy => HV.out.1 _ (hva y hy)⟩
  clear hbA hV1 H hV hr hm hva
  go_enter Tryd.func54, Tryd.ntmps54
  go_wp2
  obtain ⟨b, hb⟩ : ∃ b, w.heap.size = b := ⟨_, rfl⟩
  rw [hb] at HM HV ⊢
  have HBb : Hid (w.heap.size = b) := hb
  clear hb
  generalize w.alloc (wtO x) = W at *
  go_loopw [7, 12] (fun v i wr => ∃ (k : Nat) (a : Option Addr) (c l : Nat) (K : List Ck) (A : List Sa), k ≤ m ∧ i = .int .i64 k ∧ v = .slice a l c ∧ Hid (A.length = l ∧ l ≤ k ∧ Dr B V1 W wr d g q ⟨S.T, S.L, K⟩ (n + k) a c A ∧ cals x hs (S.K, []) = cals x (hs.drop k) (K, A))) (fun _ i _ => m - (intOf i).toNat)
  case atStart => exact ⟨0, none, 0, 0, S.K, [], Nat.zero_le _, rfl, rfl, ⟨rfl, Nat.le_refl _, HW.out.dr HV.out.2.2 (Below.refl _ _), rfl⟩⟩
  case round =>
    obtain ⟨k, a, c, l, K, A, hk, rfl, rfl, HI⟩ := hrel
    rename World => wr
    by_cases hlt : k < m
    · have hkl : k < hs.length := by have := HR.out.2.1; omega
      have hrd : RdI wr .i64 ao cap hs := RdS.keep HR.out.1 HI.out.2.2.1.size fun y hy => HI.out.2.2.1.keep y.block (HR.out.2.2 y hy)
      obtain ⟨bk, off, rfl, -, hcc⟩ := hrd.at hkl
      have z0 := hcc k hkl
      have HS : Hid (cals x hs (S.K, []) = cals x (hs.drop (k + 1)) (calK K (kyOf hs[k] x), if calB K (kyOf hs[k] x) then A ++ [calA hs[k] x] else A)) := HI.out.2.2.2.trans (cals_step x hs (K, A) hkl)
      clear hcc hrd
      generalize hs[k] = h at *
      have HC : Hid (Calls Tryd.prog 61 #[qp q, .int .i64 h, wtV x] wr.drew fun e w' => e = .returned (.bool (calB K (kyOf h x))) ∧ Bx d g q b x w' ∧ Hid (Dr B V1 W w' d g q ⟨S.T, S.L, calK K (kyOf h x)⟩ (n + (k + 1)) a c A)) := by
        have h0 := HI.out.2.2.1.more HV.out.2.2 (bel0 wr)
        refine (callK h0.dk (h0.lt HV.out.2.2) (by omega) h x).mono ?_
        rintro e w' ⟨rfl, h1⟩
        have h2 := h0.step h1
        exact ⟨rfl, h2.bx HM.out HV.out.2.1, h2⟩
      have HX : Hid (Bx d g q b x wr.drew) := (HI.out.2.2.1.more HV.out.2.2 (bel0 wr)).bx HM.out HV.out.2.1
      have HL : Hid (A.length = l ∧ l ≤ k) := ⟨HI.out.1, HI.out.2.1⟩
      clear HI
      have e0' : decide ((k : Int) < m) = true := by simp; omega
      cases hcb : calB K (kyOf h x)
      · have HS2 : Hid (cals x hs (S.K, []) = cals x (hs.drop (k + 1)) (calK K (kyOf h x), A)) := by have := HS.out; rw [hcb] at this; exact this
        rw [hcb] at HC
        clear HS hcb
        go_upto_region 5 with fail
        refine wp_region_held (S := Bx d g q b x) (by kernel_rfl) ?_
        have hS := HX.out
        refine held_val (i := 0) ?_ 16 rfl rfl (by kernel_rfl) (by kernel_rfl) (by kernel_rfl) (by rfl) (fun _ _ _ h => h) hS ?_ ?_
        rotate_left
        · (intro w hSw; go_simp; first | done | with_reducible rfl)
        simp only [Act.put, List.setIfInBounds_toArray, List.set_cons_zero, List.set_cons_succ]
        refine held_val (i := 1) ?_ 17 rfl rfl (by kernel_rfl) (by kernel_rfl) (by kernel_rfl) (by rfl) (fun _ _ _ h => h) hS ?_ ?_
        rotate_left
        · (intro w hSw; go_simp; first | done | with_reducible rfl)
        simp only [Act.put, List.setIfInBounds_toArray, List.set_cons_zero, List.set_cons_succ]
        refine held_val (i := 2) ?_ 18 rfl rfl (by kernel_rfl) (by kernel_rfl) (by kernel_rfl) (by rfl) (fun _ _ _ h => h) hS ?_ ?_
        rotate_left
        · (intro w hSw; go_simp; first | done | with_reducible rfl)
        simp only [Act.put, List.setIfInBounds_toArray, List.set_cons_zero, List.set_cons_succ]
        refine held_val (i := 3) ?_ 19 rfl rfl (by kernel_rfl) (by kernel_rfl) (by kernel_rfl) (by rfl) (fun _ _ _ h => h) hS ?_ ?_
        rotate_left
        · (intro w hSw; obtain ⟨k0, k1, k2, k3, k4, k5⟩ := hSw; go_simp; first | done | with_reducible rfl)
        simp only [Act.put, List.setIfInBounds_toArray, List.set_cons_zero, List.set_cons_succ]
        refine held_val (i := 4) ?_ 20 rfl rfl (by kernel_rfl) (by kernel_rfl) (by kernel_rfl) (by rfl) (fun _ _ _ h => h) hS ?_ ?_
        rotate_left
        · (intro w hSw; go_simp; first | done | with_reducible rfl)
        simp only [Act.put, List.setIfInBounds_toArray, List.set_cons_zero, List.set_cons_succ]
        refine held_val (i := 5) ?_ 21 rfl rfl (by kernel_rfl) (by kernel_rfl) (by kernel_rfl) (by rfl) (fun _ _ _ h => h) hS ?_ ?_
        rotate_left
        · (intro w hSw; obtain ⟨k0, k1, k2, k3, k4, k5⟩ := hSw; go_simp; first | done | with_reducible rfl)
        simp only [Act.put, List.setIfInBounds_toArray, List.set_cons_zero, List.set_cons_succ]
        refine held_call (i := 6) 22 61 #[qp q, .int .i64 h, wtV x] rfl rfl (by kernel_rfl) (by rfl) (by simp [go_sem]) HC.out ?_
        rintro e w6 ⟨rfl, hS6, HD6⟩
        refine ⟨_, rfl, hS6, ?_⟩
        have hS6 := hS6
        simp only [Act.put, List.setIfInBounds_toArray, List.set_cons_zero, List.set_cons_succ]
        refine wpAnyH_done (by kernel_rfl) ?_ _
        clear hS hS6 HC HX
        go_wp2
        go_roundw
        case rel => exact ⟨k + 1, a, c, l, _, A, by omega, by go_num, rfl, ⟨HL.out.1, by have := HL.out.2; omega, HD6.out, HS2.out⟩⟩
        case measure => simp [intOf]; omega
      · have HS2 : Hid (cals x hs (S.K, []) = cals x (hs.drop (k + 1)) (calK K (kyOf h x), A ++ [calA h x])) := by have := HS.out; rw [hcb] at this; exact this
        rw [hcb] at HC
        clear HS hcb
        go_upto_region 5 with fail
        refine wp_region_held (S := Bx d g q b x) (by kernel_rfl) ?_
        have hS := HX.out
        refine held_val (i := 0) ?_ 16 rfl rfl (by kernel_rfl) (by kernel_rfl) (by kernel_rfl) (by rfl) (fun _ _ _ h => h) hS ?_ ?_
        rotate_left
        · (intro w hSw; go_simp; first | done | with_reducible rfl)
        simp only [Act.put, List.setIfInBounds_toArray, List.set_cons_zero, List.set_cons_succ]
        refine held_val (i := 1) ?_ 17 rfl rfl (by kernel_rfl) (by kernel_rfl) (by kernel_rfl) (by rfl) (fun _ _ _ h => h) hS ?_ ?_
        rotate_left
        · (intro w hSw; go_simp; first | done | with_reducible rfl)
        simp only [Act.put, List.setIfInBounds_toArray, List.set_cons_zero, List.set_cons_succ]
        refine held_val (i := 2) ?_ 18 rfl rfl (by kernel_rfl) (by kernel_rfl) (by kernel_rfl) (by rfl) (fun _ _ _ h => h) hS ?_ ?_
        rotate_left
        · (intro w hSw; go_simp; first | done | with_reducible rfl)
        simp only [Act.put, List.setIfInBounds_toArray, List.set_cons_zero, List.set_cons_succ]
        refine held_val (i := 3) ?_ 19 rfl rfl (by kernel_rfl) (by kernel_rfl) (by kernel_rfl) (by rfl) (fun _ _ _ h => h) hS ?_ ?_
        rotate_left
        · (intro w hSw; obtain ⟨k0, k1, k2, k3, k4, k5⟩ := hSw; go_simp; first | done | with_reducible rfl)
        simp only [Act.put, List.setIfInBounds_toArray, List.set_cons_zero, List.set_cons_succ]
        refine held_val (i := 4) ?_ 20 rfl rfl (by kernel_rfl) (by kernel_rfl) (by kernel_rfl) (by rfl) (fun _ _ _ h => h) hS ?_ ?_
        rotate_left
        · (intro w hSw; go_simp; first | done | with_reducible rfl)
        simp only [Act.put, List.setIfInBounds_toArray, List.set_cons_zero, List.set_cons_succ]
        refine held_val (i := 5) ?_ 21 rfl rfl (by kernel_rfl) (by kernel_rfl) (by kernel_rfl) (by rfl) (fun _ _ _ h => h) hS ?_ ?_
        rotate_left
        · (intro w hSw; obtain ⟨k0, k1, k2, k3, k4, k5⟩ := hSw; go_simp; first | done | with_reducible rfl)
        simp only [Act.put, List.setIfInBounds_toArray, List.set_cons_zero, List.set_cons_succ]
        refine held_call (i := 6) 22 61 #[qp q, .int .i64 h, wtV x] rfl rfl (by kernel_rfl) (by rfl) (by simp [go_sem]) HC.out ?_
        rintro e w6 ⟨rfl, hS6, HD6⟩
        refine ⟨_, rfl, hS6, ?_⟩
        have hS6 := hS6
        simp only [Act.put, List.setIfInBounds_toArray, List.set_cons_zero, List.set_cons_succ]
        refine wpAnyH_done (by kernel_rfl) ?_ _
        obtain ⟨k0, k1, k2, k3, k4, k5⟩ := hS6
        clear hS HC HX
        have hl4 : l ≤ 4 := by have := HL.out.2; omega
        go_wp2_with (first
          | (at_builtin; refine wpList_append_R saE _ rfl _ _ 24 rfl 34 _ 152 Tryd.underlying24 info34 rfl (L := A) (M := [calA h x]) (n := l) (m := 1) rfl rfl ((HD6.out.more HV.out.2.2 ((Below.refl _ _).alloc (Nat.le_refl _) _)).own) (RdR.built saE w6 34 #[.int .i64 h, .int .i64 6, .int .i64 x.p, .int .i64 x.o, .int .i64 0, .int .i64 0, .int .i64 0, .bool x.wr, .slice none 0 0, .complex .f64 0 0, .complex .f64 0 0, .complex .f64 0 0, .complex .f64 0 0] [calA h x] rfl 1 rfl (by unfold maxLen; omega)) HL.out.1 rfl (by omega) (by unfold maxLen; omega) ?_; intro a2 c2 w8 ho8 hg8 hl8)
          | fail)
        have HD8 : Hid (Dr B V1 W w8 d g q ⟨S.T, S.L, calK K (kyOf h x)⟩ (n + (k + 1)) a2 c2 (A ++ [calA h x])) := HD6.out.app HV.out.2.2 ((Below.refl _ _).alloc (Nat.le_refl _) _) hg8 ho8 hl8
        clear k0 k1 k2 k3 k4 k5 ho8 hg8 hl8 HD6
        go_roundw
        case rel => exact ⟨k + 1, a2, c2, l + 1, _, A ++ [calA h x], by omega, by go_num, rfl, ⟨by rw [List.length_append, HL.out.1]; rfl, by have := HL.out.2; omega, HD8.out, HS2.out⟩⟩
        case measure => simp [intOf]; omega
    · obtain rfl : k = m := by omega
      have e0' : decide ((k : Int) < k) = false := by simp
      have hd : hs.drop k = [] := List.drop_eq_nil_of_le (by have := HR.out.2.1; omega)
      have HF : Hid (cals x hs (S.K, []) = (K, A)) := by have := HI.out.2.2.2; rw [hd] at this; exact this
      have HE : Hid (Dr B V w wr d g q ⟨S.T, S.L, K⟩ (n + 4) a c A ∧ A.length = l ∧ l ≤ 4) := ⟨(HI.out.2.2.1.close HV.out.1 HB.out.1 HB.out.2.2 HB.out.2.1).le (by omega), HI.out.1, by have := HI.out.2.1; omega⟩
      clear HI hd
      go_wp2
      go_ret
      refine ⟨a, c, ?_, ?_, ?_⟩
      · rw [HF.out, HE.out.2.1]; rfl
      · rw [HF.out]; exact HE.out.1
      · rw [HF.out, HE.out.2.1]; exact HE.out.2.2


end Go.Proofs.YtllggjkhbecalaaDoor
