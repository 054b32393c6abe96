/- QueueRuns: the law's walk. -/
import Derived.Test.YtcjajckmcikhcaaRs
import Derived.Test.YtcjajckmcikhcaaRr
namespace Go.Proofs.Ytcjajckmcikhcaa
open Go.RowKit Go.Maps
set_option linter.unusedVariables false

theorem runs_start {w wA w1 : World} {q : Nat} (x : Ac) (hbA : Below (w.alloc (acO x)).heap.size (w.alloc (acO x)) wA) (hq1 : Qx wA.heap.size (fun _ => False) w1 q [] (fun _ => none) 0) (hb1 : Below wA.heap.size wA w1) : Good w (w1.alloc (.cells #[.slice none 0 0, .slice none 0 0] 38)) q w1.heap.size [(w.heap.size, x)] 0 := by
  have hb0 : Below w.heap.size w (w.alloc (acO x)) := (Below.refl _ _).alloc (Nat.le_refl _) _
  have hA3 : wA.heap[w.heap.size]? = some (acO x) := (hbA.block _ (by simp)).trans (heap_alloc_new w _)
  have hlt : w.heap.size < wA.heap.size := (Array.getElem?_eq_some_iff.1 hA3).1
  have h13 : w1.heap[w.heap.size]? = some (acO x) := (hb1.block _ hlt).trans hA3
  have hlt1 := Nat.lt_of_lt_of_le hlt hb1.size
  have hqv : Qx w.heap.size (fun k => k = w.heap.size) w1 q [] (fun _ => none) 0 := Qw.mono hq1 fun k hk ha => ⟨by have := ha.1; omega, ha.2.1, fun e => by have := ha.1; omega⟩
  have hb2 : Below w1.heap.size w1 (w1.alloc (.cells #[.slice none 0 0, .slice none 0 0] 38)) := (Below.refl _ _).alloc (Nat.le_refl _) _
  refine ⟨fun k => k = w.heap.size ∨ (w1.heap.size ≤ k ∧ k < (w1.alloc (.cells #[.slice none 0 0, .slice none 0 0] 38)).heap.size), none, 0, 0, none, 0, 0, [], fun _ => none, 0, [], ⟨?_, (hqv.foreign hb2).less ?_, .inr ⟨Nat.le_refl _, by simp⟩, (by intro a ha; cases ha), (by intro a ha; cases ha), ?_, P2.new w1 _ _, .empty _, rfl, .empty _, rfl, below_step (below_step (below_step hb0 hbA) hb1) hb2, by omega⟩, Nice.nil, KC.nil, Nat.le_refl _, Nat.le_refl _⟩
  · rintro k (rfl | hk)
    · exact Nat.lt_of_lt_of_le hlt1 hb2.size
    · exact hk.2
  · rintro k (rfl | hk)
    · exact .inl rfl
    · exact .inr hk.1
  · intro e he
    simp only [List.mem_singleton] at he
    subst he
    exact ⟨.inl rfl, by show w.heap.size ≠ w1.heap.size; omega, (hb2.block _ hlt1).trans h13⟩

set_option maxRecDepth 100000 in
set_option maxHeartbeats 20000000 in
theorem runs_main (a0 : Option Addr) (c0 n0 : Nat) (A : List Ac) (x : Ac) (w : World) (hA : ActsAt w a0 A) (hn : A.length = n0) (hx : x.ok) :
    Calls Try.prog 4 #[.slice a0 n0 c0, acV x] w fun e w' => e = .returned (.bool true) ∧ Below w.heap.size w w' := by
  have HA : Hid (ActsAt w a0 A ∧ A.length = n0) := ⟨hA, hn⟩
  have HOX : Hid x.ok := hx
  clear hA hn hx
  obtain ⟨xk, xh, ⟨xc, xp, xo, xw⟩⟩ := x
  show Calls Try.prog 4 #[.slice a0 n0 c0, .agg #[.int .i64 xk, .int .i64 xh, .int .i64 xc, .int .i64 xp, .int .i64 xo, .bool xw]] w fun e w' => e = .returned (.bool true) ∧ Below w.heap.size w w'
  by_cases h100 : 100 < n0
  · have e100 : decide ((n0 : Int) > 100) = true := by simp; omega
    go_enter Try.func4, Try.ntmps4
    go_wp2_with (first
      | (go_at_call 9; refine (alive_any _).mono ?_; rintro e wA ⟨rfl, hbA⟩)
      | fail)
    go_ret
    exact ⟨rfl, below_step ((Below.refl _ _).alloc (Nat.le_refl _) _) hbA⟩
  have e100 : decide ((n0 : Int) > 100) = false := by simp; omega
  go_enter Try.func4, Try.ntmps4
  go_upto_region 7 with (first
    | (go_at_call 8; refine (newX _).mono ?_; rintro e w1 ⟨q, rfl, hq1, hb1⟩)
    | (go_at_call 9; refine (alive_any _).mono ?_; rintro e wA ⟨rfl, hbA⟩)
    | fail)
  have H0 : Hid (Good w (w1.alloc (.cells #[.slice none 0 0, .slice none 0 0] 38)) q w1.heap.size [(w.heap.size, ⟨xk, xh, ⟨xc, xp, xo, xw⟩⟩)] 0) := runs_start ⟨xk, xh, ⟨xc, xp, xo, xw⟩⟩ hbA hq1 hb1
  clear hq1 hb1 hbA
  obtain ⟨g6, hg6⟩ : ∃ g, w1.heap.size = g := ⟨_, rfl⟩
  rw [hg6] at H0
  rw [hg6]
  clear hg6
  generalize w1.alloc (.cells #[.slice none 0 0, .slice none 0 0] 38) = W0 at *
  go_wp2
  go_loopw [28] (fun i wr => ∃ (k : Nat), k ≤ n0 ∧ i = .int .i64 k ∧ Hid (Good w wr q g6 [(w.heap.size, ⟨xk, xh, ⟨xc, xp, xo, xw⟩⟩)] k)) (fun i _ => n0 - (intOf i).toNat)
  case atStart => exact ⟨0, Nat.zero_le _, rfl, H0.out⟩
  case round =>
    clear H0
    obtain ⟨k, hk, rfl, HI⟩ := hrel
    rename World => wr
    by_cases hlt : k < n0
    · have hkl : k < A.length := by have := HA.out.2; omega
      obtain ⟨V0, a1, n1, c1, a2, n2, c2, L, C, m, K, hR, nc, kc, hm, hn2⟩ := HI.out
      clear HI
      obtain ⟨cA, hRA⟩ := HA.out.1.1
      obtain ⟨bk, off, hao, -, hcc⟩ := (hRA.below hR.bel).at acE hkl
      subst hao
      obtain ⟨z0, z1, z2, z3, z4, z5⟩ := acIn _ _ _ _ hcc
      have HOK : Hid (A[k].ok) := HA.out.1.2 _ (List.getElem_mem _)
      clear hcc hRA
      generalize A[k] = y at *
      obtain ⟨yk, yh, ⟨yc, yp, yo, yw⟩⟩ := y
      simp only at z0 z1 z2 z3 z4 z5
      have e0' : decide ((k : Int) < n0) = true := by simp; omega
      have HNK : Hid (Nice L ∧ KC K C ∧ m ≤ k ∧ n2 ≤ k) := ⟨nc, kc, hm, hn2⟩
      obtain ⟨V1, HB⟩ : ∃ V1, Hid (Run w (wr.alloc (acO ⟨yk, yh, ⟨yc, yp, yo, yw⟩⟩)) V1 q g6 [(wr.heap.size, ⟨yk, yh, ⟨yc, yp, yo, yw⟩⟩), (w.heap.size, ⟨xk, xh, ⟨xc, xp, xo, xw⟩⟩)] a1 n1 c1 a2 n2 c2 L C m L K) := ⟨_, hR.box ⟨yk, yh, ⟨yc, yp, yo, yw⟩⟩⟩
      clear hR nc kc hm hn2
      go_upto_region 12 with fail
      obtain ⟨g8, hg8⟩ : ∃ g, wr.heap.size = g := ⟨_, rfl⟩
      rw [hg8] at HB
      rw [hg8]
      clear hg8 z0 z1 z2 z3 z4 z5
      generalize wr.alloc (acO ⟨yk, yh, ⟨yc, yp, yo, yw⟩⟩) = W1 at *
      obtain ⟨p0, p1, p2, p3, p4, p5⟩ := ac_cells (HB.out.vb (g8, ⟨yk, yh, ⟨yc, yp, yo, yw⟩⟩) (by simp)).2.2
      simp only at p0 p1 p2 p3 p4 p5
      by_cases k0 : yk = 0
      · have q0 : (yk == 0) = true := by simpa using k0
        clear k0
        have HP : Hid (Calls Try.prog 11 #[qp q, .agg #[.int .i64 yc, .int .i64 yp, .int .i64 yo, .bool yw]] W1 fun e W2 => e = .returned (.bool (addB L ⟨yc, yp, yo, yw⟩)) ∧ Sx w.heap.size V1 W1 W2 q (addL L ⟨yc, yp, yo, yw⟩) C m) := addX HB.out.qx HB.out.vlt HB.out.bel.size (by have := HNK.out.1.le4; omega) ⟨yc, yp, yo, yw⟩
        go_upto_region 14 with (first
          | (go_at_call 11; refine HP.out.mono ?_; rintro e W2 ⟨rfl, s2⟩; have H2 : Hid (Run w W2 V1 q g6 [(g8, ⟨yk, yh, ⟨yc, yp, yo, yw⟩⟩), (w.heap.size, ⟨xk, xh, ⟨xc, xp, xo, xw⟩⟩)] a1 n1 c1 a2 n2 c2 (addL L ⟨yc, yp, yo, yw⟩) C m L K) := HB.out.prog s2; clear s2)
          | fail)
        clear HP
        clear p0 p1 p2 p3 p4 p5
        obtain ⟨p0, p1, p2, p3, p4, p5⟩ := ac_cells (H2.out.vb (g8, ⟨yk, yh, ⟨yc, yp, yo, yw⟩⟩) (by simp)).2.2
        simp only at p0 p1 p2 p3 p4 p5
        have s0 := H2.out.p2.c0
        have s1 := H2.out.p2.c1
        go_upto_region 30 with (first
          | (go_at_call 16; refine (radd_any a1 n1 c1 a2 n2 c2 L ⟨yc, yp, yo, yw⟩ _ H2.out.rl H2.out.ll (by have h4 := HNK.out.1.le4; have h5 := HB.out.ll; omega)).mono ?_; rintro e W3 ⟨d0, e0, rfl, r1, f1, hb3⟩; have v0 := (H2.out.p2.below hb3).fz 0; have v1 := (H2.out.p2.below hb3).fz 1; have v2 := (H2.out.p2.below hb3).c0; have v3 := (H2.out.p2.below hb3).c1)
          | fail)
        have H4 : Hid (Good w ((W3.setCell ⟨g6, 0, none⟩ (.slice d0 (addL L ⟨yc, yp, yo, yw⟩).length e0)).setCell ⟨g6, 1, none⟩ (.slice a2 n2 c2)) q g6 [(g8, ⟨yk, yh, ⟨yc, yp, yo, yw⟩⟩), (w.heap.size, ⟨xk, xh, ⟨xc, xp, xo, xw⟩⟩)] (k + 1)) := by
          exact ⟨_, _, _, _, _, _, _, _, _, _, _, H2.out.store hb3 r1 rfl f1 (H2.out.rk.below hb3) H2.out.lk (.refl _ _ _), HNK.out.1.add _, HNK.out.2.1, Nat.le_trans HNK.out.2.2.1 (by omega), Nat.le_trans HNK.out.2.2.2 (by omega)⟩
        generalize addB L ⟨yc, yp, yo, yw⟩ = b1 at *
        clear v0 v1 v2 v3 p0 p1 p2 p3 p4 p5 s0 s1 H2
        try clear r1
        try clear r2
        try clear f1
        try clear f2
        clear hb3
        generalize ((W3.setCell ⟨g6, 0, none⟩ (.slice d0 (addL L ⟨yc, yp, yo, yw⟩).length e0)).setCell ⟨g6, 1, none⟩ (.slice a2 n2 c2)) = W4 at *
        clear HB HNK
        obtain ⟨V4, a4, n4, c4, a5, n5, c5, L4, C4, m4, K4, hR4, nc4, kc4, hm4, hn4⟩ := H4.out
        clear H4
        obtain ⟨tb, htb⟩ : ∃ t, busB K4 (kyOf yh ⟨yc, yp, yo, yw⟩) = t := ⟨_, rfl⟩
        obtain ⟨tw, htw⟩ : ∃ t, wasB K4 (kyOf yh ⟨yc, yp, yo, yw⟩) = t := ⟨_, rfl⟩
        have HR4 : Hid (Run w W4 V4 q g6 [(g8, ⟨yk, yh, ⟨yc, yp, yo, yw⟩⟩), (w.heap.size, ⟨xk, xh, ⟨xc, xp, xo, xw⟩⟩)] a4 n4 c4 a5 n5 c5 L4 C4 m4 L4 K4 ∧ Nice L4 ∧ KC K4 C4) := ⟨hR4, nc4, kc4⟩
        have HC24 : Hid (Calls Try.prog 24 #[qp q, .int .i64 yh, .agg #[.int .i64 yc, .int .i64 yp, .int .i64 yo, .bool yw]] W4 fun e w' => e = .returned (.tuple #[.bool tb, .bool tw]) ∧ Below W4.heap.size W4 w') := by
          show Calls _ _ _ _ _
          rw [← htb, ← htw]
          exact hR4.called kc4 ⟨yk, yh, ⟨yc, yp, yo, yw⟩⟩ HOK.out
        have HC25 : Hid (∀ V, Below W4.heap.size W4 V → Calls Try.prog 25 #[rqV a4 n4 c4 a5 n5 c5, .int .i64 yh, .agg #[.int .i64 yc, .int .i64 yp, .int .i64 yo, .bool yw]] V fun e w' => e = .returned (.tuple #[.bool tb, .bool tw]) ∧ Below W4.heap.size W4 w') := fun V hV => by
          rw [← htb, ← htw]
          exact (rcalled_any a4 n4 c4 a5 n5 c5 K4 yh ⟨yc, yp, yo, yw⟩ V (hR4.more hV).rk hR4.lk (by omega)).mono fun e w' ⟨h3, h4⟩ => ⟨h3, below_step hV h4⟩
        have HCe : Hid (∀ V, Below W4.heap.size W4 V → V.heap[g8]? = some (acO ⟨yk, yh, ⟨yc, yp, yo, yw⟩⟩) ∧ P2 V g6 (.slice a4 n4 c4) (.slice a5 n5 c5)) := fun V hV => ⟨((hR4.more hV).vb (g8, ⟨yk, yh, ⟨yc, yp, yo, yw⟩⟩) (by simp)).2.2, (hR4.more hV).p2⟩
        clear hR4 nc4 kc4 htb htw
        obtain ⟨p0, p1, p2, p3, p4, p5⟩ := ac_cells (HCe.out _ (Below.refl _ _)).1
        simp only at p0 p1 p2 p3 p4 p5
        go_upto_region 31 with (first
          | (go_at_call 24; refine HC24.out.mono ?_; rintro e W5 ⟨rfl, hb5⟩; have HB5 : Hid (Below W4.heap.size W4 W5) := hb5; clear hb5)
          | fail)
        clear p0 p1 p2 p3 p4 p5
        obtain ⟨p0, p1, p2, p3, p4, p5⟩ := ac_cells (HCe.out _ HB5.out).1
        simp only at p0 p1 p2 p3 p4 p5
        have s0 := (HCe.out _ HB5.out).2.c0
        have s1 := (HCe.out _ HB5.out).2.c1
        go_upto_region 32 with (first
          | (go_at_call 25; refine (HC25.out _ HB5.out).mono ?_; rintro e W6 ⟨rfl, hb6⟩; have HB6 : Hid (Below W4.heap.size W4 W6) := hb6; clear hb6)
          | fail)
        clear p0 p1 p2 p3 p4 p5 s0 s1
        have hR6 := HR4.out.1.more HB6.out
        obtain ⟨HCL, HA', HB', HC'⟩ := hR6.t32 HR4.out.2.2 HR4.out.2.1 (by omega) g8 ⟨yk, yh, ⟨yc, yp, yo, yw⟩⟩ (by simp)
        clear hR6
        simp only at HCL HA' HB' HC'
        refine runs_reg32 q g6 g8 b1 tb tw (routB K4 yh yp) yh yp a4 n4 c4 a5 n5 c5 W6 HCL HA' HB' HC' _ _ _ _ _ _ _ _ _ _ _ _ _ _ _ _ _ _ _ _ _ _ _ _ _ _ _ _ _ _ _ _ _ _ _ _ _ _ _ _ _ _ _ _ _ _ _ _ _ _ _ _ _ _ _ _ _ _ _ _ _ _ _ _ _ _ _ _ _ _ _ _ _ _ _ _ _ _ _ _ _ _ _ _ _ _ _ _ _ _ _ _ _ _ _ _ _ _ _ _ _ _ _ _ _ _ _ _ _ _ _ _ _ _ _ _ _ _ _ _ _ _ _ _ _ _ _ _ _ _ _ _ _ _ _ _ _ _ _ _ _ _ _ _ _ _ _ _ _ _ _ _ _ _ _ _ _ _ _ _ _ _ _ _ _ _ _ _ _ _ _ _ _ _ _ _ _ _ _ _ _ _ _ _ _ _ _ _ _ _ _ _ _ _ _ _ _ _ _ _ _ _ _ _ _ _ _ _ _ _ _ _ _ _ _ _ _ _ _ _ _ _ _ _ _ _ _ _ _ _ _ _ _ _ _ _ _ (fun _ _ _ _ _ h => h) ?_
        intro x150 x151 x152 x153 x154 x155 x156 x157 x158 x159 x160 x161 x162 x163 x164 x165 x166 x167 x168 x169 x170 x171 x172 x173 x174 x175 x176 x177 x178 x179 x180 x181 x182 x183 x184 x185 x186 w' hSw'
        have HG : Hid (Good w w' q g6 [(w.heap.size, ⟨xk, xh, ⟨xc, xp, xo, xw⟩⟩)] (k + 1)) := ⟨_, _, _, _, _, _, _, _, _, _, _, ((HR4.out.1.more HB6.out).more hSw').unbox, HR4.out.2.1, HR4.out.2.2, hm4, hn4⟩
        clear hSw' HCL HA' HB' HC' HR4 HC24 HC25 HCe HB5 HB6
        go_wp2
        go_roundw
        case rel => exact ⟨k + 1, by omega, by go_num, HG.out⟩
        case measure => simp [intOf]; omega
      have q0 : (yk == 0) = false := by simpa using k0
      clear k0
      by_cases k1 : yk = 1
      · have q1 : (yk == 1) = true := by simpa using k1
        clear k1
        have HP : Hid (Calls Try.prog 13 #[qp q, .int .i64 yh] W1 fun e W2 => e = .returned (.bool (hasB L yh)) ∧ Sx w.heap.size V1 W1 W2 q (rmL L yh) C m) := removeX HB.out.qx HB.out.vlt HB.out.bel.size (by have := HNK.out.1.le4; omega) yh
        go_upto_region 17 with (first
          | (go_at_call 13; refine HP.out.mono ?_; rintro e W2 ⟨rfl, s2⟩; have H2 : Hid (Run w W2 V1 q g6 [(g8, ⟨yk, yh, ⟨yc, yp, yo, yw⟩⟩), (w.heap.size, ⟨xk, xh, ⟨xc, xp, xo, xw⟩⟩)] a1 n1 c1 a2 n2 c2 (rmL L yh) C m L K) := HB.out.prog s2; clear s2)
          | fail)
        clear HP
        clear p0 p1 p2 p3 p4 p5
        obtain ⟨p0, p1, p2, p3, p4, p5⟩ := ac_cells (H2.out.vb (g8, ⟨yk, yh, ⟨yc, yp, yo, yw⟩⟩) (by simp)).2.2
        simp only at p0 p1 p2 p3 p4 p5
        have s0 := H2.out.p2.c0
        have s1 := H2.out.p2.c1
        go_upto_region 30 with (first
          | (go_at_call 17; refine (rremove_any a1 n1 c1 a2 n2 c2 L yh _ H2.out.rl H2.out.ll (by have h4 := HNK.out.1.le4; have h5 := HB.out.ll; omega)).mono ?_; rintro e W3 ⟨d0, e0, rfl, r1, f1, hb3⟩; have v0 := (H2.out.p2.below hb3).fz 0; have v1 := (H2.out.p2.below hb3).fz 1; have v2 := (H2.out.p2.below hb3).c0; have v3 := (H2.out.p2.below hb3).c1)
          | fail)
        have H4 : Hid (Good w ((W3.setCell ⟨g6, 0, none⟩ (.slice d0 (noC L yh).length e0)).setCell ⟨g6, 1, none⟩ (.slice a2 n2 c2)) q g6 [(g8, ⟨yk, yh, ⟨yc, yp, yo, yw⟩⟩), (w.heap.size, ⟨xk, xh, ⟨xc, xp, xo, xw⟩⟩)] (k + 1)) := by
          have h9 := H2.out.store hb3 r1 rfl f1 (H2.out.rk.below hb3) H2.out.lk (.refl _ _ _)
          rw [rm_noC yh HNK.out.1] at h9
          exact ⟨_, _, _, _, _, _, _, _, _, _, _, h9, HNK.out.1.noC _, HNK.out.2.1, Nat.le_trans HNK.out.2.2.1 (by omega), Nat.le_trans HNK.out.2.2.2 (by omega)⟩
        generalize hasB L yh = b1 at *
        clear v0 v1 v2 v3 p0 p1 p2 p3 p4 p5 s0 s1 H2
        try clear r1
        try clear r2
        try clear f1
        try clear f2
        clear hb3
        generalize ((W3.setCell ⟨g6, 0, none⟩ (.slice d0 (noC L yh).length e0)).setCell ⟨g6, 1, none⟩ (.slice a2 n2 c2)) = W4 at *
        clear HB HNK
        obtain ⟨V4, a4, n4, c4, a5, n5, c5, L4, C4, m4, K4, hR4, nc4, kc4, hm4, hn4⟩ := H4.out
        clear H4
        obtain ⟨tb, htb⟩ : ∃ t, busB K4 (kyOf yh ⟨yc, yp, yo, yw⟩) = t := ⟨_, rfl⟩
        obtain ⟨tw, htw⟩ : ∃ t, wasB K4 (kyOf yh ⟨yc, yp, yo, yw⟩) = t := ⟨_, rfl⟩
        have HR4 : Hid (Run w W4 V4 q g6 [(g8, ⟨yk, yh, ⟨yc, yp, yo, yw⟩⟩), (w.heap.size, ⟨xk, xh, ⟨xc, xp, xo, xw⟩⟩)] a4 n4 c4 a5 n5 c5 L4 C4 m4 L4 K4 ∧ Nice L4 ∧ KC K4 C4) := ⟨hR4, nc4, kc4⟩
        have HC24 : Hid (Calls Try.prog 24 #[qp q, .int .i64 yh, .agg #[.int .i64 yc, .int .i64 yp, .int .i64 yo, .bool yw]] W4 fun e w' => e = .returned (.tuple #[.bool tb, .bool tw]) ∧ Below W4.heap.size W4 w') := by
          show Calls _ _ _ _ _
          rw [← htb, ← htw]
          exact hR4.called kc4 ⟨yk, yh, ⟨yc, yp, yo, yw⟩⟩ HOK.out
        have HC25 : Hid (∀ V, Below W4.heap.size W4 V → Calls Try.prog 25 #[rqV a4 n4 c4 a5 n5 c5, .int .i64 yh, .agg #[.int .i64 yc, .int .i64 yp, .int .i64 yo, .bool yw]] V fun e w' => e = .returned (.tuple #[.bool tb, .bool tw]) ∧ Below W4.heap.size W4 w') := fun V hV => by
          rw [← htb, ← htw]
          exact (rcalled_any a4 n4 c4 a5 n5 c5 K4 yh ⟨yc, yp, yo, yw⟩ V (hR4.more hV).rk hR4.lk (by omega)).mono fun e w' ⟨h3, h4⟩ => ⟨h3, below_step hV h4⟩
        have HCe : Hid (∀ V, Below W4.heap.size W4 V → V.heap[g8]? = some (acO ⟨yk, yh, ⟨yc, yp, yo, yw⟩⟩) ∧ P2 V g6 (.slice a4 n4 c4) (.slice a5 n5 c5)) := fun V hV => ⟨((hR4.more hV).vb (g8, ⟨yk, yh, ⟨yc, yp, yo, yw⟩⟩) (by simp)).2.2, (hR4.more hV).p2⟩
        clear hR4 nc4 kc4 htb htw
        obtain ⟨p0, p1, p2, p3, p4, p5⟩ := ac_cells (HCe.out _ (Below.refl _ _)).1
        simp only at p0 p1 p2 p3 p4 p5
        go_upto_region 31 with (first
          | (go_at_call 24; refine HC24.out.mono ?_; rintro e W5 ⟨rfl, hb5⟩; have HB5 : Hid (Below W4.heap.size W4 W5) := hb5; clear hb5)
          | fail)
        clear p0 p1 p2 p3 p4 p5
        obtain ⟨p0, p1, p2, p3, p4, p5⟩ := ac_cells (HCe.out _ HB5.out).1
        simp only at p0 p1 p2 p3 p4 p5
        have s0 := (HCe.out _ HB5.out).2.c0
        have s1 := (HCe.out _ HB5.out).2.c1
        go_upto_region 32 with (first
          | (go_at_call 25; refine (HC25.out _ HB5.out).mono ?_; rintro e W6 ⟨rfl, hb6⟩; have HB6 : Hid (Below W4.heap.size W4 W6) := hb6; clear hb6)
          | fail)
        clear p0 p1 p2 p3 p4 p5 s0 s1
        have hR6 := HR4.out.1.more HB6.out
        obtain ⟨HCL, HA', HB', HC'⟩ := hR6.t32 HR4.out.2.2 HR4.out.2.1 (by omega) g8 ⟨yk, yh, ⟨yc, yp, yo, yw⟩⟩ (by simp)
        clear hR6
        simp only at HCL HA' HB' HC'
        refine runs_reg32 q g6 g8 b1 tb tw (routB K4 yh yp) yh yp a4 n4 c4 a5 n5 c5 W6 HCL HA' HB' HC' _ _ _ _ _ _ _ _ _ _ _ _ _ _ _ _ _ _ _ _ _ _ _ _ _ _ _ _ _ _ _ _ _ _ _ _ _ _ _ _ _ _ _ _ _ _ _ _ _ _ _ _ _ _ _ _ _ _ _ _ _ _ _ _ _ _ _ _ _ _ _ _ _ _ _ _ _ _ _ _ _ _ _ _ _ _ _ _ _ _ _ _ _ _ _ _ _ _ _ _ _ _ _ _ _ _ _ _ _ _ _ _ _ _ _ _ _ _ _ _ _ _ _ _ _ _ _ _ _ _ _ _ _ _ _ _ _ _ _ _ _ _ _ _ _ _ _ _ _ _ _ _ _ _ _ _ _ _ _ _ _ _ _ _ _ _ _ _ _ _ _ _ _ _ _ _ _ _ _ _ _ _ _ _ _ _ _ _ _ _ _ _ _ _ _ _ _ _ _ _ _ _ _ _ _ _ _ _ _ _ _ _ _ _ _ _ _ _ _ _ _ _ _ _ _ _ _ _ _ _ _ _ _ _ _ _ _ (fun _ _ _ _ _ h => h) ?_
        intro x150 x151 x152 x153 x154 x155 x156 x157 x158 x159 x160 x161 x162 x163 x164 x165 x166 x167 x168 x169 x170 x171 x172 x173 x174 x175 x176 x177 x178 x179 x180 x181 x182 x183 x184 x185 x186 w' hSw'
        have HG : Hid (Good w w' q g6 [(w.heap.size, ⟨xk, xh, ⟨xc, xp, xo, xw⟩⟩)] (k + 1)) := ⟨_, _, _, _, _, _, _, _, _, _, _, ((HR4.out.1.more HB6.out).more hSw').unbox, HR4.out.2.1, HR4.out.2.2, hm4, hn4⟩
        clear hSw' HCL HA' HB' HC' HR4 HC24 HC25 HCe HB5 HB6
        go_wp2
        go_roundw
        case rel => exact ⟨k + 1, by omega, by go_num, HG.out⟩
        case measure => simp [intOf]; omega
      have q1 : (yk == 1) = false := by simpa using k1
      clear k1
      by_cases k2 : yk = 2
      · have q2 : (yk == 2) = true := by simpa using k2
        clear k2
        have HP : Hid (Calls Try.prog 12 #[qp q, .int .i64 yh, .agg #[.int .i64 yc, .int .i64 yp, .int .i64 yo, .bool yw]] W1 fun e W2 => e = .returned (.bool (callB C yh ⟨yc, yp, yo, yw⟩)) ∧ Sx w.heap.size V1 W1 W2 q L (callC C yh ⟨yc, yp, yo, yw⟩) (m + 1)) := callX HB.out.qx HB.out.vlt HB.out.bel.size (by have := HNK.out.2.2.1; omega) yh ⟨yc, yp, yo, yw⟩
        go_upto_region 20 with (first
          | (go_at_call 12; refine HP.out.mono ?_; rintro e W2 ⟨rfl, s2⟩; have H2 : Hid (Run w W2 V1 q g6 [(g8, ⟨yk, yh, ⟨yc, yp, yo, yw⟩⟩), (w.heap.size, ⟨xk, xh, ⟨xc, xp, xo, xw⟩⟩)] a1 n1 c1 a2 n2 c2 L (callC C yh ⟨yc, yp, yo, yw⟩) (m + 1) L K) := HB.out.prog s2; clear s2)
          | fail)
        clear HP
        clear p0 p1 p2 p3 p4 p5
        obtain ⟨p0, p1, p2, p3, p4, p5⟩ := ac_cells (H2.out.vb (g8, ⟨yk, yh, ⟨yc, yp, yo, yw⟩⟩) (by simp)).2.2
        simp only at p0 p1 p2 p3 p4 p5
        have s0 := H2.out.p2.c0
        have s1 := H2.out.p2.c1
        go_upto_region 30 with (first
          | (go_at_call 18; refine (rcalls_any a1 n1 c1 a2 n2 c2 K yh ⟨yc, yp, yo, yw⟩ _ H2.out.rk H2.out.lk (by have := HNK.out.2.2.2; omega)).mono ?_; rintro e W3 ⟨d0, e0, rfl, r1, f1, hb3⟩; have v0 := (H2.out.p2.below hb3).fz 0; have v1 := (H2.out.p2.below hb3).fz 1; have v2 := (H2.out.p2.below hb3).c0; have v3 := (H2.out.p2.below hb3).c1)
          | fail)
        have H4 : Hid (Good w ((W3.setCell ⟨g6, 0, none⟩ (.slice a1 n1 c1)).setCell ⟨g6, 1, none⟩ (.slice d0 (calK K (kyOf yh ⟨yc, yp, yo, yw⟩)).length e0)) q g6 [(g8, ⟨yk, yh, ⟨yc, yp, yo, yw⟩⟩), (w.heap.size, ⟨xk, xh, ⟨xc, xp, xo, xw⟩⟩)] (k + 1)) := by
          exact ⟨_, _, _, _, _, _, _, _, _, _, _, H2.out.store hb3 (H2.out.rl.below hb3) H2.out.ll (.refl _ _ _) r1 rfl f1, HNK.out.1, HNK.out.2.1.call yh ⟨yc, yp, yo, yw⟩, by have := HNK.out.2.2.1; omega, by have h5 := calK_le K (kyOf yh ⟨yc, yp, yo, yw⟩); have h6 := HB.out.lk; have := HNK.out.2.2.2; omega⟩
        rw [HNK.out.2.1.callB yh ⟨yc, yp, yo, yw⟩]
        generalize calB K (kyOf yh ⟨yc, yp, yo, yw⟩) = b1 at *
        clear v0 v1 v2 v3 p0 p1 p2 p3 p4 p5 s0 s1 H2
        try clear r1
        try clear r2
        try clear f1
        try clear f2
        clear hb3
        generalize ((W3.setCell ⟨g6, 0, none⟩ (.slice a1 n1 c1)).setCell ⟨g6, 1, none⟩ (.slice d0 (calK K (kyOf yh ⟨yc, yp, yo, yw⟩)).length e0)) = W4 at *
        clear HB HNK
        obtain ⟨V4, a4, n4, c4, a5, n5, c5, L4, C4, m4, K4, hR4, nc4, kc4, hm4, hn4⟩ := H4.out
        clear H4
        obtain ⟨tb, htb⟩ : ∃ t, busB K4 (kyOf yh ⟨yc, yp, yo, yw⟩) = t := ⟨_, rfl⟩
        obtain ⟨tw, htw⟩ : ∃ t, wasB K4 (kyOf yh ⟨yc, yp, yo, yw⟩) = t := ⟨_, rfl⟩
        have HR4 : Hid (Run w W4 V4 q g6 [(g8, ⟨yk, yh, ⟨yc, yp, yo, yw⟩⟩), (w.heap.size, ⟨xk, xh, ⟨xc, xp, xo, xw⟩⟩)] a4 n4 c4 a5 n5 c5 L4 C4 m4 L4 K4 ∧ Nice L4 ∧ KC K4 C4) := ⟨hR4, nc4, kc4⟩
        have HC24 : Hid (Calls Try.prog 24 #[qp q, .int .i64 yh, .agg #[.int .i64 yc, .int .i64 yp, .int .i64 yo, .bool yw]] W4 fun e w' => e = .returned (.tuple #[.bool tb, .bool tw]) ∧ Below W4.heap.size W4 w') := by
          show Calls _ _ _ _ _
          rw [← htb, ← htw]
          exact hR4.called kc4 ⟨yk, yh, ⟨yc, yp, yo, yw⟩⟩ HOK.out
        have HC25 : Hid (∀ V, Below W4.heap.size W4 V → Calls Try.prog 25 #[rqV a4 n4 c4 a5 n5 c5, .int .i64 yh, .agg #[.int .i64 yc, .int .i64 yp, .int .i64 yo, .bool yw]] V fun e w' => e = .returned (.tuple #[.bool tb, .bool tw]) ∧ Below W4.heap.size W4 w') := fun V hV => by
          rw [← htb, ← htw]
          exact (rcalled_any a4 n4 c4 a5 n5 c5 K4 yh ⟨yc, yp, yo, yw⟩ V (hR4.more hV).rk hR4.lk (by omega)).mono fun e w' ⟨h3, h4⟩ => ⟨h3, below_step hV h4⟩
        have HCe : Hid (∀ V, Below W4.heap.size W4 V → V.heap[g8]? = some (acO ⟨yk, yh, ⟨yc, yp, yo, yw⟩⟩) ∧ P2 V g6 (.slice a4 n4 c4) (.slice a5 n5 c5)) := fun V hV => ⟨((hR4.more hV).vb (g8, ⟨yk, yh, ⟨yc, yp, yo, yw⟩⟩) (by simp)).2.2, (hR4.more hV).p2⟩
        clear hR4 nc4 kc4 htb htw
        obtain ⟨p0, p1, p2, p3, p4, p5⟩ := ac_cells (HCe.out _ (Below.refl _ _)).1
        simp only at p0 p1 p2 p3 p4 p5
        go_upto_region 31 with (first
          | (go_at_call 24; refine HC24.out.mono ?_; rintro e W5 ⟨rfl, hb5⟩; have HB5 : Hid (Below W4.heap.size W4 W5) := hb5; clear hb5)
          | fail)
        clear p0 p1 p2 p3 p4 p5
        obtain ⟨p0, p1, p2, p3, p4, p5⟩ := ac_cells (HCe.out _ HB5.out).1
        simp only at p0 p1 p2 p3 p4 p5
        have s0 := (HCe.out _ HB5.out).2.c0
        have s1 := (HCe.out _ HB5.out).2.c1
        go_upto_region 32 with (first
          | (go_at_call 25; refine (HC25.out _ HB5.out).mono ?_; rintro e W6 ⟨rfl, hb6⟩; have HB6 : Hid (Below W4.heap.size W4 W6) := hb6; clear hb6)
          | fail)
        clear p0 p1 p2 p3 p4 p5 s0 s1
        have hR6 := HR4.out.1.more HB6.out
        obtain ⟨HCL, HA', HB', HC'⟩ := hR6.t32 HR4.out.2.2 HR4.out.2.1 (by omega) g8 ⟨yk, yh, ⟨yc, yp, yo, yw⟩⟩ (by simp)
        clear hR6
        simp only at HCL HA' HB' HC'
        refine runs_reg32 q g6 g8 b1 tb tw (routB K4 yh yp) yh yp a4 n4 c4 a5 n5 c5 W6 HCL HA' HB' HC' _ _ _ _ _ _ _ _ _ _ _ _ _ _ _ _ _ _ _ _ _ _ _ _ _ _ _ _ _ _ _ _ _ _ _ _ _ _ _ _ _ _ _ _ _ _ _ _ _ _ _ _ _ _ _ _ _ _ _ _ _ _ _ _ _ _ _ _ _ _ _ _ _ _ _ _ _ _ _ _ _ _ _ _ _ _ _ _ _ _ _ _ _ _ _ _ _ _ _ _ _ _ _ _ _ _ _ _ _ _ _ _ _ _ _ _ _ _ _ _ _ _ _ _ _ _ _ _ _ _ _ _ _ _ _ _ _ _ _ _ _ _ _ _ _ _ _ _ _ _ _ _ _ _ _ _ _ _ _ _ _ _ _ _ _ _ _ _ _ _ _ _ _ _ _ _ _ _ _ _ _ _ _ _ _ _ _ _ _ _ _ _ _ _ _ _ _ _ _ _ _ _ _ _ _ _ _ _ _ _ _ _ _ _ _ _ _ _ _ _ _ _ _ _ _ _ _ _ _ _ _ _ _ _ _ _ _ (fun _ _ _ _ _ h => h) ?_
        intro x150 x151 x152 x153 x154 x155 x156 x157 x158 x159 x160 x161 x162 x163 x164 x165 x166 x167 x168 x169 x170 x171 x172 x173 x174 x175 x176 x177 x178 x179 x180 x181 x182 x183 x184 x185 x186 w' hSw'
        have HG : Hid (Good w w' q g6 [(w.heap.size, ⟨xk, xh, ⟨xc, xp, xo, xw⟩⟩)] (k + 1)) := ⟨_, _, _, _, _, _, _, _, _, _, _, ((HR4.out.1.more HB6.out).more hSw').unbox, HR4.out.2.1, HR4.out.2.2, hm4, hn4⟩
        clear hSw' HCL HA' HB' HC' HR4 HC24 HC25 HCe HB5 HB6
        go_wp2
        go_roundw
        case rel => exact ⟨k + 1, by omega, by go_num, HG.out⟩
        case measure => simp [intOf]; omega
      have q2 : (yk == 2) = false := by simpa using k2
      clear k2
      by_cases k3 : yk = 3
      · have q3 : (yk == 3) = true := by simpa using k3
        clear k3
        have HP : Hid (Calls Try.prog 14 #[qp q, .int .i64 yh, .agg #[.int .i64 yc, .int .i64 yp, .int .i64 yo, .bool yw]] W1 fun e W2 => e = .returned (.bool (C (kyOf yh ⟨yc, yp, yo, yw⟩)).isSome) ∧ Sx w.heap.size V1 W1 W2 q L (busyC C yh ⟨yc, yp, yo, yw⟩) (m + 1)) := busyX HB.out.qx HB.out.vlt HB.out.bel.size (by have := HNK.out.2.2.1; omega) yh ⟨yc, yp, yo, yw⟩ (Ac.ky (y := ⟨yk, yh, ⟨yc, yp, yo, yw⟩⟩) HOK.out)
        go_upto_region 23 with (first
          | (go_at_call 14; refine HP.out.mono ?_; rintro e W2 ⟨rfl, s2⟩; have H2 : Hid (Run w W2 V1 q g6 [(g8, ⟨yk, yh, ⟨yc, yp, yo, yw⟩⟩), (w.heap.size, ⟨xk, xh, ⟨xc, xp, xo, xw⟩⟩)] a1 n1 c1 a2 n2 c2 L (busyC C yh ⟨yc, yp, yo, yw⟩) (m + 1) L K) := HB.out.prog s2; clear s2)
          | fail)
        clear HP
        clear p0 p1 p2 p3 p4 p5
        obtain ⟨p0, p1, p2, p3, p4, p5⟩ := ac_cells (H2.out.vb (g8, ⟨yk, yh, ⟨yc, yp, yo, yw⟩⟩) (by simp)).2.2
        simp only at p0 p1 p2 p3 p4 p5
        have s0 := H2.out.p2.c0
        have s1 := H2.out.p2.c1
        go_upto_region 30 with (first
          | (go_at_call 19; refine (rbusy_any a1 n1 c1 a2 n2 c2 K yh ⟨yc, yp, yo, yw⟩ _ H2.out.rk H2.out.lk (by have := HNK.out.2.2.2; omega)).mono ?_; rintro e W3 ⟨d0, e0, rfl, r1, f1, hb3⟩; have v0 := (H2.out.p2.below hb3).fz 0; have v1 := (H2.out.p2.below hb3).fz 1; have v2 := (H2.out.p2.below hb3).c0; have v3 := (H2.out.p2.below hb3).c1)
          | fail)
        have H4 : Hid (Good w ((W3.setCell ⟨g6, 0, none⟩ (.slice a1 n1 c1)).setCell ⟨g6, 1, none⟩ (.slice d0 (busK K (kyOf yh ⟨yc, yp, yo, yw⟩)).length e0)) q g6 [(g8, ⟨yk, yh, ⟨yc, yp, yo, yw⟩⟩), (w.heap.size, ⟨xk, xh, ⟨xc, xp, xo, xw⟩⟩)] (k + 1)) := by
          exact ⟨_, _, _, _, _, _, _, _, _, _, _, H2.out.store hb3 (H2.out.rl.below hb3) H2.out.ll (.refl _ _ _) r1 rfl f1, HNK.out.1, HNK.out.2.1.busy yh ⟨yc, yp, yo, yw⟩, by have := HNK.out.2.2.1; omega, by have h5 := busK_le K (kyOf yh ⟨yc, yp, yo, yw⟩); have h6 := HB.out.lk; have := HNK.out.2.2.2; omega⟩
        rw [(HNK.out.2.1.there (kyOf yh ⟨yc, yp, yo, yw⟩)).1]
        generalize busB K (kyOf yh ⟨yc, yp, yo, yw⟩) = b1 at *
        clear v0 v1 v2 v3 p0 p1 p2 p3 p4 p5 s0 s1 H2
        try clear r1
        try clear r2
        try clear f1
        try clear f2
        clear hb3
        generalize ((W3.setCell ⟨g6, 0, none⟩ (.slice a1 n1 c1)).setCell ⟨g6, 1, none⟩ (.slice d0 (busK K (kyOf yh ⟨yc, yp, yo, yw⟩)).length e0)) = W4 at *
        clear HB HNK
        obtain ⟨V4, a4, n4, c4, a5, n5, c5, L4, C4, m4, K4, hR4, nc4, kc4, hm4, hn4⟩ := H4.out
        clear H4
        obtain ⟨tb, htb⟩ : ∃ t, busB K4 (kyOf yh ⟨yc, yp, yo, yw⟩) = t := ⟨_, rfl⟩
        obtain ⟨tw, htw⟩ : ∃ t, wasB K4 (kyOf yh ⟨yc, yp, yo, yw⟩) = t := ⟨_, rfl⟩
        have HR4 : Hid (Run w W4 V4 q g6 [(g8, ⟨yk, yh, ⟨yc, yp, yo, yw⟩⟩), (w.heap.size, ⟨xk, xh, ⟨xc, xp, xo, xw⟩⟩)] a4 n4 c4 a5 n5 c5 L4 C4 m4 L4 K4 ∧ Nice L4 ∧ KC K4 C4) := ⟨hR4, nc4, kc4⟩
        have HC24 : Hid (Calls Try.prog 24 #[qp q, .int .i64 yh, .agg #[.int .i64 yc, .int .i64 yp, .int .i64 yo, .bool yw]] W4 fun e w' => e = .returned (.tuple #[.bool tb, .bool tw]) ∧ Below W4.heap.size W4 w') := by
          show Calls _ _ _ _ _
          rw [← htb, ← htw]
          exact hR4.called kc4 ⟨yk, yh, ⟨yc, yp, yo, yw⟩⟩ HOK.out
        have HC25 : Hid (∀ V, Below W4.heap.size W4 V → Calls Try.prog 25 #[rqV a4 n4 c4 a5 n5 c5, .int .i64 yh, .agg #[.int .i64 yc, .int .i64 yp, .int .i64 yo, .bool yw]] V fun e w' => e = .returned (.tuple #[.bool tb, .bool tw]) ∧ Below W4.heap.size W4 w') := fun V hV => by
          rw [← htb, ← htw]
          exact (rcalled_any a4 n4 c4 a5 n5 c5 K4 yh ⟨yc, yp, yo, yw⟩ V (hR4.more hV).rk hR4.lk (by omega)).mono fun e w' ⟨h3, h4⟩ => ⟨h3, below_step hV h4⟩
        have HCe : Hid (∀ V, Below W4.heap.size W4 V → V.heap[g8]? = some (acO ⟨yk, yh, ⟨yc, yp, yo, yw⟩⟩) ∧ P2 V g6 (.slice a4 n4 c4) (.slice a5 n5 c5)) := fun V hV => ⟨((hR4.more hV).vb (g8, ⟨yk, yh, ⟨yc, yp, yo, yw⟩⟩) (by simp)).2.2, (hR4.more hV).p2⟩
        clear hR4 nc4 kc4 htb htw
        obtain ⟨p0, p1, p2, p3, p4, p5⟩ := ac_cells (HCe.out _ (Below.refl _ _)).1
        simp only at p0 p1 p2 p3 p4 p5
        go_upto_region 31 with (first
          | (go_at_call 24; refine HC24.out.mono ?_; rintro e W5 ⟨rfl, hb5⟩; have HB5 : Hid (Below W4.heap.size W4 W5) := hb5; clear hb5)
          | fail)
        clear p0 p1 p2 p3 p4 p5
        obtain ⟨p0, p1, p2, p3, p4, p5⟩ := ac_cells (HCe.out _ HB5.out).1
        simp only at p0 p1 p2 p3 p4 p5
        have s0 := (HCe.out _ HB5.out).2.c0
        have s1 := (HCe.out _ HB5.out).2.c1
        go_upto_region 32 with (first
          | (go_at_call 25; refine (HC25.out _ HB5.out).mono ?_; rintro e W6 ⟨rfl, hb6⟩; have HB6 : Hid (Below W4.heap.size W4 W6) := hb6; clear hb6)
          | fail)
        clear p0 p1 p2 p3 p4 p5 s0 s1
        have hR6 := HR4.out.1.more HB6.out
        obtain ⟨HCL, HA', HB', HC'⟩ := hR6.t32 HR4.out.2.2 HR4.out.2.1 (by omega) g8 ⟨yk, yh, ⟨yc, yp, yo, yw⟩⟩ (by simp)
        clear hR6
        simp only at HCL HA' HB' HC'
        refine runs_reg32 q g6 g8 b1 tb tw (routB K4 yh yp) yh yp a4 n4 c4 a5 n5 c5 W6 HCL HA' HB' HC' _ _ _ _ _ _ _ _ _ _ _ _ _ _ _ _ _ _ _ _ _ _ _ _ _ _ _ _ _ _ _ _ _ _ _ _ _ _ _ _ _ _ _ _ _ _ _ _ _ _ _ _ _ _ _ _ _ _ _ _ _ _ _ _ _ _ _ _ _ _ _ _ _ _ _ _ _ _ _ _ _ _ _ _ _ _ _ _ _ _ _ _ _ _ _ _ _ _ _ _ _ _ _ _ _ _ _ _ _ _ _ _ _ _ _ _ _ _ _ _ _ _ _ _ _ _ _ _ _ _ _ _ _ _ _ _ _ _ _ _ _ _ _ _ _ _ _ _ _ _ _ _ _ _ _ _ _ _ _ _ _ _ _ _ _ _ _ _ _ _ _ _ _ _ _ _ _ _ _ _ _ _ _ _ _ _ _ _ _ _ _ _ _ _ _ _ _ _ _ _ _ _ _ _ _ _ _ _ _ _ _ _ _ _ _ _ _ _ _ _ _ _ _ _ _ _ _ _ _ _ _ _ _ _ _ _ _ (fun _ _ _ _ _ h => h) ?_
        intro x150 x151 x152 x153 x154 x155 x156 x157 x158 x159 x160 x161 x162 x163 x164 x165 x166 x167 x168 x169 x170 x171 x172 x173 x174 x175 x176 x177 x178 x179 x180 x181 x182 x183 x184 x185 x186 w' hSw'
        have HG : Hid (Good w w' q g6 [(w.heap.size, ⟨xk, xh, ⟨xc, xp, xo, xw⟩⟩)] (k + 1)) := ⟨_, _, _, _, _, _, _, _, _, _, _, ((HR4.out.1.more HB6.out).more hSw').unbox, HR4.out.2.1, HR4.out.2.2, hm4, hn4⟩
        clear hSw' HCL HA' HB' HC' HR4 HC24 HC25 HCe HB5 HB6
        go_wp2
        go_roundw
        case rel => exact ⟨k + 1, by omega, by go_num, HG.out⟩
        case measure => simp [intOf]; omega
      have q3 : (yk == 3) = false := by simpa using k3
      clear k3
      by_cases k4 : yk = 4
      · have q4 : (yk == 4) = true := by simpa using k4
        clear k4
        have HP : Hid (Calls Try.prog 20 #[qp q, .int .i64 yh, .int .i64 yp, .int .i64 yo, .bool yw] W1 fun e W2 => e = .returned (.tuple #[]) ∧ Sx w.heap.size V1 W1 W2 q L (C.set (kyOf yh ⟨yc, yp, yo, yw⟩) none) m) := answerX HB.out.qx HB.out.vlt HB.out.bel.size (kyOf yh ⟨yc, yp, yo, yw⟩) (Ac.ky (y := ⟨yk, yh, ⟨yc, yp, yo, yw⟩⟩) HOK.out)
        go_upto_region 26 with (first
          | (go_at_call 20; refine HP.out.mono ?_; rintro e W2 ⟨rfl, s2⟩; have H2 : Hid (Run w W2 V1 q g6 [(g8, ⟨yk, yh, ⟨yc, yp, yo, yw⟩⟩), (w.heap.size, ⟨xk, xh, ⟨xc, xp, xo, xw⟩⟩)] a1 n1 c1 a2 n2 c2 L (C.set (kyOf yh ⟨yc, yp, yo, yw⟩) none) m L K) := HB.out.prog s2; clear s2)
          | fail)
        clear HP
        clear p0 p1 p2 p3 p4 p5
        obtain ⟨p0, p1, p2, p3, p4, p5⟩ := ac_cells (H2.out.vb (g8, ⟨yk, yh, ⟨yc, yp, yo, yw⟩⟩) (by simp)).2.2
        simp only at p0 p1 p2 p3 p4 p5
        have s0 := H2.out.p2.c0
        have s1 := H2.out.p2.c1
        go_upto_region 30 with (first
          | (go_at_call 21; refine (ranswer_any a1 n1 c1 a2 n2 c2 K (kyOf yh ⟨yc, yp, yo, yw⟩) _ H2.out.rk H2.out.lk (by have := HNK.out.2.2.2; omega)).mono ?_; rintro e W3 ⟨d0, e0, rfl, r1, f1, hb3⟩; have v0 := (H2.out.p2.below hb3).fz 0; have v1 := (H2.out.p2.below hb3).fz 1; have v2 := (H2.out.p2.below hb3).c0; have v3 := (H2.out.p2.below hb3).c1)
          | fail)
        have H4 : Hid (Good w ((W3.setCell ⟨g6, 0, none⟩ (.slice a1 n1 c1)).setCell ⟨g6, 1, none⟩ (.slice d0 (ansK K (kyOf yh ⟨yc, yp, yo, yw⟩)).length e0)) q g6 [(g8, ⟨yk, yh, ⟨yc, yp, yo, yw⟩⟩), (w.heap.size, ⟨xk, xh, ⟨xc, xp, xo, xw⟩⟩)] (k + 1)) := by
          exact ⟨_, _, _, _, _, _, _, _, _, _, _, H2.out.store hb3 (H2.out.rl.below hb3) H2.out.ll (.refl _ _ _) r1 rfl f1, HNK.out.1, HNK.out.2.1.answer (kyOf yh ⟨yc, yp, yo, yw⟩), by have := HNK.out.2.2.1; omega, by have h5 := ansK_le K (kyOf yh ⟨yc, yp, yo, yw⟩); have h6 := HB.out.lk; have := HNK.out.2.2.2; omega⟩
        clear v0 v1 v2 v3 p0 p1 p2 p3 p4 p5 s0 s1 H2
        try clear r1
        try clear r2
        try clear f1
        try clear f2
        clear hb3
        generalize ((W3.setCell ⟨g6, 0, none⟩ (.slice a1 n1 c1)).setCell ⟨g6, 1, none⟩ (.slice d0 (ansK K (kyOf yh ⟨yc, yp, yo, yw⟩)).length e0)) = W4 at *
        clear HB HNK
        obtain ⟨V4, a4, n4, c4, a5, n5, c5, L4, C4, m4, K4, hR4, nc4, kc4, hm4, hn4⟩ := H4.out
        clear H4
        obtain ⟨tb, htb⟩ : ∃ t, busB K4 (kyOf yh ⟨yc, yp, yo, yw⟩) = t := ⟨_, rfl⟩
        obtain ⟨tw, htw⟩ : ∃ t, wasB K4 (kyOf yh ⟨yc, yp, yo, yw⟩) = t := ⟨_, rfl⟩
        have HR4 : Hid (Run w W4 V4 q g6 [(g8, ⟨yk, yh, ⟨yc, yp, yo, yw⟩⟩), (w.heap.size, ⟨xk, xh, ⟨xc, xp, xo, xw⟩⟩)] a4 n4 c4 a5 n5 c5 L4 C4 m4 L4 K4 ∧ Nice L4 ∧ KC K4 C4) := ⟨hR4, nc4, kc4⟩
        have HC24 : Hid (Calls Try.prog 24 #[qp q, .int .i64 yh, .agg #[.int .i64 yc, .int .i64 yp, .int .i64 yo, .bool yw]] W4 fun e w' => e = .returned (.tuple #[.bool tb, .bool tw]) ∧ Below W4.heap.size W4 w') := by
          show Calls _ _ _ _ _
          rw [← htb, ← htw]
          exact hR4.called kc4 ⟨yk, yh, ⟨yc, yp, yo, yw⟩⟩ HOK.out
        have HC25 : Hid (∀ V, Below W4.heap.size W4 V → Calls Try.prog 25 #[rqV a4 n4 c4 a5 n5 c5, .int .i64 yh, .agg #[.int .i64 yc, .int .i64 yp, .int .i64 yo, .bool yw]] V fun e w' => e = .returned (.tuple #[.bool tb, .bool tw]) ∧ Below W4.heap.size W4 w') := fun V hV => by
          rw [← htb, ← htw]
          exact (rcalled_any a4 n4 c4 a5 n5 c5 K4 yh ⟨yc, yp, yo, yw⟩ V (hR4.more hV).rk hR4.lk (by omega)).mono fun e w' ⟨h3, h4⟩ => ⟨h3, below_step hV h4⟩
        have HCe : Hid (∀ V, Below W4.heap.size W4 V → V.heap[g8]? = some (acO ⟨yk, yh, ⟨yc, yp, yo, yw⟩⟩) ∧ P2 V g6 (.slice a4 n4 c4) (.slice a5 n5 c5)) := fun V hV => ⟨((hR4.more hV).vb (g8, ⟨yk, yh, ⟨yc, yp, yo, yw⟩⟩) (by simp)).2.2, (hR4.more hV).p2⟩
        clear hR4 nc4 kc4 htb htw
        obtain ⟨p0, p1, p2, p3, p4, p5⟩ := ac_cells (HCe.out _ (Below.refl _ _)).1
        simp only at p0 p1 p2 p3 p4 p5
        go_upto_region 31 with (first
          | (go_at_call 24; refine HC24.out.mono ?_; rintro e W5 ⟨rfl, hb5⟩; have HB5 : Hid (Below W4.heap.size W4 W5) := hb5; clear hb5)
          | fail)
        clear p0 p1 p2 p3 p4 p5
        obtain ⟨p0, p1, p2, p3, p4, p5⟩ := ac_cells (HCe.out _ HB5.out).1
        simp only at p0 p1 p2 p3 p4 p5
        have s0 := (HCe.out _ HB5.out).2.c0
        have s1 := (HCe.out _ HB5.out).2.c1
        go_upto_region 32 with (first
          | (go_at_call 25; refine (HC25.out _ HB5.out).mono ?_; rintro e W6 ⟨rfl, hb6⟩; have HB6 : Hid (Below W4.heap.size W4 W6) := hb6; clear hb6)
          | fail)
        clear p0 p1 p2 p3 p4 p5 s0 s1
        have hR6 := HR4.out.1.more HB6.out
        obtain ⟨HCL, HA', HB', HC'⟩ := hR6.t32 HR4.out.2.2 HR4.out.2.1 (by omega) g8 ⟨yk, yh, ⟨yc, yp, yo, yw⟩⟩ (by simp)
        clear hR6
        simp only at HCL HA' HB' HC'
        refine runs_reg32 q g6 g8 false tb tw (routB K4 yh yp) yh yp a4 n4 c4 a5 n5 c5 W6 HCL HA' HB' HC' _ _ _ _ _ _ _ _ _ _ _ _ _ _ _ _ _ _ _ _ _ _ _ _ _ _ _ _ _ _ _ _ _ _ _ _ _ _ _ _ _ _ _ _ _ _ _ _ _ _ _ _ _ _ _ _ _ _ _ _ _ _ _ _ _ _ _ _ _ _ _ _ _ _ _ _ _ _ _ _ _ _ _ _ _ _ _ _ _ _ _ _ _ _ _ _ _ _ _ _ _ _ _ _ _ _ _ _ _ _ _ _ _ _ _ _ _ _ _ _ _ _ _ _ _ _ _ _ _ _ _ _ _ _ _ _ _ _ _ _ _ _ _ _ _ _ _ _ _ _ _ _ _ _ _ _ _ _ _ _ _ _ _ _ _ _ _ _ _ _ _ _ _ _ _ _ _ _ _ _ _ _ _ _ _ _ _ _ _ _ _ _ _ _ _ _ _ _ _ _ _ _ _ _ _ _ _ _ _ _ _ _ _ _ _ _ _ _ _ _ _ _ _ _ _ _ _ _ _ _ _ _ _ _ _ _ _ (fun _ _ _ _ _ h => h) ?_
        intro x150 x151 x152 x153 x154 x155 x156 x157 x158 x159 x160 x161 x162 x163 x164 x165 x166 x167 x168 x169 x170 x171 x172 x173 x174 x175 x176 x177 x178 x179 x180 x181 x182 x183 x184 x185 x186 w' hSw'
        have HG : Hid (Good w w' q g6 [(w.heap.size, ⟨xk, xh, ⟨xc, xp, xo, xw⟩⟩)] (k + 1)) := ⟨_, _, _, _, _, _, _, _, _, _, _, ((HR4.out.1.more HB6.out).more hSw').unbox, HR4.out.2.1, HR4.out.2.2, hm4, hn4⟩
        clear hSw' HCL HA' HB' HC' HR4 HC24 HC25 HCe HB5 HB6
        go_wp2
        go_roundw
        case rel => exact ⟨k + 1, by omega, by go_num, HG.out⟩
        case measure => simp [intOf]; omega
      have q4 : (yk == 4) = false := by simpa using k4
      clear k4
      by_cases k5 : yk = 5
      · have q5 : (yk == 5) = true := by simpa using k5
        clear k5
        have HP : Hid (Calls Try.prog 22 #[qp q, .int .i64 yh] W1 fun e W2 => e = .returned (.tuple #[]) ∧ Sx w.heap.size V1 W1 W2 q (rmL L yh) (goneC C yh) m) := goneX HB.out.qx HB.out.vlt HB.out.bel.size (by have := HNK.out.1.le4; omega) yh
        go_upto_region 29 with (first
          | (go_at_call 22; refine HP.out.mono ?_; rintro e W2 ⟨rfl, s2⟩; have H2 : Hid (Run w W2 V1 q g6 [(g8, ⟨yk, yh, ⟨yc, yp, yo, yw⟩⟩), (w.heap.size, ⟨xk, xh, ⟨xc, xp, xo, xw⟩⟩)] a1 n1 c1 a2 n2 c2 (rmL L yh) (goneC C yh) m L K) := HB.out.prog s2; clear s2)
          | fail)
        clear HP
        clear p0 p1 p2 p3 p4 p5
        obtain ⟨p0, p1, p2, p3, p4, p5⟩ := ac_cells (H2.out.vb (g8, ⟨yk, yh, ⟨yc, yp, yo, yw⟩⟩) (by simp)).2.2
        simp only at p0 p1 p2 p3 p4 p5
        have s0 := H2.out.p2.c0
        have s1 := H2.out.p2.c1
        go_upto_region 30 with (first
          | (go_at_call 23; refine (rgone_any a1 n1 c1 a2 n2 c2 L K yh _ H2.out.rl H2.out.ll (by have h4 := HNK.out.1.le4; have h5 := HB.out.ll; omega) (fun a ha => H2.out.vlt _ (H2.out.v1 a ha).1) H2.out.rk H2.out.lk (by have := HNK.out.2.2.2; omega)).mono ?_; rintro e W3 ⟨d0, e0, d1, e1, rfl, r1, r2, f1, f2, hb3⟩; have v0 := (H2.out.p2.below hb3).fz 0; have v1 := (H2.out.p2.below hb3).fz 1; have v2 := (H2.out.p2.below hb3).c0; have v3 := (H2.out.p2.below hb3).c1)
          | fail)
        have H4 : Hid (Good w ((W3.setCell ⟨g6, 0, none⟩ (.slice d0 (noC L yh).length e0)).setCell ⟨g6, 1, none⟩ (.slice d1 (goK K yh).length e1)) q g6 [(g8, ⟨yk, yh, ⟨yc, yp, yo, yw⟩⟩), (w.heap.size, ⟨xk, xh, ⟨xc, xp, xo, xw⟩⟩)] (k + 1)) := by
          have h9 := H2.out.store hb3 r1 rfl f1 r2 rfl f2
          rw [rm_noC yh HNK.out.1] at h9
          exact ⟨_, _, _, _, _, _, _, _, _, _, _, h9, HNK.out.1.noC _, HNK.out.2.1.gone yh, by have := HNK.out.2.2.1; omega, by have h5 := goK_le K yh; have h6 := HB.out.lk; have := HNK.out.2.2.2; omega⟩
        clear v0 v1 v2 v3 p0 p1 p2 p3 p4 p5 s0 s1 H2
        try clear r1
        try clear r2
        try clear f1
        try clear f2
        clear hb3
        generalize ((W3.setCell ⟨g6, 0, none⟩ (.slice d0 (noC L yh).length e0)).setCell ⟨g6, 1, none⟩ (.slice d1 (goK K yh).length e1)) = W4 at *
        clear HB HNK
        obtain ⟨V4, a4, n4, c4, a5, n5, c5, L4, C4, m4, K4, hR4, nc4, kc4, hm4, hn4⟩ := H4.out
        clear H4
        obtain ⟨tb, htb⟩ : ∃ t, busB K4 (kyOf yh ⟨yc, yp, yo, yw⟩) = t := ⟨_, rfl⟩
        obtain ⟨tw, htw⟩ : ∃ t, wasB K4 (kyOf yh ⟨yc, yp, yo, yw⟩) = t := ⟨_, rfl⟩
        have HR4 : Hid (Run w W4 V4 q g6 [(g8, ⟨yk, yh, ⟨yc, yp, yo, yw⟩⟩), (w.heap.size, ⟨xk, xh, ⟨xc, xp, xo, xw⟩⟩)] a4 n4 c4 a5 n5 c5 L4 C4 m4 L4 K4 ∧ Nice L4 ∧ KC K4 C4) := ⟨hR4, nc4, kc4⟩
        have HC24 : Hid (Calls Try.prog 24 #[qp q, .int .i64 yh, .agg #[.int .i64 yc, .int .i64 yp, .int .i64 yo, .bool yw]] W4 fun e w' => e = .returned (.tuple #[.bool tb, .bool tw]) ∧ Below W4.heap.size W4 w') := by
          show Calls _ _ _ _ _
          rw [← htb, ← htw]
          exact hR4.called kc4 ⟨yk, yh, ⟨yc, yp, yo, yw⟩⟩ HOK.out
        have HC25 : Hid (∀ V, Below W4.heap.size W4 V → Calls Try.prog 25 #[rqV a4 n4 c4 a5 n5 c5, .int .i64 yh, .agg #[.int .i64 yc, .int .i64 yp, .int .i64 yo, .bool yw]] V fun e w' => e = .returned (.tuple #[.bool tb, .bool tw]) ∧ Below W4.heap.size W4 w') := fun V hV => by
          rw [← htb, ← htw]
          exact (rcalled_any a4 n4 c4 a5 n5 c5 K4 yh ⟨yc, yp, yo, yw⟩ V (hR4.more hV).rk hR4.lk (by omega)).mono fun e w' ⟨h3, h4⟩ => ⟨h3, below_step hV h4⟩
        have HCe : Hid (∀ V, Below W4.heap.size W4 V → V.heap[g8]? = some (acO ⟨yk, yh, ⟨yc, yp, yo, yw⟩⟩) ∧ P2 V g6 (.slice a4 n4 c4) (.slice a5 n5 c5)) := fun V hV => ⟨((hR4.more hV).vb (g8, ⟨yk, yh, ⟨yc, yp, yo, yw⟩⟩) (by simp)).2.2, (hR4.more hV).p2⟩
        clear hR4 nc4 kc4 htb htw
        obtain ⟨p0, p1, p2, p3, p4, p5⟩ := ac_cells (HCe.out _ (Below.refl _ _)).1
        simp only at p0 p1 p2 p3 p4 p5
        go_upto_region 31 with (first
          | (go_at_call 24; refine HC24.out.mono ?_; rintro e W5 ⟨rfl, hb5⟩; have HB5 : Hid (Below W4.heap.size W4 W5) := hb5; clear hb5)
          | fail)
        clear p0 p1 p2 p3 p4 p5
        obtain ⟨p0, p1, p2, p3, p4, p5⟩ := ac_cells (HCe.out _ HB5.out).1
        simp only at p0 p1 p2 p3 p4 p5
        have s0 := (HCe.out _ HB5.out).2.c0
        have s1 := (HCe.out _ HB5.out).2.c1
        go_upto_region 32 with (first
          | (go_at_call 25; refine (HC25.out _ HB5.out).mono ?_; rintro e W6 ⟨rfl, hb6⟩; have HB6 : Hid (Below W4.heap.size W4 W6) := hb6; clear hb6)
          | fail)
        clear p0 p1 p2 p3 p4 p5 s0 s1
        have hR6 := HR4.out.1.more HB6.out
        obtain ⟨HCL, HA', HB', HC'⟩ := hR6.t32 HR4.out.2.2 HR4.out.2.1 (by omega) g8 ⟨yk, yh, ⟨yc, yp, yo, yw⟩⟩ (by simp)
        clear hR6
        simp only at HCL HA' HB' HC'
        refine runs_reg32 q g6 g8 false tb tw (routB K4 yh yp) yh yp a4 n4 c4 a5 n5 c5 W6 HCL HA' HB' HC' _ _ _ _ _ _ _ _ _ _ _ _ _ _ _ _ _ _ _ _ _ _ _ _ _ _ _ _ _ _ _ _ _ _ _ _ _ _ _ _ _ _ _ _ _ _ _ _ _ _ _ _ _ _ _ _ _ _ _ _ _ _ _ _ _ _ _ _ _ _ _ _ _ _ _ _ _ _ _ _ _ _ _ _ _ _ _ _ _ _ _ _ _ _ _ _ _ _ _ _ _ _ _ _ _ _ _ _ _ _ _ _ _ _ _ _ _ _ _ _ _ _ _ _ _ _ _ _ _ _ _ _ _ _ _ _ _ _ _ _ _ _ _ _ _ _ _ _ _ _ _ _ _ _ _ _ _ _ _ _ _ _ _ _ _ _ _ _ _ _ _ _ _ _ _ _ _ _ _ _ _ _ _ _ _ _ _ _ _ _ _ _ _ _ _ _ _ _ _ _ _ _ _ _ _ _ _ _ _ _ _ _ _ _ _ _ _ _ _ _ _ _ _ _ _ _ _ _ _ _ _ _ _ _ _ _ _ (fun _ _ _ _ _ h => h) ?_
        intro x150 x151 x152 x153 x154 x155 x156 x157 x158 x159 x160 x161 x162 x163 x164 x165 x166 x167 x168 x169 x170 x171 x172 x173 x174 x175 x176 x177 x178 x179 x180 x181 x182 x183 x184 x185 x186 w' hSw'
        have HG : Hid (Good w w' q g6 [(w.heap.size, ⟨xk, xh, ⟨xc, xp, xo, xw⟩⟩)] (k + 1)) := ⟨_, _, _, _, _, _, _, _, _, _, _, ((HR4.out.1.more HB6.out).more hSw').unbox, HR4.out.2.1, HR4.out.2.2, hm4, hn4⟩
        clear hSw' HCL HA' HB' HC' HR4 HC24 HC25 HCe HB5 HB6
        go_wp2
        go_roundw
        case rel => exact ⟨k + 1, by omega, by go_num, HG.out⟩
        case measure => simp [intOf]; omega
      have q5 : (yk == 5) = false := by simpa using k5
      clear k5
      clear p0 p1 p2 p3 p4 p5
      go_upto_region 30 with fail
      have H4 : Hid (Good w W1 q g6 [(g8, ⟨yk, yh, ⟨yc, yp, yo, yw⟩⟩), (w.heap.size, ⟨xk, xh, ⟨xc, xp, xo, xw⟩⟩)] (k + 1)) := ⟨_, _, _, _, _, _, _, _, _, _, _, HB.out, HNK.out.1, HNK.out.2.1, Nat.le_trans HNK.out.2.2.1 (by omega), Nat.le_trans HNK.out.2.2.2 (by omega)⟩
      generalize W1 = W4 at *
      clear HB HNK
      obtain ⟨V4, a4, n4, c4, a5, n5, c5, L4, C4, m4, K4, hR4, nc4, kc4, hm4, hn4⟩ := H4.out
      clear H4
      obtain ⟨tb, htb⟩ : ∃ t, busB K4 (kyOf yh ⟨yc, yp, yo, yw⟩) = t := ⟨_, rfl⟩
      obtain ⟨tw, htw⟩ : ∃ t, wasB K4 (kyOf yh ⟨yc, yp, yo, yw⟩) = t := ⟨_, rfl⟩
      have HR4 : Hid (Run w W4 V4 q g6 [(g8, ⟨yk, yh, ⟨yc, yp, yo, yw⟩⟩), (w.heap.size, ⟨xk, xh, ⟨xc, xp, xo, xw⟩⟩)] a4 n4 c4 a5 n5 c5 L4 C4 m4 L4 K4 ∧ Nice L4 ∧ KC K4 C4) := ⟨hR4, nc4, kc4⟩
      have HC24 : Hid (Calls Try.prog 24 #[qp q, .int .i64 yh, .agg #[.int .i64 yc, .int .i64 yp, .int .i64 yo, .bool yw]] W4 fun e w' => e = .returned (.tuple #[.bool tb, .bool tw]) ∧ Below W4.heap.size W4 w') := by
        show Calls _ _ _ _ _
        rw [← htb, ← htw]
        exact hR4.called kc4 ⟨yk, yh, ⟨yc, yp, yo, yw⟩⟩ HOK.out
      have HC25 : Hid (∀ V, Below W4.heap.size W4 V → Calls Try.prog 25 #[rqV a4 n4 c4 a5 n5 c5, .int .i64 yh, .agg #[.int .i64 yc, .int .i64 yp, .int .i64 yo, .bool yw]] V fun e w' => e = .returned (.tuple #[.bool tb, .bool tw]) ∧ Below W4.heap.size W4 w') := fun V hV => by
        rw [← htb, ← htw]
        exact (rcalled_any a4 n4 c4 a5 n5 c5 K4 yh ⟨yc, yp, yo, yw⟩ V (hR4.more hV).rk hR4.lk (by omega)).mono fun e w' ⟨h3, h4⟩ => ⟨h3, below_step hV h4⟩
      have HCe : Hid (∀ V, Below W4.heap.size W4 V → V.heap[g8]? = some (acO ⟨yk, yh, ⟨yc, yp, yo, yw⟩⟩) ∧ P2 V g6 (.slice a4 n4 c4) (.slice a5 n5 c5)) := fun V hV => ⟨((hR4.more hV).vb (g8, ⟨yk, yh, ⟨yc, yp, yo, yw⟩⟩) (by simp)).2.2, (hR4.more hV).p2⟩
      clear hR4 nc4 kc4 htb htw
      obtain ⟨p0, p1, p2, p3, p4, p5⟩ := ac_cells (HCe.out _ (Below.refl _ _)).1
      simp only at p0 p1 p2 p3 p4 p5
      go_upto_region 31 with (first
        | (go_at_call 24; refine HC24.out.mono ?_; rintro e W5 ⟨rfl, hb5⟩; have HB5 : Hid (Below W4.heap.size W4 W5) := hb5; clear hb5)
        | fail)
      clear p0 p1 p2 p3 p4 p5
      obtain ⟨p0, p1, p2, p3, p4, p5⟩ := ac_cells (HCe.out _ HB5.out).1
      simp only at p0 p1 p2 p3 p4 p5
      have s0 := (HCe.out _ HB5.out).2.c0
      have s1 := (HCe.out _ HB5.out).2.c1
      go_upto_region 32 with (first
        | (go_at_call 25; refine (HC25.out _ HB5.out).mono ?_; rintro e W6 ⟨rfl, hb6⟩; have HB6 : Hid (Below W4.heap.size W4 W6) := hb6; clear hb6)
        | fail)
      clear p0 p1 p2 p3 p4 p5 s0 s1
      have hR6 := HR4.out.1.more HB6.out
      obtain ⟨HCL, HA', HB', HC'⟩ := hR6.t32 HR4.out.2.2 HR4.out.2.1 (by omega) g8 ⟨yk, yh, ⟨yc, yp, yo, yw⟩⟩ (by simp)
      clear hR6
      simp only at HCL HA' HB' HC'
      refine runs_reg32 q g6 g8 false tb tw (routB K4 yh yp) yh yp a4 n4 c4 a5 n5 c5 W6 HCL HA' HB' HC' _ _ _ _ _ _ _ _ _ _ _ _ _ _ _ _ _ _ _ _ _ _ _ _ _ _ _ _ _ _ _ _ _ _ _ _ _ _ _ _ _ _ _ _ _ _ _ _ _ _ _ _ _ _ _ _ _ _ _ _ _ _ _ _ _ _ _ _ _ _ _ _ _ _ _ _ _ _ _ _ _ _ _ _ _ _ _ _ _ _ _ _ _ _ _ _ _ _ _ _ _ _ _ _ _ _ _ _ _ _ _ _ _ _ _ _ _ _ _ _ _ _ _ _ _ _ _ _ _ _ _ _ _ _ _ _ _ _ _ _ _ _ _ _ _ _ _ _ _ _ _ _ _ _ _ _ _ _ _ _ _ _ _ _ _ _ _ _ _ _ _ _ _ _ _ _ _ _ _ _ _ _ _ _ _ _ _ _ _ _ _ _ _ _ _ _ _ _ _ _ _ _ _ _ _ _ _ _ _ _ _ _ _ _ _ _ _ _ _ _ _ _ _ _ _ _ _ _ _ _ _ _ _ _ _ _ _ (fun _ _ _ _ _ h => h) ?_
      intro x150 x151 x152 x153 x154 x155 x156 x157 x158 x159 x160 x161 x162 x163 x164 x165 x166 x167 x168 x169 x170 x171 x172 x173 x174 x175 x176 x177 x178 x179 x180 x181 x182 x183 x184 x185 x186 w' hSw'
      have HG : Hid (Good w w' q g6 [(w.heap.size, ⟨xk, xh, ⟨xc, xp, xo, xw⟩⟩)] (k + 1)) := ⟨_, _, _, _, _, _, _, _, _, _, _, ((HR4.out.1.more HB6.out).more hSw').unbox, HR4.out.2.1, HR4.out.2.2, hm4, hn4⟩
      clear hSw' HCL HA' HB' HC' HR4 HC24 HC25 HCe HB5 HB6
      go_wp2
      go_roundw
      case rel => exact ⟨k + 1, by omega, by go_num, HG.out⟩
      case measure => simp [intOf]; omega
    · obtain rfl : k = n0 := by omega
      have e0' : decide ((k : Int) < k) = false := by simp
      have H4 : Hid (Good w wr q g6 [(w.heap.size, ⟨xk, xh, ⟨xc, xp, xo, xw⟩⟩)] k) := HI.out
      clear HI
      have HOK := HOX
      rename World => W4
      go_upto_region 35 with fail
      obtain ⟨V4, a4, n4, c4, a5, n5, c5, L4, C4, m4, K4, hR4, nc4, kc4, hm4, hn4⟩ := H4.out
      clear H4
      obtain ⟨tb, htb⟩ : ∃ t, busB K4 (kyOf xh ⟨xc, xp, xo, xw⟩) = t := ⟨_, rfl⟩
      obtain ⟨tw, htw⟩ : ∃ t, wasB K4 (kyOf xh ⟨xc, xp, xo, xw⟩) = t := ⟨_, rfl⟩
      have HR4 : Hid (Run w W4 V4 q g6 [(w.heap.size, ⟨xk, xh, ⟨xc, xp, xo, xw⟩⟩)] a4 n4 c4 a5 n5 c5 L4 C4 m4 L4 K4 ∧ Nice L4 ∧ KC K4 C4) := ⟨hR4, nc4, kc4⟩
      have HC24 : Hid (Calls Try.prog 24 #[qp q, .int .i64 xh, .agg #[.int .i64 xc, .int .i64 xp, .int .i64 xo, .bool xw]] W4 fun e w' => e = .returned (.tuple #[.bool tb, .bool tw]) ∧ Below W4.heap.size W4 w') := by
        show Calls _ _ _ _ _
        rw [← htb, ← htw]
        exact hR4.called kc4 ⟨xk, xh, ⟨xc, xp, xo, xw⟩⟩ HOK.out
      have HC25 : Hid (∀ V, Below W4.heap.size W4 V → Calls Try.prog 25 #[rqV a4 n4 c4 a5 n5 c5, .int .i64 xh, .agg #[.int .i64 xc, .int .i64 xp, .int .i64 xo, .bool xw]] V fun e w' => e = .returned (.tuple #[.bool tb, .bool tw]) ∧ Below W4.heap.size W4 w') := fun V hV => by
        rw [← htb, ← htw]
        exact (rcalled_any a4 n4 c4 a5 n5 c5 K4 xh ⟨xc, xp, xo, xw⟩ V (hR4.more hV).rk hR4.lk (by omega)).mono fun e w' ⟨h3, h4⟩ => ⟨h3, below_step hV h4⟩
      have HCe : Hid (∀ V, Below W4.heap.size W4 V → V.heap[w.heap.size]? = some (acO ⟨xk, xh, ⟨xc, xp, xo, xw⟩⟩) ∧ P2 V g6 (.slice a4 n4 c4) (.slice a5 n5 c5)) := fun V hV => ⟨((hR4.more hV).vb (w.heap.size, ⟨xk, xh, ⟨xc, xp, xo, xw⟩⟩) (by simp)).2.2, (hR4.more hV).p2⟩
      clear hR4 nc4 kc4 htb htw
      obtain ⟨p0, p1, p2, p3, p4, p5⟩ := ac_cells (HCe.out _ (Below.refl _ _)).1
      simp only at p0 p1 p2 p3 p4 p5
      go_upto_region 36 with (first
        | (go_at_call 24; refine HC24.out.mono ?_; rintro e W5 ⟨rfl, hb5⟩; have HB5 : Hid (Below W4.heap.size W4 W5) := hb5; clear hb5)
        | fail)
      clear p0 p1 p2 p3 p4 p5
      obtain ⟨p0, p1, p2, p3, p4, p5⟩ := ac_cells (HCe.out _ HB5.out).1
      simp only at p0 p1 p2 p3 p4 p5
      have s0 := (HCe.out _ HB5.out).2.c0
      have s1 := (HCe.out _ HB5.out).2.c1
      go_upto_region 37 with (first
        | (go_at_call 25; refine (HC25.out _ HB5.out).mono ?_; rintro e W6 ⟨rfl, hb6⟩; have HB6 : Hid (Below W4.heap.size W4 W6) := hb6; clear hb6)
        | fail)
      clear p0 p1 p2 p3 p4 p5 s0 s1
      have hR6 := HR4.out.1.more HB6.out
      obtain ⟨HCL, HA', HB', HC'⟩ := hR6.t37 HR4.out.2.2 HR4.out.2.1 (by omega) w.heap.size ⟨xk, xh, ⟨xc, xp, xo, xw⟩⟩ (by simp)
      clear hR6
      simp only at HCL HA' HB' HC'
      refine runs_reg37 q w.heap.size g6 tb tw xc xp xo xw ((resN xc xp L4 : Nat) : Int) (ahead L4 ⟨xc, xp, xo, xw⟩).length a4 n4 c4 a5 n5 c5 W6 HCL HA' HB' HC' _ _ _ _ _ _ _ _ _ _ _ _ _ _ _ _ _ _ _ _ _ _ _ _ _ _ _ _ _ _ _ _ _ _ _ _ _ _ _ _ _ _ _ _ _ _ _ _ _ _ _ _ _ _ _ _ _ _ _ _ _ _ _ _ _ _ _ _ _ _ _ _ _ _ _ _ _ _ _ _ _ _ _ _ _ _ _ _ _ _ _ _ _ _ _ _ _ _ _ _ _ _ _ _ _ _ _ _ _ _ _ _ _ _ _ _ _ _ _ _ _ _ _ _ _ _ _ _ _ _ _ _ _ _ _ _ _ _ _ _ _ _ _ _ _ _ _ _ _ _ _ _ _ _ _ _ _ _ _ _ _ _ _ _ _ _ _ _ _ _ _ _ _ _ _ _ _ _ _ _ _ _ _ _ _ _ _ _ _ _ _ _ _ _ _ _ _ _ _ _ _ _ _ _ _ _ _ _ _ _ _ _ _ _ _ _ _ _ _ _ _ _ _ _ _ _ _ _ _ _ _ _ _ _ _ _ _ _ _ (fun _ _ _ _ _ h => h) ?_
      intro x207 x208 x209 x210 x211 x212 x213 x214 x215 x216 x217 x218 x219 x220 x221 x222 x223 x224 x225 x226 x227 x228 x229 x230 x231 x232 x233 x234 x235 x236 x237 x238 x239 x240 x241 x242 x243 x244 w' hSw'
      have HG : Hid (Below w.heap.size w w') := ((HR4.out.1.more HB6.out).more hSw').bel
      clear hSw' HCL HA' HB' HC' HR4 HC24 HC25 HCe HB5 HB6
      go_wp2
      go_ret
      exact ⟨rfl, HG.out⟩

end Go.Proofs.Ytcjajckmcikhcaa
