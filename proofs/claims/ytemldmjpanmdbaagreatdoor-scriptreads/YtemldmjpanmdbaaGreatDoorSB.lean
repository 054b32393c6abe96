/- The script of some bytes: Read, walked. -/
import Derived.Test.YtemldmjpanmdbaaGreatDoorA7
namespace Go.Proofs.YtemldmjpanmdbaaGreatDoor
open Go.RowKit
set_option linter.unusedVariables false

/-- A scope whose label is come to from above, and never again. -/
theorem wp_scope_once {P : Program} {a : Act} {w : World} {Q : Exit → Act → World → Prop} {c rest : Code} (l : Nat) (J : Act → World → Prop) (hf : findLabel c l = some (Code.skip.seq rest))
    (first : (∀ a w, J a w → rest.wp P (Exit.jump l J Q) a w) → c.wp P (Exit.jump l J Q) a w)
    (pass : ∀ a w, J a w → rest.wp P (Exit.jump l (fun _ _ => False) Q) a w) : (Code.scope c).wp P Q a w := by
  refine wp_scope_jumps l J (fun _ _ => 0) hf (first fun a w h => wp_mono (pass a w h) ?_) fun a w h => wp_seq (wp_skip (wp_mono (pass a w h) ?_))
  · intro e a w hq
    cases e with
    | goto l' => exact hq.2.elim
    | _ => exact hq
  · intro e a w hq
    cases e with
    | goto l' => exact hq.2.elim
    | _ => exact hq

set_option maxHeartbeats 4000000 in
set_option maxRecDepth 1000000 in
theorem sread_any (ao : Option Addr) (cap n : Nat) (zs : List Int) (w : World) (hrd : RdI w .u8 ao cap zs) (hn : zs.length = n) (hb : ∀ z ∈ zs, 0 ≤ z ∧ z < 256) (hlen : n ≤ 140737488355328) :
    Calls Tryz.prog 7 #[.slice ao n cap] w fun x w' => ReadR zs w x w' := by
  have hle := hrd.le
  have hB0 : Below w.heap.size w (w.alloc (scO sc0 none 0 0)) := below_box _ _
  have hs := ScAt.new w sc0 none 0 0
  have h0 := hrd.alloc (scO sc0 none 0 0)
  go_enter Tryz.func7, Tryz.ntmps7
  go_upto_region 1 with fail
  generalize w.alloc (scO sc0 none 0 0) = W0 at *
  have HS : Hid (ScAt W0 w.heap.size sc0 none 0 0) := hs
  have HB0 : Hid (Below w.heap.size w W0) := hB0
  have HR : Hid (RdI W0 .u8 ao cap zs) := h0
  have HBD : Hid (∀ z ∈ zs, 0 ≤ z ∧ z < 256) := hb
  clear hs hB0 hrd h0 hb
  obtain ⟨J, hJ⟩ : ∃ J : Act → World → Prop, ∀ a' w', J a' w' ↔ ∃ (u1 u3 u4 u5 u6 u7 u8 u9 u10 u11 u12 u13 u14 u15 u16 u17 u18 u19 u20 u21 u22 u23 u24 u25 u26 u27 u28 u29 u30 u31 u32 u33 u34 u35 u36 u37 u38 u39 u40 u41 u42 u43 u44 u45 u46 u47 u48 u49 u50 u51 u52 u53 u54 u55 u56 u57 u58 u59 u60 u61 u62 u63 u64 u65 u66 u67 u68 u69 u70 u71 u72 u73 u74 u75 u76 u77 u78 u79 u80 : Value), a' = { tmps := #[.slice ao n cap, u1, .pointer (some ⟨w.heap.size, 0, none⟩), u3, u4, u5, u6, u7, u8, u9, u10, u11, u12, u13, u14, u15, u16, u17, u18, u19, u20, u21, u22, u23, u24, u25, u26, u27, u28, u29, u30, u31, u32, u33, u34, u35, u36, u37, u38, u39, u40, u41, u42, u43, u44, u45, u46, u47, u48, u49, u50, u51, u52, u53, u54, u55, u56, u57, u58, u59, u60, u61, u62, u63, u64, u65, u66, u67, u68, u69, u70, u71, u72, u73, u74, u75, u76, u77, u78, u79, u80], defers := [] } ∧ readP zs = none ∧ ScAt w' w.heap.size sc0 none 0 0 ∧ Below w.heap.size w w' := ⟨_, fun _ _ => Iff.rfl⟩
  have HJ : Hid (∀ a' w', J a' w' ↔ ∃ (u1 u3 u4 u5 u6 u7 u8 u9 u10 u11 u12 u13 u14 u15 u16 u17 u18 u19 u20 u21 u22 u23 u24 u25 u26 u27 u28 u29 u30 u31 u32 u33 u34 u35 u36 u37 u38 u39 u40 u41 u42 u43 u44 u45 u46 u47 u48 u49 u50 u51 u52 u53 u54 u55 u56 u57 u58 u59 u60 u61 u62 u63 u64 u65 u66 u67 u68 u69 u70 u71 u72 u73 u74 u75 u76 u77 u78 u79 u80 : Value), a' = { tmps := #[.slice ao n cap, u1, .pointer (some ⟨w.heap.size, 0, none⟩), u3, u4, u5, u6, u7, u8, u9, u10, u11, u12, u13, u14, u15, u16, u17, u18, u19, u20, u21, u22, u23, u24, u25, u26, u27, u28, u29, u30, u31, u32, u33, u34, u35, u36, u37, u38, u39, u40, u41, u42, u43, u44, u45, u46, u47, u48, u49, u50, u51, u52, u53, u54, u55, u56, u57, u58, u59, u60, u61, u62, u63, u64, u65, u66, u67, u68, u69, u70, u71, u72, u73, u74, u75, u76, u77, u78, u79, u80], defers := [] } ∧ readP zs = none ∧ ScAt w' w.heap.size sc0 none 0 0 ∧ Below w.heap.size w w') := hJ
  clear hJ
  refine wp_scope_once 0 J rfl ?_ ?_
  · intro hpass
    have HP : Hid (∀ a w, J a w → _) := hpass
    clear hpass
    by_cases h18 : n < 18
    · have HN : Hid (readP zs = none) := by unfold readP; rw [Hid, if_neg (by omega)]
      have hmin : ∀ W : World, (Builtin.min_ #[3, 3] 3 #[.int .i64 18, .int .i64 (n : Int)]).run Tryz.prog W = .ok (.int .i64 (n : Int)) W := fun W => by
        simp [Builtin.min_, Builtin.min2]; omega
      go_wp2_with (first
        | (go_at_call 16; refine (get_bad _ _ _ _ _ (by omega) (by omega)).mono ?_; rintro x w1 ⟨rfl, hw⟩; subst w1))
      refine wp_goto ?_
      refine ⟨rfl, (HJ.out _ _).2 ⟨_, _, _, _, _, _, _, _, _, _, _, _, _, _, _, _, _, _, _, _, _, _, _, _, _, _, _, _, _, _, _, _, _, _, _, _, _, _, _, _, _, _, _, _, _, _, _, _, _, _, _, _, _, _, _, _, _, _, _, _, _, _, _, _, _, _, _, _, _, _, _, _, _, _, _, _, _, _, _, rfl, HN.out, HS.out.below (below_box W0 _), HB0.out.alloc HB0.out.size _⟩⟩
    · obtain ⟨n0, n1, n2, n3, n4, n5, he, e0, e1, e2, e3, e4, e5⟩ : ∃ n0 n1 n2 n3 n4 n5, getN zs 6 = [n0, n1, n2, n3, n4, n5] ∧ at3 zs 0 = n0 ∧ at3 zs 1 = n1 ∧ at3 zs 2 = n2 ∧ at3 zs 3 = n3 ∧ at3 zs 4 = n4 ∧ at3 zs 5 = n5 := ⟨_, _, _, _, _, _, get6 zs, rfl, rfl, rfl, rfl, rfl, rfl⟩
      have hmin : ∀ W : World, (Builtin.min_ #[3, 3] 3 #[.int .i64 18, .int .i64 (n : Int)]).run Tryz.prog W = .ok (.int .i64 18) W := fun W => by
        simp [Builtin.min_, Builtin.min2]; omega
      have hG := get_six ao cap 18 0 (zs.take 18) n0 n1 n2 n3 n4 n5 W0 (HR.out.head 18 (by omega)) (by simp; omega) (fun z hz => HBD.out z (List.mem_of_mem_take hz)) (by omega) rfl (by omega) (by
        rw [get6, at3_take _ _ _ (by omega), at3_take _ _ _ (by omega), at3_take _ _ _ (by omega), at3_take _ _ _ (by omega), at3_take _ _ _ (by omega), at3_take _ _ _ (by omega), ← get6]; exact he)
      have h5b := at3_bd zs 5 HBD.out
      rw [e5] at h5b
      obtain ⟨h5a, h5b⟩ := h5b
      have HE : Hid (at3 zs 0 = n0 ∧ at3 zs 1 = n1 ∧ at3 zs 2 = n2 ∧ at3 zs 3 = n3 ∧ at3 zs 4 = n4 ∧ at3 zs 5 = n5) := ⟨e0, e1, e2, e3, e4, e5⟩
      clear he e0 e1 e2 e3 e4 e5
      go_upto_region 2 with (first
        | (go_at_call 16; refine hG.mono ?_; rintro x w1 ⟨b1, f1, c1, a2, c2, rfl, hlt1, hge1, hc6, ⟨p0, p1, p2, p3, p4, p5⟩, hb1⟩))
      have HB1 : Hid (Below W0.heap.size W0 w1) := hb1
      have q0 := (below_box w1 (scO sc0 none 0 0)).cell (p := ⟨b1, f1, none⟩) hlt1 |>.trans p0
      have q1 := (below_box w1 (scO sc0 none 0 0)).cell (p := ⟨b1, f1 + 1, none⟩) hlt1 |>.trans p1
      have q2 := (below_box w1 (scO sc0 none 0 0)).cell (p := ⟨b1, f1 + 2, none⟩) hlt1 |>.trans p2
      have q3 := (below_box w1 (scO sc0 none 0 0)).cell (p := ⟨b1, f1 + 3, none⟩) hlt1 |>.trans p3
      have q4 := (below_box w1 (scO sc0 none 0 0)).cell (p := ⟨b1, f1 + 4, none⟩) hlt1 |>.trans p4
      have q5 := (below_box w1 (scO sc0 none 0 0)).cell (p := ⟨b1, f1 + 5, none⟩) hlt1 |>.trans p5
      have HB2 : Hid (Below w.heap.size w w1) := HB0.out.trans (HB1.out.mono HB0.out.size)
      have HS1 : Hid (ScAt w1 w.heap.size sc0 none 0 0) := HS.out.below HB1.out
      clear hG hb1 p0 p1 p2 p3 p4 p5
      by_cases h500 : 500 < n5
      · have HN : Hid (readP zs = none) := by unfold readP; rw [Hid, HE.out.2.2.2.2.2, if_neg (by omega)]
        go_wp2
        refine wp_goto ?_
        refine ⟨rfl, (HJ.out _ _).2 ⟨_, _, _, _, _, _, _, _, _, _, _, _, _, _, _, _, _, _, _, _, _, _, _, _, _, _, _, _, _, _, _, _, _, _, _, _, _, _, _, _, _, _, _, _, _, _, _, _, _, _, _, _, _, _, _, _, _, _, _, _, _, _, _, _, _, _, _, _, _, _, _, _, _, _, _, _, _, _, _, rfl, HN.out, HS1.out.below (below_box w1 _), HB2.out.alloc HB2.out.size _⟩⟩
      · have hw1 : IntKind.i64.wrap (43 * n5) = 43 * n5 := by rw [IntKind.wrap_i64]; omega
        have hw2 : IntKind.i64.wrap (18 + 43 * n5) = 18 + 43 * n5 := by rw [IntKind.wrap_i64]; omega
        by_cases hnn : (n : Int) = 18 + 43 * n5
        · skip
          obtain ⟨m, rfl⟩ := Int.eq_ofNat_of_zero_le h5a
          obtain rfl : n = 18 + 43 * m := by omega
          go_upto_region 4 with fail
          have hs7 := ScAt.new w1 sc0 none 0 0
          have hb7 := below_box w1 (scO sc0 none 0 0)
          have hs1 := HS1.out.below hb7
          generalize w1.alloc (scO sc0 none 0 0) = W1 at *
          have HS2 : Hid (ScAt W1 w.heap.size sc0 none 0 0) := hs1
          have hlt7 := hs7.lt
          have HB7 : Hid (Below w1.heap.size w1 W1) := hb7
          have HGW : Hid (w.heap.size < w1.heap.size) := HS1.out.lt
          generalize hg7 : w1.heap.size = g7 at *
          have HG7 : Hid (w1.heap.size = g7) := hg7
          obtain ⟨z0, z1, z2, z3, z4, z5⟩ := hs7.cells
          have hfz := hs7.fz
          simp only at z0 z1 z2 z3 z4 z5
          have HS7 : Hid (ScAt W1 g7 sc0 none 0 0) := hs7
          clear hs1 hs7 hb7
          refine wp_region_held (S := fun U => U.heap[b1]? = W1.heap[b1]?) (by kernel_rfl) ?_
          have hS : W1.drew.heap[b1]? = W1.heap[b1]? := rfl
          refine held_val (i := 0) ?_ 39 rfl rfl (by kernel_rfl) (by kernel_rfl) (by kernel_rfl) (by rfl) (fun _ _ _ h => h) hS ?_ ?_
          rotate_left
          · (intro w hSw; go_simp; first | done | with_reducible rfl)
          simp only [Act.put, List.setIfInBounds_toArray, List.set_cons_zero, List.set_cons_succ]
          refine held_val (i := 1) ?_ 40 rfl rfl (by kernel_rfl) (by kernel_rfl) (by kernel_rfl) (by rfl) (fun _ _ _ h => h) hS ?_ ?_
          rotate_left
          · (intro w hSw; go_simp; first | done | with_reducible rfl)
          simp only [Act.put, List.setIfInBounds_toArray, List.set_cons_zero, List.set_cons_succ]
          refine held_val (i := 2) ?_ 41 rfl rfl (by kernel_rfl) (by kernel_rfl) (by kernel_rfl) (by rfl) (fun _ _ _ h => h) hS ?_ ?_
          rotate_left
          · (intro w hSw; have c0 := (World.cell?_of_block (w := W1) (w' := w) (a := ⟨b1, f1, none⟩) hSw).trans q0; have c1 := (World.cell?_of_block (w := W1) (w' := w) (a := ⟨b1, f1 + 1, none⟩) hSw).trans q1; have c2 := (World.cell?_of_block (w := W1) (w' := w) (a := ⟨b1, f1 + 2, none⟩) hSw).trans q2; have c3 := (World.cell?_of_block (w := W1) (w' := w) (a := ⟨b1, f1 + 3, none⟩) hSw).trans q3; have c4 := (World.cell?_of_block (w := W1) (w' := w) (a := ⟨b1, f1 + 4, none⟩) hSw).trans q4; go_simp; first | done | with_reducible rfl)
          simp only [Act.put, List.setIfInBounds_toArray, List.set_cons_zero, List.set_cons_succ]
          refine held_val (i := 3) ?_ 42 rfl rfl (by kernel_rfl) (by kernel_rfl) (by kernel_rfl) (by rfl) (fun _ _ _ h => h) hS ?_ ?_
          rotate_left
          · (intro w hSw; go_simp; first | done | with_reducible rfl)
          simp only [Act.put, List.setIfInBounds_toArray, List.set_cons_zero, List.set_cons_succ]
          refine held_val (i := 4) ?_ 43 rfl rfl (by kernel_rfl) (by kernel_rfl) (by kernel_rfl) (by rfl) (fun _ _ _ h => h) hS ?_ ?_
          rotate_left
          · (intro w hSw; go_simp; first | done | with_reducible rfl)
          simp only [Act.put, List.setIfInBounds_toArray, List.set_cons_zero, List.set_cons_succ]
          refine held_val (i := 5) ?_ 44 rfl rfl (by kernel_rfl) (by kernel_rfl) (by kernel_rfl) (by rfl) (fun _ _ _ h => h) hS ?_ ?_
          rotate_left
          · (intro w hSw; have c0 := (World.cell?_of_block (w := W1) (w' := w) (a := ⟨b1, f1, none⟩) hSw).trans q0; have c1 := (World.cell?_of_block (w := W1) (w' := w) (a := ⟨b1, f1 + 1, none⟩) hSw).trans q1; have c2 := (World.cell?_of_block (w := W1) (w' := w) (a := ⟨b1, f1 + 2, none⟩) hSw).trans q2; have c3 := (World.cell?_of_block (w := W1) (w' := w) (a := ⟨b1, f1 + 3, none⟩) hSw).trans q3; have c4 := (World.cell?_of_block (w := W1) (w' := w) (a := ⟨b1, f1 + 4, none⟩) hSw).trans q4; go_simp; first | done | with_reducible rfl)
          simp only [Act.put, List.setIfInBounds_toArray, List.set_cons_zero, List.set_cons_succ]
          refine held_val (i := 6) ?_ 45 rfl rfl (by kernel_rfl) (by kernel_rfl) (by kernel_rfl) (by rfl) (fun _ _ _ h => h) hS ?_ ?_
          rotate_left
          · (intro w hSw; go_simp; first | done | with_reducible rfl)
          simp only [Act.put, List.setIfInBounds_toArray, List.set_cons_zero, List.set_cons_succ]
          refine held_val (i := 7) ?_ 46 rfl rfl (by kernel_rfl) (by kernel_rfl) (by kernel_rfl) (by rfl) (fun _ _ _ h => h) hS ?_ ?_
          rotate_left
          · (intro w hSw; go_simp; first | done | with_reducible rfl)
          simp only [Act.put, List.setIfInBounds_toArray, List.set_cons_zero, List.set_cons_succ]
          refine held_val (i := 8) ?_ 47 rfl rfl (by kernel_rfl) (by kernel_rfl) (by kernel_rfl) (by rfl) (fun _ _ _ h => h) hS ?_ ?_
          rotate_left
          · (intro w hSw; have c0 := (World.cell?_of_block (w := W1) (w' := w) (a := ⟨b1, f1, none⟩) hSw).trans q0; have c1 := (World.cell?_of_block (w := W1) (w' := w) (a := ⟨b1, f1 + 1, none⟩) hSw).trans q1; have c2 := (World.cell?_of_block (w := W1) (w' := w) (a := ⟨b1, f1 + 2, none⟩) hSw).trans q2; have c3 := (World.cell?_of_block (w := W1) (w' := w) (a := ⟨b1, f1 + 3, none⟩) hSw).trans q3; have c4 := (World.cell?_of_block (w := W1) (w' := w) (a := ⟨b1, f1 + 4, none⟩) hSw).trans q4; go_simp; first | done | with_reducible rfl)
          simp only [Act.put, List.setIfInBounds_toArray, List.set_cons_zero, List.set_cons_succ]
          refine held_val (i := 9) ?_ 48 rfl rfl (by kernel_rfl) (by kernel_rfl) (by kernel_rfl) (by rfl) (fun _ _ _ h => h) hS ?_ ?_
          rotate_left
          · (intro w hSw; go_simp; first | done | with_reducible rfl)
          simp only [Act.put, List.setIfInBounds_toArray, List.set_cons_zero, List.set_cons_succ]
          refine held_val (i := 10) ?_ 49 rfl rfl (by kernel_rfl) (by kernel_rfl) (by kernel_rfl) (by rfl) (fun _ _ _ h => h) hS ?_ ?_
          rotate_left
          · (intro w hSw; go_simp; first | done | with_reducible rfl)
          simp only [Act.put, List.setIfInBounds_toArray, List.set_cons_zero, List.set_cons_succ]
          refine held_val (i := 11) ?_ 50 rfl rfl (by kernel_rfl) (by kernel_rfl) (by kernel_rfl) (by rfl) (fun _ _ _ h => h) hS ?_ ?_
          rotate_left
          · (intro w hSw; have c0 := (World.cell?_of_block (w := W1) (w' := w) (a := ⟨b1, f1, none⟩) hSw).trans q0; have c1 := (World.cell?_of_block (w := W1) (w' := w) (a := ⟨b1, f1 + 1, none⟩) hSw).trans q1; have c2 := (World.cell?_of_block (w := W1) (w' := w) (a := ⟨b1, f1 + 2, none⟩) hSw).trans q2; have c3 := (World.cell?_of_block (w := W1) (w' := w) (a := ⟨b1, f1 + 3, none⟩) hSw).trans q3; have c4 := (World.cell?_of_block (w := W1) (w' := w) (a := ⟨b1, f1 + 4, none⟩) hSw).trans q4; go_simp; first | done | with_reducible rfl)
          simp only [Act.put, List.setIfInBounds_toArray, List.set_cons_zero, List.set_cons_succ]
          refine held_val (i := 12) ?_ 51 rfl rfl (by kernel_rfl) (by kernel_rfl) (by kernel_rfl) (by rfl) (fun _ _ _ h => h) hS ?_ ?_
          rotate_left
          · (intro w hSw; go_simp; first | done | with_reducible rfl)
          simp only [Act.put, List.setIfInBounds_toArray, List.set_cons_zero, List.set_cons_succ]
          refine held_val (i := 13) ?_ 52 rfl rfl (by kernel_rfl) (by kernel_rfl) (by kernel_rfl) (by rfl) (fun _ _ _ h => h) hS ?_ ?_
          rotate_left
          · (intro w hSw; go_simp; first | done | with_reducible rfl)
          simp only [Act.put, List.setIfInBounds_toArray, List.set_cons_zero, List.set_cons_succ]
          refine held_val (i := 14) ?_ 53 rfl rfl (by kernel_rfl) (by kernel_rfl) (by kernel_rfl) (by rfl) (fun _ _ _ h => h) hS ?_ ?_
          rotate_left
          · (intro w hSw; have c0 := (World.cell?_of_block (w := W1) (w' := w) (a := ⟨b1, f1, none⟩) hSw).trans q0; have c1 := (World.cell?_of_block (w := W1) (w' := w) (a := ⟨b1, f1 + 1, none⟩) hSw).trans q1; have c2 := (World.cell?_of_block (w := W1) (w' := w) (a := ⟨b1, f1 + 2, none⟩) hSw).trans q2; have c3 := (World.cell?_of_block (w := W1) (w' := w) (a := ⟨b1, f1 + 3, none⟩) hSw).trans q3; have c4 := (World.cell?_of_block (w := W1) (w' := w) (a := ⟨b1, f1 + 4, none⟩) hSw).trans q4; go_simp; first | done | with_reducible rfl)
          simp only [Act.put, List.setIfInBounds_toArray, List.set_cons_zero, List.set_cons_succ]
          refine held_val (i := 15) ?_ 54 rfl rfl (by kernel_rfl) (by kernel_rfl) (by kernel_rfl) (by rfl) (fun _ _ _ h => h) hS ?_ ?_
          rotate_left
          · (intro w hSw; go_simp; first | done | with_reducible rfl)
          simp only [Act.put, List.setIfInBounds_toArray, List.set_cons_zero, List.set_cons_succ]
          refine held_val (i := 16) ?_ 55 rfl rfl (by kernel_rfl) (by kernel_rfl) (by kernel_rfl) (by rfl) (fun _ _ _ h => h) hS ?_ ?_
          rotate_left
          · (intro w hSw; go_simp; first | done | with_reducible rfl)
          simp only [Act.put, List.setIfInBounds_toArray, List.set_cons_zero, List.set_cons_succ]
          have hS2 : (((((W1.drew.setCell ⟨g7, 0, none⟩ (.int .i64 n0)).setCell ⟨g7, 1, none⟩ (.int .i64 n1)).setCell ⟨g7, 2, none⟩ (.int .i64 n2)).setCell ⟨g7, 3, none⟩ (.int .i64 n3)).setCell ⟨g7, 4, none⟩ (.int .i64 n4)).heap[b1]? = W1.heap[b1]? := by
            have e : ∀ (U : World) (k : Nat) (v : Value), (U.setCell ⟨g7, k, none⟩ v).heap[b1]? = U.heap[b1]? := fun U k v => heap_setCell_other U _ b1 v (show b1 ≠ g7 by omega)
            rw [e, e, e, e, e]; rfl
          refine held_last (i := 17) (((((W1.drew.setCell ⟨g7, 0, none⟩ (.int .i64 n0)).setCell ⟨g7, 1, none⟩ (.int .i64 n1)).setCell ⟨g7, 2, none⟩ (.int .i64 n2)).setCell ⟨g7, 3, none⟩ (.int .i64 n3)).setCell ⟨g7, 4, none⟩ (.int .i64 n4)) rfl (by kernel_rfl) (by rfl) (by go_simp) hS2 ?_
          refine wpAnyH_done (by kernel_rfl) ?_ _
          have HSC : Hid (ScAt (((((W1.drew.setCell ⟨g7, 0, none⟩ (.int .i64 n0)).setCell ⟨g7, 1, none⟩ (.int .i64 n1)).setCell ⟨g7, 2, none⟩ (.int .i64 n2)).setCell ⟨g7, 3, none⟩ (.int .i64 n3)).setCell ⟨g7, 4, none⟩ (.int .i64 n4)) g7 ⟨n0, n1, n2, n3, n4, []⟩ none 0 0) := by
            have h1 := heap_setCell_same W1.drew g7 0 _ 28 (.int .i64 n0) HS7.out
            have h2 := heap_setCell_same _ g7 1 _ 28 (.int .i64 n1) h1
            have h3 := heap_setCell_same _ g7 2 _ 28 (.int .i64 n2) h2
            have h4 := heap_setCell_same _ g7 3 _ 28 (.int .i64 n3) h3
            exact heap_setCell_same _ g7 4 _ 28 (.int .i64 n4) h4
          have HBW : Hid (Below g7 w1 (((((W1.drew.setCell ⟨g7, 0, none⟩ (.int .i64 n0)).setCell ⟨g7, 1, none⟩ (.int .i64 n1)).setCell ⟨g7, 2, none⟩ (.int .i64 n2)).setCell ⟨g7, 3, none⟩ (.int .i64 n3)).setCell ⟨g7, 4, none⟩ (.int .i64 n4))) := by
            have h := HB7.out
            exact ⟨h.os, h.tape, h.output, by simpa using h.size, fun k hk => by
              have e : ∀ (U : World) (j : Nat) (v : Value), (U.setCell ⟨g7, j, none⟩ v).heap[k]? = U.heap[k]? := fun U j v => heap_setCell_other U _ k v (show k ≠ g7 by omega)
              rw [e, e, e, e, e]; exact h.block k hk⟩
          clear hS hS2
          generalize (((((W1.drew.setCell ⟨g7, 0, none⟩ (.int .i64 n0)).setCell ⟨g7, 1, none⟩ (.int .i64 n1)).setCell ⟨g7, 2, none⟩ (.int .i64 n2)).setCell ⟨g7, 3, none⟩ (.int .i64 n3)).setCell ⟨g7, 4, none⟩ (.int .i64 n4)) = W2 at *
          clear q0 q1 q2 q3 q4 q5 z0 z1 z2 z3 z4 z5 hfz
          have HHD : Hid ((zs.drop 18).length = 43 * m ∧ ∀ z ∈ zs.drop 18, 0 ≤ z ∧ z < 256) := ⟨by simp; omega, fun z hz => HBD.out z (List.mem_of_mem_drop hz)⟩
          go_upto_region 5 with fail
          refine wp_region_lit ?_
          refine wpList_plain rfl fun K1 hK1 => ?_
          go_step
          refine hK1 _ _ ?_
          clear hK1 K1
          refine wpList_plain rfl fun K1 hK1 => ?_
          refine op_tail (.tmp 56) 18 rfl (43 * m) rfl hn (by omega) (by omega) HR.out ?_
          intro A0 hA0
          refine hK1 _ _ ?_
          clear hK1 K1
          refine wpList_plain rfl fun K1 hK1 => ?_
          go_step
          refine hK1 _ _ ?_
          clear hK1 K1
          go_upto_region 6 with fail
          go_loopw [8] (fun l wr => ∃ (k : Nat) (ss : List Sg) (r : List Int) (aL : Option Addr) (cL : Nat) (a7 : Option Addr) (c7 : Nat), l = .slice aL r.length cL ∧ k ≤ m ∧ r.length = 43 * (m - k) ∧ takeS st2 k (zs.drop 18) = some (ss, r) ∧ ss.length = k ∧ RdI W0 .u8 aL cL r ∧
            (∀ z ∈ r, 0 ≤ z ∧ z < 256) ∧ ScAt wr g7 ⟨n0, n1, n2, n3, n4, ss⟩ a7 k c7 ∧ OwR stC 10 50 wr a7 c7 ss ∧ (∀ a, a7 = some a → g7 < a.block) ∧ Below g7 w1 wr) (fun l _ => lenS l)
          case atStart => exact ⟨0, [], zs.drop 18, A0, _, none, 0, by rw [HHD.out.1], Nat.zero_le _, by rw [HHD.out.1]; rfl, rfl, rfl, hA0, HHD.out.2, HSC.out, OwR.nil 50 W2, (fun a h => by cases h), HBW.out⟩
          case round =>
            have hst := fun (ad : Addr) (re im : Nat) (W : World) => run_store Tryz.prog W ad (.complex .f64 re im) .plain rfl
            obtain ⟨k, ss, r, aL, cL, a7, c7, rfl, hk, hrl, htk, hsl, hrr, hrb, hsc, how, hap, hbel⟩ := hrel
            have hrle := hrr.le
            obtain ⟨y0, y1, y2, y3, y4, y5⟩ := hsc.cells
            have hfz := hsc.fz
            simp only at y0 y1 y2 y3 y4 y5
            by_cases hlt : k < m
            · have h43 : 43 ≤ r.length := by omega
              have hbw : Below W0.heap.size W0 wr := HB1.out.trans (hbel.mono (by have := HB1.out.size; omega))
              have hrw : RdI wr .u8 aL cL (r.take 43) := (hrr.head 43 h43).below hbw
              have hR := readStep_any aL cL (r.take 43) wr hrw (by simp; omega) (fun z hz => hrb z (List.mem_of_mem_take hz))
              have HRB : Hid ((∀ z ∈ r, 0 ≤ z ∧ z < 256) ∧ takeS st2 k (zs.drop 18) = some (ss, r) ∧ OwR stC 10 50 wr a7 c7 ss ∧ (∀ a, a7 = some a → g7 < a.block) ∧ Below g7 w1 wr ∧ ScAt wr g7 ⟨n0, n1, n2, n3, n4, ss⟩ a7 k c7 ∧ RdI W0 .u8 aL cL r) := ⟨hrb, htk, how, hap, hbel, hsc, hrr⟩
              have hsz := hbel.size
              clear hrb htk how hap hrw hbw
              cases hst2 : st2 (r.take 43) with
              | none =>
                have hN : readP zs = none := by
                  unfold readP
                  rw [HE.out.2.2.2.2.2]
                  split
                  · rw [show ((m : Int)).toNat = m from rfl, takeS_stop HRB.out.2.1 h43 hst2 hlt]
                  · rfl
                have HN : Hid (readP zs = none) := hN
                clear hN
                unfold stR at hR
                rw [hst2] at hR
                go_wp2_with (first
                  | (go_at_call 17; refine hR.mono ?_; rintro x w2 ⟨rfl, hb2⟩))
                refine wp_goto ?_
                have hb3 := (HRB.out.2.2.2.2.1).trans (hb2.mono (by omega))
                have hG7 := HG7.out
                have hw1 := HB2.out.size
                have hb4 := hb3.alloc (by have := hb3.size; omega) (sgO sg0)
                refine ⟨rfl, (HJ.out _ _).2 ⟨_, _, _, _, _, _, _, _, _, _, _, _, _, _, _, _, _, _, _, _, _, _, _, _, _, _, _, _, _, _, _, _, _, _, _, _, _, _, _, _, _, _, _, _, _, _, _, _, _, _, _, _, _, _, _, _, _, _, _, _, _, _, _, _, _, _, _, _, _, _, _, _, _, _, _, _, _, _, _, rfl, HN.out, (HS1.out.below (hb4.mono (Nat.le_of_eq HG7.out))), HB2.out.trans (hb4.mono (by omega))⟩⟩
              | some q =>
                obtain ⟨⟨sk, sc, sl, sn, sa, sm, sok, sop, soo, vx, vy⟩, t⟩ := q
                unfold stR at hR
                rw [hst2] at hR
                simp only at hR
                have HT : Hid (takeS st2 (k + 1) (zs.drop 18) = some (ss ++ [⟨sk, sc, sl, sn, sa, sm, sok, sop, soo, vx, vy⟩], r.drop 43)) := takeS_step (m := m) HRB.out.2.1 h43 hst2
                clear hst2
                go_upto_region 9 with (first
                  | (go_at_call 17; refine hR.mono ?_; rintro x w2 ⟨rfl, hb2⟩))
                have hb3 : Below wr.heap.size wr (w2.alloc (sgO ⟨sk, sc, sl, sn, sa, sm, sok, sop, soo, vx, vy⟩)) := hb2.alloc hb2.size _
                have h9 := SgAt.new w2 ⟨sk, sc, sl, sn, sa, sm, sok, sop, soo, vx, vy⟩
                generalize w2.alloc (sgO ⟨sk, sc, sl, sn, sa, sm, sok, sop, soo, vx, vy⟩) = w3 at *
                generalize w2.heap.size = g9 at *
                obtain ⟨x0, x1, x2, x3, x4, x5⟩ := (HRB.out.2.2.2.2.2.1.below hb3).cells
                obtain ⟨t0, t1, t2, t3, t4, t5, t6, t7, t8, t9⟩ := h9.cells
                simp only at x0 x1 x2 x3 x4 x5 t0 t1 t2 t3 t4 t5 t6 t7 t8 t9
                have HB3 : Hid (Below wr.heap.size wr w3) := hb3
                clear hb3 hb2 h9 hR
                go_upto_region 7 with (first
                  | (at_builtin; refine wpList_append_R stE _ rfl _ _ 26 rfl 50 _ 88 Tryz.underlying26 info50 rfl (L := ss) (M := [⟨sk, sc, sl, sn, sa, sm, sok, sop, soo, vx, vy⟩]) (n := k) (m := 1) rfl rfl ((HRB.out.2.2.1.below HB3.out).below (below_box _ _)) (RdR.built stE w3 50 _ [⟨sk, sc, sl, sn, sa, sm, sok, sop, soo, vx, vy⟩] rfl 1 rfl (by unfold maxLen; omega)) hsl rfl (by omega) (by unfold maxLen; omega) ?_
                     intro l2 c2 w4 ho4 hg4 hl4
                     have hsc4 : ScAt w4 g7 ⟨n0, n1, n2, n3, n4, ss⟩ a7 k c7 := by
                       have h1 := (HRB.out.2.2.2.2.2.1.below HB3.out).below (below_box w3 (sgO ⟨sk, sc, sl, sn, sa, sm, sok, sop, soo, vx, vy⟩))
                       refine (hg4.block g7 h1.lt ?_).trans h1
                       cases a7 with
                       | none => simp
                       | some a => have := HRB.out.2.2.2.1 a rfl; simp; omega
                     obtain ⟨u0, u1, u2, u3, u4, u5⟩ := hsc4.cells
                     have hfz4 := hsc4.fz
                     simp only at u0 u1 u2 u3 u4 u5)
                  | (fail))
                refine wp_region_lit ?_
                refine wpList_plain rfl fun K1 hK1 => ?_
                go_step
                refine hK1 _ _ ?_
                clear hK1 K1
                refine wpList_plain rfl fun K1 hK1 => ?_
                refine op_tail (.tmp 61) 43 rfl (r.drop 43).length rfl hrl (by omega) (by rw [List.length_drop]; omega) HRB.out.2.2.2.2.2.2 ?_
                intro A1 hA1
                refine hK1 _ _ ?_
                clear hK1 K1
                refine wpList_plain rfl fun K1 hK1 => ?_
                go_step
                refine hK1 _ _ ?_
                clear hK1 K1
                go_roundw
                case rel =>
                  have hG7 := HG7.out
                  have hb4 : Below g7 w1 w4 := (((HRB.out.2.2.2.2.1).trans (HB3.out.mono (by omega))).alloc (by have := HB3.out.size; omega) _).trans (grown_below' hg4 (fun y hy => by have := HRB.out.2.2.2.1 y hy; omega) (by have := HB3.out.size; simp; omega))
                  have hl5 : ∀ a, l2 = some a → g7 < a.block := by
                    intro a ha
                    rcases hl4 with h | h
                    · exact HRB.out.2.2.2.1 a (h ▸ ha)
                    · rw [h] at ha
                      cases ha
                      have := HB3.out.size
                      simp; omega
                  refine ⟨_, _, _, _, _, _, _, _, _, _, _, _, _, _, _, _, _, _, _, _, _, _, ?_, rfl⟩
                  refine ⟨k + 1, ss ++ [⟨sk, sc, sl, sn, sa, sm, sok, sop, soo, vx, vy⟩], r.drop 43, A1, cL - 43, l2, c2, by rw [List.length_drop, hrl], by omega, by rw [List.length_drop]; omega, HT.out, by simp; omega, hA1, fun z hz => HRB.out.1 z (List.mem_of_mem_drop hz), hsc4.put, ?_, hl5, hb4.setCell (Nat.le_refl _) _⟩
                  exact ho4.keep fun a ha _ => heap_setCell_other _ _ _ _ (by have := hl5 a ha; show a.block ≠ g7; omega)
                case measure => simp [lenS]; omega
            · obtain rfl : k = m := by omega
              have hr0 : r.length = 0 := by omega
              have hR := right_any n0 n1 n2 n3 n4 ss a7 k c7 wr how.rd hsl
              have HQ : Hid (readP zs = if rightSc ⟨n0, n1, n2, n3, n4, ss⟩ = true then some ⟨n0, n1, n2, n3, n4, ss⟩ else none) := by
                obtain ⟨e0, e1, e2, e3, e4, e5⟩ := HE.out
                unfold Hid readP scOf
                rw [e5, if_pos ⟨by omega, by omega, by rw [hn]; omega⟩, show ((k : Int)).toNat = k from rfl, htk]
                simp only
                rw [e0, e1, e2, e3, e4]
              have HKP : Hid (OwR stC 10 50 wr a7 c7 ss ∧ (∀ a, a7 = some a → g7 < a.block) ∧ Below g7 w1 wr ∧ ScAt wr g7 ⟨n0, n1, n2, n3, n4, ss⟩ a7 k c7 ∧ ss.length = k) := ⟨how, hap, hbel, hsc, hsl⟩
              clear how hap htk hrb
              cases hq : rightSc ⟨n0, n1, n2, n3, n4, ss⟩
              · rw [hq] at hR
                go_wp2_with (first
                  | (go_at_call 6; refine hR.mono ?_; rintro x w2 ⟨rfl, hb2⟩))
                go_step3
                rename_i hK
                have hb4 := HKP.out.2.2.1.trans (hb2.mono (by have := HG7.out; have := HKP.out.2.2.1.size; omega))
                exact hK _ _ <| HP.out _ _ <| (HJ.out _ _).2 ⟨_, _, _, _, _, _, _, _, _, _, _, _, _, _, _, _, _, _, _, _, _, _, _, _, _, _, _, _, _, _, _, _, _, _, _, _, _, _, _, _, _, _, _, _, _, _, _, _, _, _, _, _, _, _, _, _, _, _, _, _, _, _, _, _, _, _, _, _, _, _, _, _, _, _, _, _, _, _, _, rfl, by rw [HQ.out, hq]; rfl, HS1.out.below (hb4.mono (Nat.le_of_eq HG7.out)), HB2.out.trans (hb4.mono (by have := HB2.out.size; have := HG7.out; omega))⟩
              · rw [hq] at hR
                go_upto_region 12 with (first
                  | (go_at_call 6; refine hR.mono ?_; rintro x w2 ⟨rfl, hb2⟩))
                have hb4 := HKP.out.2.2.1.trans (hb2.mono (by have := HG7.out; have := HKP.out.2.2.1.size; omega))
                obtain ⟨x0, x1, x2, x3, x4, x5⟩ := (HKP.out.2.2.2.1.below hb2).cells
                have hz := HS1.out.below (hb4.mono (Nat.le_of_eq HG7.out))
                obtain ⟨z0, z1, z2, z3, z4, z5⟩ := hz.cells
                have hfz2 := hz.fz
                simp only at x0 x1 x2 x3 x4 x5 z0 z1 z2 z3 z4 z5
                have HF : Hid (OwR stC 10 50 w2 a7 c7 ss ∧ Below w.heap.size w w2) := ⟨HKP.out.1.below hb2, HB2.out.trans (hb4.mono (by have := HB2.out.size; have := HG7.out; omega))⟩
                clear hz hb4 hb2 hR y0 y1 y2 y3 y4 y5 hfz
                go_wp2
                simp only [Exit.jump]
                refine bodyPost_ret (by simp [results, Tryz.results7, go_sem, z0, z1, z2, z3, z4, z5]; try rfl) rfl ?_
                unfold ReadR
                rw [HQ.out, hq, if_pos rfl]
                refine ⟨⟨a7, c7, by rw [HKP.out.2.2.2.2], (HF.out.1.keep fun a ha hl => ?_).rd⟩, ?_⟩
                · have hne : a.block ≠ w.heap.size := by have h1 := HKP.out.2.1 a ha; have h2 := HGW.out; omega
                  have e : ∀ (U : World) (j : Nat) (v : Value), (U.setCell ⟨w.heap.size, j, none⟩ v).heap[a.block]? = U.heap[a.block]? := fun U j v => heap_setCell_other U _ _ v hne
                  rw [e, e, e, e, e, e]
                · have h := HF.out.2; go_grown
        · have HN : Hid (readP zs = none) := by unfold readP; rw [Hid, HE.out.2.2.2.2.2, if_neg (by rw [hn]; omega)]
          go_wp2
          refine wp_goto ?_
          refine ⟨rfl, (HJ.out _ _).2 ⟨_, _, _, _, _, _, _, _, _, _, _, _, _, _, _, _, _, _, _, _, _, _, _, _, _, _, _, _, _, _, _, _, _, _, _, _, _, _, _, _, _, _, _, _, _, _, _, _, _, _, _, _, _, _, _, _, _, _, _, _, _, _, _, _, _, _, _, _, _, _, _, _, _, _, _, _, _, _, _, rfl, HN.out, HS1.out.below (below_box w1 _), HB2.out.alloc HB2.out.size _⟩⟩
  · intro a' w' hJa
    obtain ⟨u1, u3, u4, u5, u6, u7, u8, u9, u10, u11, u12, u13, u14, u15, u16, u17, u18, u19, u20, u21, u22, u23, u24, u25, u26, u27, u28, u29, u30, u31, u32, u33, u34, u35, u36, u37, u38, u39, u40, u41, u42, u43, u44, u45, u46, u47, u48, u49, u50, u51, u52, u53, u54, u55, u56, u57, u58, u59, u60, u61, u62, u63, u64, u65, u66, u67, u68, u69, u70, u71, u72, u73, u74, u75, u76, u77, u78, u79, u80, rfl, hN, hs, hB⟩ := (HJ.out _ _).1 hJa
    clear hJa HJ
    obtain ⟨z0, z1, z2, z3, z4, z5⟩ := hs.cells
    have hfz := hs.fz
    simp only at z0 z1 z2 z3 z4 z5
    clear hs
    have HB : Hid (Below w.heap.size w w' ∧ readP zs = none) := ⟨hB, hN⟩
    clear hB hN
    go_wp2
    simp only [Exit.jump]
    refine bodyPost_ret (by simp [results, Tryz.results7, go_sem, z0, z1, z2, z3, z4, z5]; try rfl) rfl ?_
    unfold ReadR
    rw [HB.out.2]
    exact ⟨rfl, by have h := HB.out.1; go_grown⟩
end Go.Proofs.YtemldmjpanmdbaaGreatDoor
