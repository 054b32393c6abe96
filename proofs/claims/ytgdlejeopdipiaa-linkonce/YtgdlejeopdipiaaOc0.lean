/- A step that hands bytes in at end 0: the walk. -/
import Derived.Test.YtgdlejeopdipiaaOb
namespace Go.Proofs.Ytgdlejeopdipiaa
open Go.RowKit
set_option linter.unusedVariables false

set_option maxRecDepth 1000000 in
set_option maxHeartbeats 12800000 in
theorem once_kind0 (P0 : PkG) (a0 : Option Addr) (n0 c0 c1 n1 : Nat) (w : World) (ge g0 g1 : Nat) (W2 : World) (q6 k : Nat) (X Y : En) (In0 In1 : List (List Nat)) (Ws : List PkG) (R : Nat → Option Addr × Nat) (ao : Option Addr) (cap nw : Nat) (hnw : nw ≤ 8 * k) (hlt : k < n1) (hm : n1 ≤ 150) (bk off : Nat) (kd nn : Int) (ax : Option Addr) (m cx : Nat) (bs : List Nat) (HX0 : Hid (Rd8 w ax m cx bs)) (eb : Nat) (HLn : Hid (Ws.length = nw ∧ In0.length ≤ k ∧ In1.length ≤ k ∧ k < n1 ∧ n1 ≤ 150)) (HQ6 : Hid (w.heap.size ≤ q6 ∧ w.heap.size ≤ q6 + 1)) (W0 : World) (HEB : Hid (W0.heap[eb]? = some (stO kd nn (Value.slice ax m cx)))) (HSt : Hid (St W0 w.heap.size ge g0 g1 q6 (q6 + 1) P0 X Y In0 In1 Ws (Value.slice ao nw cap) R)) (HXW : Hid (Rd8 W0 ax m cx bs ∧ bs.length = m ∧ m ≤ 140737488351232)) (HBW : Hid (Below w.heap.size w W0)) (d0 : W0.cell? ⟨eb, 0, none⟩ = some (Value.int IntKind.i64 kd))
    (u4 u11 u12 u13 u14 u15 u16 u17 u18 u19 u20 u21 u22 u23 u24 u25 u26 u27 u28 u29 u30 u31 u32 u33 u34 u35 u36 u37 u38 u39 u40 u41 u42 u43 u44 u45 u46 u47 u48 u49 u50 u51 u52 u53 u54 u55 u56 u57 u58 u59 u60 u61 u62 u63 u64 u65 u66 u67 u68 u80 u81 u82 u83 u84 u85 u86 u87 u88 u89 u90 u91 u92 u93 u94 u95 u96 u97 u98 u99 u100 u101 u102 u103 u104 u105 u106 u107 u108 u109 u110 u111 u112 u113 u114 u115 u116 u117 u118 u119 u120 u121 u122 u123 u124 u125 u126 u127 u128 u129 u130 u131 u132 u133 u134 u135 u136 u137 u138 u139 u140 u141 u142 u143 u144 u145 u146 u147 u148 u149 u150 u151 u152 u153 u154 u155 u156 u157 u158 u159 u160 u161 u162 u163 u164 u165 u166 u167 u168 u169 u170 u171 u172 u173 u174 u175 u176 u177 u178 u179 u180 u181 u182 u183 u184 u185 u186 u187 u188 u189 u190 u191 u192 u193 u194 u195 u196 u197 u198 u199 u200 u201 u202 u203 u204 u205 u206 u207 u208 u209 u210 u211 u212 u213 u214 u215 u216 u217 u218 u219 u220 u221 u222 u223 u224 u225 u226 u227 u228 u229 : Value) (J K' K1 M K2 : Act → World → Prop) (Po : Ending → World → Prop)
    (hJ : ∀ (a' : Act) (w' : World), (∃ u8 u11 u12 u13 u14 u75 u76 u77 u78 u80 u81 u82 u83 u84 u85 u86 u87 u88 u89 u90 u91 u92 u93 u94 u95 u96 u97 u98 u99 u100 u101 u102 u103 u104 u105 u106 u107 u108 u109 u110 u111 u112 u113 u114 u115 u116 u117 u118 u119 u120 u121 u122 u123 u124 u125 u126 u127 u128 u129 u130 u131 u132 u133 u134 u135 u136 u137 u138 u139 u140 u141 u142 u143 u144 u145 u146 u147 u148 u149 u150 u151 u152 u153 u154 u155 u156 u157 u158 u159 u160 u161 u162 u163 u164 u165 u166 u167 u168 u169 u170 u171 u172 u173 u174 u175 u176 u177 u178 u179 u180 u181 u182 u183 u184 u185 u186 u187 u188 u189 u190 u191 u192 u193 u194 u195 u196 u197 u198 u199 u200 u201 u202 u203 u204 u205 u206 u207 u208 u209 u210 u211 u212 u216 u217 u218 u219 u220 u221 u222 u223 u224 u225 u226 u227 u228 u229, (∃ X' Y' In0' In1' Ws' R' ao' cap' nw', u8 = Value.slice ao' nw' cap' ∧ Hid (St w' w.heap.size ge g0 g1 q6 (q6 + 1) P0 X' Y' In0' In1' Ws' (Value.slice ao' nw' cap') R' ∧ Ws'.length = nw' ∧ In0'.length ≤ k + 1 ∧ In1'.length ≤ k + 1) ∧ nw' ≤ 8 * (k + 1) ∧ Below w.heap.size w w') ∧ a' = { tmps := #[pkV P0 (Value.slice a0 n0 c0), Value.slice (some { block := bk, off := off }) n1 c1, Value.pointer (some { block := w.heap.size, off := 0 }), undef, u4, Value.pointer (some { block := ge, off := 0 }), Value.pointer (some { block := q6, off := 0 }), Value.pointer (some { block := q6 + 1, off := 0 }), u8, undef, Value.pointer (some { block := eb, off := 0 }), u11, u12, u13, u14, u15, u16, u17, u18, u19, u20, u21, u22, u23, u24, u25, u26, u27, u28, u29, u30, u31, u32, u33, u34, u35, u36, u37, u38, u39, u40, u41, u42, u43, u44, u45, u46, u47, u48, u49, u50, u51, u52, u53, u54, u55, u56, u57, u58, u59, u60, u61, u62, u63, u64, u65, u66, u67, u68, Value.agg #[Value.slice none 0 0, Value.slice none 0 0], Value.agg #[Value.slice none 0 0, Value.slice none 0 0], Value.slice (some { block := W2.heap.size, off := 0 }) 0 0, Value.slice (some { block := bk, off := off }) n1 c1, Value.int IntKind.i64 ↑n1, Value.int IntKind.i64 ↑k, u75, u76, u77, u78, Value.int IntKind.i64 kd, u80, u81, u82, u83, u84, u85, u86, u87, u88, u89, u90, u91, u92, u93, u94, u95, u96, u97, u98, u99, u100, u101, u102, u103, u104, u105, u106, u107, u108, u109, u110, u111, u112, u113, u114, u115, u116, u117, u118, u119, u120, u121, u122, u123, u124, u125, u126, u127, u128, u129, u130, u131, u132, u133, u134, u135, u136, u137, u138, u139, u140, u141, u142, u143, u144, u145, u146, u147, u148, u149, u150, u151, u152, u153, u154, u155, u156, u157, u158, u159, u160, u161, u162, u163, u164, u165, u166, u167, u168, u169, u170, u171, u172, u173, u174, u175, u176, u177, u178, u179, u180, u181, u182, u183, u184, u185, u186, u187, u188, u189, u190, u191, u192, u193, u194, u195, u196, u197, u198, u199, u200, u201, u202, u203, u204, u205, u206, u207, u208, u209, u210, u211, u212, u213, u214, u215, u216, u217, u218, u219, u220, u221, u222, u223, u224, u225, u226, u227, u228, u229], defers := [] }) → J a' w') (hK : ∀ (a' : Act) (w' : World), Met J a' w' → K' a' w') (k0 : kd = 0) :
    Code.wp Try.prog onceBlk (Exit.then K' (Exit.inBlock 1 (Exit.then K1 (Exit.then M (Exit.inBlock 0 (Exit.then K2 (bodyPost Try.prog Try.f5 Po))))))) { tmps := #[pkV P0 (Value.slice a0 n0 c0), Value.slice (some { block := bk, off := off }) n1 c1, Value.pointer (some { block := w.heap.size, off := 0 }), undef, u4, Value.pointer (some { block := ge, off := 0 }), Value.pointer (some { block := q6, off := 0 }), Value.pointer (some { block := q6 + 1, off := 0 }), Value.slice ao nw cap, undef, Value.pointer (some { block := eb, off := 0 }), u11, u12, u13, u14, u15, u16, u17, u18, u19, u20, u21, u22, u23, u24, u25, u26, u27, u28, u29, u30, u31, u32, u33, u34, u35, u36, u37, u38, u39, u40, u41, u42, u43, u44, u45, u46, u47, u48, u49, u50, u51, u52, u53, u54, u55, u56, u57, u58, u59, u60, u61, u62, u63, u64, u65, u66, u67, u68, Value.agg #[Value.slice none 0 0, Value.slice none 0 0], Value.agg #[Value.slice none 0 0, Value.slice none 0 0], Value.slice (some { block := W2.heap.size, off := 0 }) 0 0, Value.slice (some { block := bk, off := off }) n1 c1, Value.int IntKind.i64 ↑n1, Value.int IntKind.i64 ↑k, Value.bool true, Value.pointer (some { block := bk, off := off + k * 3 }), Value.agg #[Value.int IntKind.i64 kd, Value.int IntKind.i64 nn, Value.slice ax m cx], Value.pointer (some { block := eb, off := 0 }), Value.int IntKind.i64 kd, u80, u81, u82, u83, u84, u85, u86, u87, u88, u89, u90, u91, u92, u93, u94, u95, u96, u97, u98, u99, u100, u101, u102, u103, u104, u105, u106, u107, u108, u109, u110, u111, u112, u113, u114, u115, u116, u117, u118, u119, u120, u121, u122, u123, u124, u125, u126, u127, u128, u129, u130, u131, u132, u133, u134, u135, u136, u137, u138, u139, u140, u141, u142, u143, u144, u145, u146, u147, u148, u149, u150, u151, u152, u153, u154, u155, u156, u157, u158, u159, u160, u161, u162, u163, u164, u165, u166, u167, u168, u169, u170, u171, u172, u173, u174, u175, u176, u177, u178, u179, u180, u181, u182, u183, u184, u185, u186, u187, u188, u189, u190, u191, u192, u193, u194, u195, u196, u197, u198, u199, u200, u201, u202, u203, u204, u205, u206, u207, u208, u209, u210, u211, u212, u213, u214, u215, u216, u217, u218, u219, u220, u221, u222, u223, u224, u225, u226, u227, u228, u229], defers := [] } W0 := by
  conv => arg 2; whnf
  subst k0
  obtain ⟨E, hE⟩ : ∃ E, pshE m X.n = E := ⟨_, rfl⟩
  obtain ⟨n2, hn2⟩ : ∃ n2, pshN m X.n X.n = n2 := ⟨_, rfl⟩
  obtain ⟨s2, hs2⟩ : ∃ s2, pshN m X.n X.s = s2 := ⟨_, rfl⟩
  obtain ⟨L2, hL2⟩ : ∃ L2, pshL m X.n X.L bs = L2 := ⟨_, rfl⟩
  have HE : Hid (pshE m X.n = E ∧ pshN m X.n X.n = n2 ∧ pshN m X.n X.s = s2 ∧ pshL m X.n X.L bs = L2) := ⟨hE, hn2, hs2, hL2⟩
  have hQ := psh_is hE hn2 hs2
  have HQ : Hid ((E = 0 → n2 = X.n + 1 ∧ s2 = X.s + 1 ∧ L2 = X.L ++ [bs]) ∧ (¬ E = 0 → n2 = X.n ∧ s2 = X.s ∧ L2 = X.L)) := ⟨fun h => ⟨(hQ.1 h).1, (hQ.1 h).2, by rw [← hL2]; unfold pshL; rw [if_pos (hE.trans h)]⟩, fun h => ⟨(hQ.2 h).1, (hQ.2 h).2, by rw [← hL2]; unfold pshL; rw [if_neg (fun e => h (hE.symm.trans e))]⟩⟩
  clear hE hn2 hs2 hL2 hQ
  have HC : Hid (∀ W : World, KT W0 W → W.cell? ⟨eb, 0, none⟩ = some (.int .i64 0) ∧ W.cell? ⟨eb, 2, none⟩ = some (.slice ax m cx) ∧ W.cell? ⟨ge, 0, none⟩ = some (lp g0)) := fun W hW =>
    ⟨(kt_cell hW HEB.out (by decide) (by decide) 0).trans (by rw [cell_of_row _ _ _ _ _ _ HEB.out]; rfl), (kt_cell hW HEB.out (by decide) (by decide) 2).trans (by rw [cell_of_row _ _ _ _ _ _ HEB.out]; rfl), by
      obtain ⟨cs, fr, h9⟩ := HSt.out.duo.et
      exact (kt_cell hW h9 (by decide) (by decide) 0).trans HSt.out.duo.e0⟩
  go_upto_region 15 with fail
  refine wp_region_held (S := fun W => KT W0 W) (by kernel_rfl) ?_
  show wpAnyH _ _ _ _ _ _ _ _ W0.drew
  have hk0 : KT W0 W0.drew := KT.of_below (bel0 W0)
  refine held_val (i := 0) ?_ 83 rfl rfl (by kernel_rfl) (by kernel_rfl) (by kernel_rfl) (by rfl) (fun _ _ _ h => h) hk0 ?_ ?_
  rotate_left
  · (intro w hSw; obtain ⟨c1, c2, c3⟩ := HC.out w hSw; go_simp; first | done | with_reducible rfl)
  simp only [Act.put, List.setIfInBounds_toArray, List.set_cons_zero, List.set_cons_succ]
  refine held_val (i := 1) ?_ 84 rfl rfl (by kernel_rfl) (by kernel_rfl) (by kernel_rfl) (by rfl) (fun _ _ _ h => h) hk0 ?_ ?_
  rotate_left
  · (intro w hSw; obtain ⟨c1, c2, c3⟩ := HC.out w hSw; go_simp; first | done | with_reducible rfl)
  simp only [Act.put, List.setIfInBounds_toArray, List.set_cons_zero, List.set_cons_succ]
  refine held_val (i := 2) ?_ 85 rfl rfl (by kernel_rfl) (by kernel_rfl) (by kernel_rfl) (by rfl) (fun _ _ _ h => h) hk0 ?_ ?_
  rotate_left
  · (intro w hSw; obtain ⟨c1, c2, c3⟩ := HC.out w hSw; go_simp; first | done | with_reducible rfl)
  simp only [Act.put, List.setIfInBounds_toArray, List.set_cons_zero, List.set_cons_succ]
  refine held_val (i := 3) ?_ 86 rfl rfl (by kernel_rfl) (by kernel_rfl) (by kernel_rfl) (by rfl) (fun _ _ _ h => h) hk0 ?_ ?_
  rotate_left
  · (intro w hSw; obtain ⟨c1, c2, c3⟩ := HC.out w hSw; go_simp; first | done | with_reducible rfl)
  simp only [Act.put, List.setIfInBounds_toArray, List.set_cons_zero, List.set_cons_succ]
  refine held_val (i := 5) ?_ 88 rfl rfl (by kernel_rfl) (by kernel_rfl) (by kernel_rfl) (by rfl) (fun _ _ _ h => h) hk0 ?_ ?_
  rotate_left
  · (intro w hSw; obtain ⟨c1, c2, c3⟩ := HC.out w hSw; go_simp; first | done | with_reducible rfl)
  simp only [Act.put, List.setIfInBounds_toArray, List.set_cons_zero, List.set_cons_succ]
  refine held_val (i := 6) ?_ 89 rfl rfl (by kernel_rfl) (by kernel_rfl) (by kernel_rfl) (by rfl) (fun _ _ _ h => h) hk0 ?_ ?_
  rotate_left
  · (intro w hSw; obtain ⟨c1, c2, c3⟩ := HC.out w hSw; go_simp; first | done | with_reducible rfl)
  simp only [Act.put, List.setIfInBounds_toArray, List.set_cons_zero, List.set_cons_succ]
  refine held_run (i := 4) 87 (.slice (some ⟨W0.heap.size, 0, none⟩) 0 0) (W0.alloc (.cells #[] 5)).drew rfl rfl (by kernel_rfl) (by rfl) (by go_simp) (KT.of_below (belD W0 _)) ?_
  simp only [Act.put, List.setIfInBounds_toArray, List.set_cons_zero, List.set_cons_succ]
  refine held_append_at (i := 7) (n := 0) (m := m) (xs := []) (ys := (ci bs).map (Value.int .u8)) 90 (.tmp 87) (.tmp 89) 27 rfl rfl (by kernel_rfl) (by rfl) rfl W0.heap.size 5 (.int .u8 0) 1 Try.underlying27 info5 rfl rfl rfl (show OwnS (W0.alloc (.cells #[] 5)).drew W0.heap.size 5 _ _ [] from OwnI.fresh W0 W0.heap.size 5 .u8 (Nat.le_refl _)) (show RdS (W0.alloc (.cells #[] 5)).drew ax cx _ from RdI.drew (HXW.out.1.alloc (.cells #[] 5)).rd) rfl (by rw [List.length_map, ci_length]; exact HXW.out.2.1) (ints_one _ _) (by have := HXW.out.2.2; omega) (by have := HXW.out.2.2; unfold maxLen; omega) (by simp) ?_
  intro aw cw wa how' hgw _
  have how : Own8 wa W0.heap.size aw m cw bs := ⟨(show OwnS wa W0.heap.size 5 aw cw ((ci bs).map (Value.int .u8)) from (by simpa using how')), HXW.out.2.1, HXW.out.1.byte⟩
  have hbA : Below W0.heap.size (W0.alloc (.cells #[] 5)).drew wa := (show OwnS (W0.alloc (.cells #[] 5)).drew W0.heap.size 5 _ _ [] from OwnI.fresh W0 W0.heap.size 5 .u8 (Nat.le_refl _)).grown (Nat.le_refl _) (by simp) hgw
  have hBw : Below W0.heap.size W0 wa := (belD W0 (.cells #[] 5)).trans hbA
  have hTa : KT W0 wa := KT.of_below hBw
  refine ⟨hTa, ?_⟩
  simp only [Act.put, List.setIfInBounds_toArray, List.set_cons_zero, List.set_cons_succ]
  have hpush := push_any wa w.heap.size g0 X.ao X.n X.cap (fun _ => True) (idI P0 false) X.L X.s X.h (HSt.out.duo.below hBw).k0 aw m cw bs how.rd (by have := HSt.out.inv.d0.len; have := HLn.out; omega) (fun _ _ => trivial) E n2 s2 L2 HE.out.1 HE.out.2.1 HE.out.2.2.1 HE.out.2.2.2
  refine held_call (i := 8) 91 10 #[lp g0, .slice aw m cw] rfl rfl (by kernel_rfl) (by rfl) (by simp [go_sem]) hpush ?_
  rintro e w5 ⟨rfl, ao2, cap2, K4, hO4, hN4⟩
  have hT5 : KT W0 w5 := hTa.trans ((HSt.out.duo.below hBw).k0.ktOff hO4)
  have HD5 : Hid (Duo w5 w.heap.size ge g0 g1 P0 ⟨ao2, n2, cap2, L2, s2, X.h⟩ Y) := (HSt.out.duo.below hBw).step0 (Z := ⟨ao2, n2, cap2, L2, s2, X.h⟩) K4 hO4 hN4
  have HB5 : Hid (Below w.heap.size w w5) := (below_step HBW.out hBw).trans ((HSt.out.duo.below hBw).k0.belowB hO4)
  clear hpush K4 hO4 hN4 how how' hgw hbA hBw hTa
  refine ⟨_, rfl, hT5, ?_⟩
  simp only [Act.put, List.setIfInBounds_toArray, List.set_cons_zero, List.set_cons_succ]
  refine held_val (i := 9) ?_ 92 rfl rfl (by kernel_rfl) (by kernel_rfl) (by kernel_rfl) (by rfl) (fun _ _ _ h => h) hT5 ?_ ?_
  rotate_left
  · (intro w hSw; go_simp; first | done | with_reducible rfl)
  simp only [Act.put, List.setIfInBounds_toArray, List.set_cons_zero, List.set_cons_succ]
  refine wpAnyH_done (by kernel_rfl) ?_ _
  by_cases hE0 : E = 0
  · subst hE0
    obtain ⟨hqa, hqb, hqc⟩ := HQ.out.1 rfl
    have HI5 : Hid (Inv P0 ⟨ao2, n2, cap2, L2, s2, X.h⟩ Y (In0 ++ [bs]) In1 Ws) := HSt.out.inv.push0 (Z := ⟨ao2, n2, cap2, L2, s2, X.h⟩) hqa hqb hqc rfl
    have HS5 : Hid (Str4 w5 w.heap.size q6 (q6 + 1) R (LsF In0 In1 X.h Y.h) ∧ Pks w5 w.heap.size (fun _ => True) (.slice ao nw cap) Ws) := ⟨HSt.out.str.kt hT5, HSt.out.pks.kt hT5⟩
    have HF : Hid (∀ W, Below w.heap.size w W → (∀ (k : Nat) (cs : Array Value) (e : TypeId) (fr : Nat × Nat), w5.heap[k]? = some (.cells cs e fr) → e ≠ 9 → W.heap[k]? = w5.heap[k]?) → W.cell? ⟨q6, 0, none⟩ = some (.slice (R 0).1 In0.length (R 0).2) ∧ W.cell? ⟨eb, 0, none⟩ = some (.int .i64 0) ∧ W.cell? ⟨eb, 2, none⟩ = some (.slice ax m cx) ∧ (convert 27 9 (.slice ax m cx)).run Try.prog W = .ok (.string (strOfNums (ci bs))) W ∧ W.frozen? ⟨q6, 0, none⟩ = false) := fun W hW hk => by
      have heb : w5.heap[eb]? = some (stO 0 nn (.slice ax m cx)) := (hT5.block eb _ 53 _ HEB.out (by decide) (by decide)).trans HEB.out
      have h1 := hk eb _ 53 _ heb (by decide)
      have h2 := hk q6 _ 51 _ HS5.out.1.h6 (by decide)
      refine ⟨(World.cell?_of_block (w := w5) (w' := W) (a := ⟨q6, 0, none⟩) h2).trans (HS5.out.1.hcell 0 (by decide)), ?_, ?_, (HX0.out.below hW).str, (World.frozen?_of_block (w := w5) h2).trans (HS5.out.1.hfz 0 0)⟩
      · rw [cell_of_row _ _ _ _ _ _ (h1.trans heb)]; rfl
      · rw [cell_of_row _ _ _ _ _ _ (h1.trans heb)]; rfl
    have hFs : Hid (∀ W, Below w.heap.size w W → (∀ (k : Nat) (cs : Array Value) (e : TypeId) (fr : Nat × Nat), w5.heap[k]? = some (.cells cs e fr) → e ≠ 9 → W.heap[k]? = w5.heap[k]?) → W.cell? ⟨q6, 0, none⟩ = some (.slice (R 0).1 In0.length (R 0).2) ∧ W.cell? ⟨eb, 0, none⟩ = some (.int .i64 0) ∧ W.cell? ⟨eb, 2, none⟩ = some (.slice ax m cx) ∧ (convert 27 9 (.slice ax m cx)).run Try.prog W = .ok (.string (strOfNums (ci bs))) W ∧ W.frozen? ⟨q6, 0, none⟩ = false) := HF.out
    have hF0 := hFs.out w5.drew ⟨HB5.out.os, HB5.out.tape, HB5.out.output, HB5.out.size, HB5.out.block⟩ (fun _ _ _ _ _ _ => rfl)
    have hb1 : Below w5.heap.size w5 (w5.alloc (.cells #[.string (strOfNums (ci bs))] 9)).drew := belD w5 _
    have hF1 := hFs.out (w5.alloc (.cells #[.string (strOfNums (ci bs))] 9)).drew (below_step HB5.out hb1) (fun k cs e fr hk he => hb1.block k (Array.getElem?_eq_some_iff.1 hk).1)
    have hln : In0.length ≤ 1000000 := by have := HLn.out; omega
    go_upto_region 16 with fail
    refine wp_region_till (fun W => W.cell? ⟨q6, 0, none⟩ = some (.slice (R 0).1 In0.length (R 0).2) ∧ W.cell? ⟨eb, 0, none⟩ = some (.int .i64 0) ∧ W.cell? ⟨eb, 2, none⟩ = some (.slice ax m cx) ∧ (convert 27 9 (.slice ax m cx)).run Try.prog W = .ok (.string (strOfNums (ci bs))) W ∧ W.frozen? ⟨q6, 0, none⟩ = false) 12 (by kernel_rfl) ?_
    refine Till.val (i := 0) ?_ 93 rfl rfl rfl (by kernel_rfl) (by decide) (by kernel_rfl) (by kernel_rfl) (by kernel_rfl) (by kernel_rfl) (by rfl) (fun _ _ _ h => h) hF0 ?_ ?_
    rotate_left
    · (intro w hSw; obtain ⟨c1, c2, c3, c4, c5⟩ := hSw; go_simp; first | done | with_reducible rfl)
    simp only [Act.put, List.setIfInBounds_toArray, List.set_cons_zero, List.set_cons_succ]
    refine Till.val (i := 1) ?_ 94 rfl rfl rfl (by kernel_rfl) (by decide) (by kernel_rfl) (by kernel_rfl) (by kernel_rfl) (by kernel_rfl) (by rfl) (fun _ _ _ h => h) hF0 ?_ ?_
    rotate_left
    · (intro w hSw; obtain ⟨c1, c2, c3, c4, c5⟩ := hSw; go_simp; first | done | with_reducible rfl)
    simp only [Act.put, List.setIfInBounds_toArray, List.set_cons_zero, List.set_cons_succ]
    refine Till.val (i := 2) ?_ 95 rfl rfl rfl (by kernel_rfl) (by decide) (by kernel_rfl) (by kernel_rfl) (by kernel_rfl) (by kernel_rfl) (by rfl) (fun _ _ _ h => h) hF0 ?_ ?_
    rotate_left
    · (intro w hSw; obtain ⟨c1, c2, c3, c4, c5⟩ := hSw; go_simp; first | done | with_reducible rfl)
    simp only [Act.put, List.setIfInBounds_toArray, List.set_cons_zero, List.set_cons_succ]
    refine Till.val (i := 3) ?_ 96 rfl rfl rfl (by kernel_rfl) (by decide) (by kernel_rfl) (by kernel_rfl) (by kernel_rfl) (by kernel_rfl) (by rfl) (fun _ _ _ h => h) hF0 ?_ ?_
    rotate_left
    · (intro w hSw; obtain ⟨c1, c2, c3, c4, c5⟩ := hSw; go_simp; first | done | with_reducible rfl)
    simp only [Act.put, List.setIfInBounds_toArray, List.set_cons_zero, List.set_cons_succ]
    refine Till.val (i := 4) ?_ 97 rfl rfl rfl (by kernel_rfl) (by decide) (by kernel_rfl) (by kernel_rfl) (by kernel_rfl) (by kernel_rfl) (by rfl) (fun _ _ _ h => h) hF0 ?_ ?_
    rotate_left
    · (intro w hSw; obtain ⟨c1, c2, c3, c4, c5⟩ := hSw; go_simp; first | done | with_reducible rfl)
    simp only [Act.put, List.setIfInBounds_toArray, List.set_cons_zero, List.set_cons_succ]
    refine Till.val (i := 5) ?_ 98 rfl rfl rfl (by kernel_rfl) (by decide) (by kernel_rfl) (by kernel_rfl) (by kernel_rfl) (by kernel_rfl) (by rfl) (fun _ _ _ h => h) hF0 ?_ ?_
    rotate_left
    · (intro w hSw; obtain ⟨c1, c2, c3, c4, c5⟩ := hSw; go_simp; first | done | with_reducible rfl)
    simp only [Act.put, List.setIfInBounds_toArray, List.set_cons_zero, List.set_cons_succ]
    refine Till.val (i := 6) ?_ 99 rfl rfl rfl (by kernel_rfl) (by decide) (by kernel_rfl) (by kernel_rfl) (by kernel_rfl) (by kernel_rfl) (by rfl) (fun _ _ _ h => h) hF0 ?_ ?_
    rotate_left
    · (intro w hSw; obtain ⟨c1, c2, c3, c4, c5⟩ := hSw; go_simp; first | done | with_reducible rfl)
    simp only [Act.put, List.setIfInBounds_toArray, List.set_cons_zero, List.set_cons_succ]
    refine Till.val (i := 7) ?_ 100 rfl rfl rfl (by kernel_rfl) (by decide) (by kernel_rfl) (by kernel_rfl) (by kernel_rfl) (by kernel_rfl) (by rfl) (fun _ _ _ h => h) hF0 ?_ ?_
    rotate_left
    · (intro w hSw; obtain ⟨c1, c2, c3, c4, c5⟩ := hSw; go_simp; first | done | with_reducible rfl)
    simp only [Act.put, List.setIfInBounds_toArray, List.set_cons_zero, List.set_cons_succ]
    refine Till.val (i := 8) ?_ 101 rfl rfl rfl (by kernel_rfl) (by decide) (by kernel_rfl) (by kernel_rfl) (by kernel_rfl) (by kernel_rfl) (by rfl) (fun _ _ _ h => h) hF0 ?_ ?_
    rotate_left
    · (intro w hSw; obtain ⟨c1, c2, c3, c4, c5⟩ := hSw; go_simp; first | done | with_reducible rfl)
    simp only [Act.put, List.setIfInBounds_toArray, List.set_cons_zero, List.set_cons_succ]
    refine Till.run (i := 9) 102 (.slice (some ⟨w5.heap.size, 0, none⟩) 1 1) (w5.alloc (.cells #[.string (strOfNums (ci bs))] 9)).drew rfl rfl (by kernel_rfl) (by rfl) (by go_simp) hF1 ?_
    simp only [Act.put, List.setIfInBounds_toArray, List.set_cons_zero, List.set_cons_succ]
    have hS1 : Str4 (w5.alloc (.cells #[.string (strOfNums (ci bs))] 9)).drew w.heap.size q6 (q6 + 1) R (LsF In0 In1 X.h Y.h) := HS5.out.1.below hb1
    refine till_append_at (i := 10) (n := In0.length) (m := 1) (xs := In0.map sv) (ys := [sv bs]) 103 (.tmp 98) (.tmp 102) 50 rfl rfl (by kernel_rfl) (by rfl) rfl w.heap.size 9 (.string ⟨#[]⟩) 16 Try.underlying50 info9 rfl rfl rfl (hS1.row 0 (by decide)) (RdS.drew (RdS.one w5 9 (sv bs))) (by simp) rfl (sv_one [bs]) (by omega) (by unfold maxLen; omega) (below_step HB5.out hb1).size ?_
    intro ao3 cap3 w6 ho6 hg6 ha6
    have hBg : Below w.heap.size (w5.alloc (.cells #[.string (strOfNums (ci bs))] 9)).drew w6 := by
      have h9 := hS1.row 0 (by decide)
      exact OwnS.grown h9 (Nat.le_refl _) (below_step HB5.out hb1).size (by rw [List.length_map]; exact hg6)
    have hF6 := hFs.out w6 ((below_step HB5.out hb1).trans hBg) (fun k cs e fr hk he => by
      have h1 := hb1.block k (Array.getElem?_eq_some_iff.1 hk).1
      exact (hS1.grown9 (i := 0) (by decide) hg6 k cs e fr (h1.trans hk) he).trans h1)
    refine ⟨hF6, ?_⟩
    simp only [Act.put, List.setIfInBounds_toArray, List.set_cons_zero, List.set_cons_succ]
    refine Till.val (i := 11) ?_ 104 rfl rfl rfl (by kernel_rfl) (by decide) (by kernel_rfl) (by kernel_rfl) (by kernel_rfl) (by kernel_rfl) (by rfl) (fun _ _ _ h => h) hF6 ?_ ?_
    rotate_left
    · (intro w hSw; obtain ⟨c1, c2, c3, c4, c5⟩ := hSw; go_simp; first | done | with_reducible rfl)
    simp only [Act.put, List.setIfInBounds_toArray, List.set_cons_zero, List.set_cons_succ]
    obtain ⟨hS7, hK7⟩ := hS1.add (i := 0) (by decide) (b := bs) ho6 hg6 ha6
    obtain ⟨f1, f2, f3, f4, f5⟩ := hF6
    refine Till.last (w6.setCell ⟨q6, 0, none⟩ (.slice ao3 (In0.length + 1) cap3)) rfl rfl (by kernel_rfl) (by decide) (by rfl) (by go_simp) ?_
    refine Till.done (by kernel_rfl) ?_ _
    have hK : KS w5 (w6.setCell ⟨q6, 0, none⟩ (.slice ao3 (In0.length + 1) cap3)) := (KS.of_below hb1).trans hK7
    have hB7 : Below w.heap.size w (w6.setCell ⟨q6, 0, none⟩ (.slice ao3 (In0.length + 1) cap3)) := ((below_step HB5.out hb1).trans hBg).setCell HQ6.out.1 _
    go_wp2
    go_meet
    have hS8 : Str4 (w6.setCell ⟨q6, 0, none⟩ (.slice ao3 (In0.length + 1) cap3)) w.heap.size q6 (q6 + 1) (setR R 0 (ao3, cap3)) (LsF (In0 ++ [bs]) In1 X.h Y.h) := by
      rw [← LsF_push0 (In0 := In0) (In1 := In1) (h0 := X.h) (h1 := Y.h) (by have := HSt.out.inv.d0.hs; have := HSt.out.inv.d0.len; omega) bs]
      exact hS7
    exact ⟨⟨ao2, n2, cap2, L2, s2, X.h⟩, Y, In0 ++ [bs], In1, Ws, _, ao, cap, nw, rfl, ⟨⟨HD5.out.ks hK, HS5.out.2.ks hK, hS8, HI5.out⟩, HLn.out.1, by have := HLn.out; simp; omega, by have := HLn.out; omega⟩, by omega, hB7⟩
  · have e9 : (E == 0) = false := by simpa using hE0
    obtain ⟨hqa, hqb, hqc⟩ := HQ.out.2 hE0
    clear hE0
    subst hqa hqb hqc
    go_wp2
    go_meet
    exact ⟨⟨ao2, _, cap2, _, _, X.h⟩, Y, In0, In1, Ws, R, ao, cap, nw, rfl, ⟨⟨HD5.out, HSt.out.pks.kt hT5, HSt.out.str.kt hT5, ⟨HSt.out.inv.d0, HSt.out.inv.d1, HSt.out.inv.ws⟩⟩, HLn.out.1, by have := HLn.out; omega, by have := HLn.out; omega⟩, by omega, HB5.out⟩

end Go.Proofs.Ytgdlejeopdipiaa
