/- The two long tests of QueueRuns. -/
import Derived.Test.YtcjajckmcikhcaaFb
namespace Go.Proofs.Ytcjajckmcikhcaa
open Go.RowKit Go.Maps
set_option linter.unusedVariables false

noncomputable def runsReg32 : Code := (Try.f4.body.bind (regionOf 32)).getD .skip
noncomputable def runsReg37 : Code := (Try.f4.body.bind (regionOf 37)).getD .skip

set_option maxRecDepth 100000 in
set_option maxHeartbeats 6400000 in
theorem runs_reg32 (q g6 g8 : Nat) (b1 b2 b3 oo : Bool) (yh yp : Int) (a1 : Option Addr) (n1 c1 : Nat) (a2 : Option Addr) (n2 c2 : Nat) (w9 : World)
    (HCL : Hid (∀ V : World, Below w9.heap.size w9 V → V.cell? ⟨g8, 1, none⟩ = some (.int .i64 yh) ∧ V.cell? ⟨g8, 3, none⟩ = some (.int .i64 yp) ∧ V.cell? ⟨g6, 0, none⟩ = some (.slice a1 n1 c1) ∧ V.cell? ⟨g6, 1, none⟩ = some (.slice a2 n2 c2)))
    (HA : Hid (∀ V : World, Below w9.heap.size w9 V → Calls Try.prog 26 #[qp q, .int .i64 yh, .int .i64 yp] V fun e w' => e = .returned (.bool oo) ∧ Below w9.heap.size w9 w'))
    (HB : Hid (∀ V : World, Below w9.heap.size w9 V → Calls Try.prog 27 #[.agg #[.slice a1 n1 c1, .slice a2 n2 c2], .int .i64 yh, .int .i64 yp] V fun e w' => e = .returned (.bool oo) ∧ Below w9.heap.size w9 w'))
    (HC : Hid (∀ V : World, Below w9.heap.size w9 V → Calls Try.prog 10 #[qp q] V fun e w' => ∃ a c, e = .returned (.slice a n1 c) ∧ Below w9.heap.size w9 w' ∧ Hid (Calls Try.prog 28 #[.slice a n1 c, .slice a1 n1 c1] w' fun e w2 => e = .returned (.bool true) ∧ Below w9.heap.size w9 w2)))
    (u0 u1 u2 u3 u4 u7 u15 u16 u17 u18 u19 u20 u21 u22 u23 u24 u25 u26 u27 u28 u29 u30 u31 u32 u33 u34 u35 u36 u37 u38 u39 u40 u41 u42 u43 u44 u45 u46 u47 u48 u49 u50 u51 u52 u53 u54 u55 u56 u57 u58 u59 u60 u61 u62 u63 u64 u65 u66 u67 u68 u69 u70 u71 u72 u73 u74 u75 u76 u77 u78 u79 u80 u81 u82 u83 u84 u85 u86 u87 u88 u89 u90 u91 u92 u93 u94 u95 u96 u97 u98 u99 u100 u101 u102 u103 u104 u105 u106 u107 u108 u109 u110 u111 u112 u113 u114 u115 u116 u117 u118 u119 u120 u121 u122 u123 u124 u125 u126 u127 u128 u129 u130 u131 u132 u133 u134 u135 u136 u137 u138 u139 u140 u141 u142 u143 u144 u145 u146 u147 u148 u149 u150 u151 u152 u153 u154 u155 u156 u157 u158 u159 u160 u161 u162 u163 u164 u165 u166 u167 u168 u169 u170 u171 u172 u173 u174 u175 u176 u177 u178 u179 u180 u181 u182 u183 u184 u185 u186 u187 u188 u189 u190 u191 u192 u193 u194 u195 u196 u197 u198 u199 u200 u201 u202 u203 u204 u205 u206 u207 u208 u209 u210 u211 u212 u213 u214 u215 u216 u217 u218 u219 u220 u221 u222 u223 u224 u225 u226 u227 u228 u229 u230 u231 u232 u233 u234 u235 u236 u237 u238 u239 u240 u241 u242 u243 u244 : Value) (Q : Exit → Act → World → Prop) (hQ : ∀ c (a : Act) (d : Nat) v w, Q (.panic c) (a.put (some d) v) w → Q (.panic c) a w) (h : ∀ (x150 x151 x152 x153 x154 x155 x156 x157 x158 x159 x160 x161 x162 x163 x164 x165 x166 x167 x168 x169 x170 x171 x172 x173 x174 x175 x176 x177 x178 x179 x180 x181 x182 x183 x184 x185 x186 : Value) (w' : World), Below w9.heap.size w9 w' → Q .normal ⟨#[u0, u1, u2, u3, u4, qp q, .pointer (some ⟨g6, 0, none⟩), u7, .pointer (some ⟨g8, 0, none⟩), .bool b1, .bool b1, .bool b2, .bool b3, .bool b2, .bool b3, u15, u16, u17, u18, u19, u20, u21, u22, u23, u24, u25, u26, u27, u28, u29, u30, u31, u32, u33, u34, u35, u36, u37, u38, u39, u40, u41, u42, u43, u44, u45, u46, u47, u48, u49, u50, u51, u52, u53, u54, u55, u56, u57, u58, u59, u60, u61, u62, u63, u64, u65, u66, u67, u68, u69, u70, u71, u72, u73, u74, u75, u76, u77, u78, u79, u80, u81, u82, u83, u84, u85, u86, u87, u88, u89, u90, u91, u92, u93, u94, u95, u96, u97, u98, u99, u100, u101, u102, u103, u104, u105, u106, u107, u108, u109, u110, u111, u112, u113, u114, u115, u116, u117, u118, u119, u120, u121, u122, u123, u124, u125, u126, u127, u128, u129, u130, u131, u132, u133, u134, u135, u136, u137, u138, u139, u140, u141, u142, u143, u144, u145, u146, u147, u148, u149, x150, x151, x152, x153, x154, x155, x156, x157, x158, x159, x160, x161, x162, x163, x164, x165, x166, x167, x168, x169, x170, x171, x172, x173, x174, x175, x176, x177, x178, x179, x180, x181, x182, x183, x184, x185, x186, .bool false, u188, u189, u190, u191, u192, u193, u194, u195, u196, u197, u198, u199, u200, u201, u202, u203, u204, u205, u206, u207, u208, u209, u210, u211, u212, u213, u214, u215, u216, u217, u218, u219, u220, u221, u222, u223, u224, u225, u226, u227, u228, u229, u230, u231, u232, u233, u234, u235, u236, u237, u238, u239, u240, u241, u242, u243, u244], []⟩ w') :
    Code.wp Try.prog runsReg32 Q ⟨#[u0, u1, u2, u3, u4, qp q, .pointer (some ⟨g6, 0, none⟩), u7, .pointer (some ⟨g8, 0, none⟩), .bool b1, .bool b1, .bool b2, .bool b3, .bool b2, .bool b3, u15, u16, u17, u18, u19, u20, u21, u22, u23, u24, u25, u26, u27, u28, u29, u30, u31, u32, u33, u34, u35, u36, u37, u38, u39, u40, u41, u42, u43, u44, u45, u46, u47, u48, u49, u50, u51, u52, u53, u54, u55, u56, u57, u58, u59, u60, u61, u62, u63, u64, u65, u66, u67, u68, u69, u70, u71, u72, u73, u74, u75, u76, u77, u78, u79, u80, u81, u82, u83, u84, u85, u86, u87, u88, u89, u90, u91, u92, u93, u94, u95, u96, u97, u98, u99, u100, u101, u102, u103, u104, u105, u106, u107, u108, u109, u110, u111, u112, u113, u114, u115, u116, u117, u118, u119, u120, u121, u122, u123, u124, u125, u126, u127, u128, u129, u130, u131, u132, u133, u134, u135, u136, u137, u138, u139, u140, u141, u142, u143, u144, u145, u146, u147, u148, u149, u150, u151, u152, u153, u154, u155, u156, u157, u158, u159, u160, u161, u162, u163, u164, u165, u166, u167, u168, u169, u170, u171, u172, u173, u174, u175, u176, u177, u178, u179, u180, u181, u182, u183, u184, u185, u186, u187, u188, u189, u190, u191, u192, u193, u194, u195, u196, u197, u198, u199, u200, u201, u202, u203, u204, u205, u206, u207, u208, u209, u210, u211, u212, u213, u214, u215, u216, u217, u218, u219, u220, u221, u222, u223, u224, u225, u226, u227, u228, u229, u230, u231, u232, u233, u234, u235, u236, u237, u238, u239, u240, u241, u242, u243, u244], []⟩ w9 := by
  conv => arg 2; whnf
  have y1 : (b1 != b1) = false := by simp
  have y2 : (b2 != b2) = false := by simp
  have y3 : (b3 != b3) = false := by simp
  have y4 : (oo != oo) = false := by simp
  refine wp_region_held (S := fun V => Below w9.heap.size w9 V) (by kernel_rfl) ?_
  have hS : Below w9.heap.size w9 w9.drew := bel0 w9
  refine held_val (i := 0) ?_ 150 rfl rfl (by kernel_rfl) (by kernel_rfl) (by kernel_rfl) (by rfl) (fun c a w hh => hQ c a _ _ w hh) hS ?_ ?_
  rotate_left
  · (intro w hSw; go_simp; first | done | with_reducible rfl)
  simp only [Act.put, List.setIfInBounds_toArray, List.set_cons_zero, List.set_cons_succ]
  refine held_val (i := 1) ?_ 151 rfl rfl (by kernel_rfl) (by kernel_rfl) (by kernel_rfl) (by rfl) (fun c a w hh => hQ c a _ _ w hh) hS ?_ ?_
  rotate_left
  · (intro w hSw; go_simp; first | done | with_reducible rfl)
  simp only [Act.put, List.setIfInBounds_toArray, List.set_cons_zero, List.set_cons_succ]
  refine held_val (i := 2) (.bool false) 152 rfl rfl (by kernel_rfl) (by kernel_rfl) (by kernel_rfl) (by rfl) (fun c a w hh => hQ c a _ _ w hh) hS ?_ ?_
  skip
  · (intro w hSw; go_simp; first | done | with_reducible rfl)
  simp only [Act.put, List.setIfInBounds_toArray, List.set_cons_zero, List.set_cons_succ]
  refine held_val (i := 3) (.bool false) 153 rfl rfl (by kernel_rfl) (by kernel_rfl) (by kernel_rfl) (by rfl) (fun c a w hh => hQ c a _ _ w hh) hS ?_ ?_
  skip
  · (intro w hSw; go_simp; first | done | with_reducible rfl)
  simp only [Act.put, List.setIfInBounds_toArray, List.set_cons_zero, List.set_cons_succ]
  refine held_val (i := 4) ?_ 154 rfl rfl (by kernel_rfl) (by kernel_rfl) (by kernel_rfl) (by rfl) (fun c a w hh => hQ c a _ _ w hh) hS ?_ ?_
  rotate_left
  · (intro w hSw; go_simp; first | done | with_reducible rfl)
  simp only [Act.put, List.setIfInBounds_toArray, List.set_cons_zero, List.set_cons_succ]
  refine held_val (i := 5) ?_ 155 rfl rfl (by kernel_rfl) (by kernel_rfl) (by kernel_rfl) (by rfl) (fun c a w hh => hQ c a _ _ w hh) hS ?_ ?_
  rotate_left
  · (intro w hSw; go_simp; first | done | with_reducible rfl)
  simp only [Act.put, List.setIfInBounds_toArray, List.set_cons_zero, List.set_cons_succ]
  refine held_val (i := 6) (.bool false) 156 rfl rfl (by kernel_rfl) (by kernel_rfl) (by kernel_rfl) (by rfl) (fun c a w hh => hQ c a _ _ w hh) hS ?_ ?_
  skip
  · (intro w hSw; go_simp; first | done | with_reducible rfl)
  simp only [Act.put, List.setIfInBounds_toArray, List.set_cons_zero, List.set_cons_succ]
  refine held_val (i := 7) (.bool false) 157 rfl rfl (by kernel_rfl) (by kernel_rfl) (by kernel_rfl) (by rfl) (fun c a w hh => hQ c a _ _ w hh) hS ?_ ?_
  skip
  · (intro w hSw; go_simp; first | done | with_reducible rfl)
  simp only [Act.put, List.setIfInBounds_toArray, List.set_cons_zero, List.set_cons_succ]
  refine held_val (i := 8) (.bool false) 158 rfl rfl (by kernel_rfl) (by kernel_rfl) (by kernel_rfl) (by rfl) (fun c a w hh => hQ c a _ _ w hh) hS ?_ ?_
  skip
  · (intro w hSw; go_simp; first | done | with_reducible rfl)
  simp only [Act.put, List.setIfInBounds_toArray, List.set_cons_zero, List.set_cons_succ]
  refine held_val (i := 9) ?_ 159 rfl rfl (by kernel_rfl) (by kernel_rfl) (by kernel_rfl) (by rfl) (fun c a w hh => hQ c a _ _ w hh) hS ?_ ?_
  rotate_left
  · (intro w hSw; go_simp; first | done | with_reducible rfl)
  simp only [Act.put, List.setIfInBounds_toArray, List.set_cons_zero, List.set_cons_succ]
  refine held_val (i := 10) ?_ 160 rfl rfl (by kernel_rfl) (by kernel_rfl) (by kernel_rfl) (by rfl) (fun c a w hh => hQ c a _ _ w hh) hS ?_ ?_
  rotate_left
  · (intro w hSw; go_simp; first | done | with_reducible rfl)
  simp only [Act.put, List.setIfInBounds_toArray, List.set_cons_zero, List.set_cons_succ]
  refine held_val (i := 11) (.bool false) 161 rfl rfl (by kernel_rfl) (by kernel_rfl) (by kernel_rfl) (by rfl) (fun c a w hh => hQ c a _ _ w hh) hS ?_ ?_
  skip
  · (intro w hSw; go_simp; first | done | with_reducible rfl)
  simp only [Act.put, List.setIfInBounds_toArray, List.set_cons_zero, List.set_cons_succ]
  refine held_val (i := 12) (.bool false) 162 rfl rfl (by kernel_rfl) (by kernel_rfl) (by kernel_rfl) (by rfl) (fun c a w hh => hQ c a _ _ w hh) hS ?_ ?_
  skip
  · (intro w hSw; go_simp; first | done | with_reducible rfl)
  simp only [Act.put, List.setIfInBounds_toArray, List.set_cons_zero, List.set_cons_succ]
  refine held_val (i := 13) (.bool false) 163 rfl rfl (by kernel_rfl) (by kernel_rfl) (by kernel_rfl) (by rfl) (fun c a w hh => hQ c a _ _ w hh) hS ?_ ?_
  skip
  · (intro w hSw; go_simp; first | done | with_reducible rfl)
  simp only [Act.put, List.setIfInBounds_toArray, List.set_cons_zero, List.set_cons_succ]
  refine held_val (i := 14) ?_ 164 rfl rfl (by kernel_rfl) (by kernel_rfl) (by kernel_rfl) (by rfl) (fun c a w hh => hQ c a _ _ w hh) hS ?_ ?_
  rotate_left
  · (intro w hSw; go_simp; first | done | with_reducible rfl)
  simp only [Act.put, List.setIfInBounds_toArray, List.set_cons_zero, List.set_cons_succ]
  refine held_val (i := 15) ?_ 165 rfl rfl (by kernel_rfl) (by kernel_rfl) (by kernel_rfl) (by rfl) (fun c a w hh => hQ c a _ _ w hh) hS ?_ ?_
  rotate_left
  · (intro w hSw; go_simp; first | done | with_reducible rfl)
  simp only [Act.put, List.setIfInBounds_toArray, List.set_cons_zero, List.set_cons_succ]
  refine held_val (i := 16) ?_ 166 rfl rfl (by kernel_rfl) (by kernel_rfl) (by kernel_rfl) (by rfl) (fun c a w hh => hQ c a _ _ w hh) hS ?_ ?_
  rotate_left
  · (intro w hSw; obtain ⟨k1, k3, k6, k7⟩ := HCL.out w hSw; go_simp; first | done | with_reducible rfl)
  simp only [Act.put, List.setIfInBounds_toArray, List.set_cons_zero, List.set_cons_succ]
  refine held_val (i := 17) ?_ 167 rfl rfl (by kernel_rfl) (by kernel_rfl) (by kernel_rfl) (by rfl) (fun c a w hh => hQ c a _ _ w hh) hS ?_ ?_
  rotate_left
  · (intro w hSw; go_simp; first | done | with_reducible rfl)
  simp only [Act.put, List.setIfInBounds_toArray, List.set_cons_zero, List.set_cons_succ]
  refine held_val (i := 18) ?_ 168 rfl rfl (by kernel_rfl) (by kernel_rfl) (by kernel_rfl) (by rfl) (fun c a w hh => hQ c a _ _ w hh) hS ?_ ?_
  rotate_left
  · (intro w hSw; go_simp; first | done | with_reducible rfl)
  simp only [Act.put, List.setIfInBounds_toArray, List.set_cons_zero, List.set_cons_succ]
  refine held_val (i := 19) ?_ 169 rfl rfl (by kernel_rfl) (by kernel_rfl) (by kernel_rfl) (by rfl) (fun c a w hh => hQ c a _ _ w hh) hS ?_ ?_
  rotate_left
  · (intro w hSw; obtain ⟨k1, k3, k6, k7⟩ := HCL.out w hSw; go_simp; first | done | with_reducible rfl)
  simp only [Act.put, List.setIfInBounds_toArray, List.set_cons_zero, List.set_cons_succ]
  refine held_val (i := 21) ?_ 171 rfl rfl (by kernel_rfl) (by kernel_rfl) (by kernel_rfl) (by rfl) (fun c a w hh => hQ c a _ _ w hh) hS ?_ ?_
  rotate_left
  · (intro w hSw; obtain ⟨k1, k3, k6, k7⟩ := HCL.out w hSw; go_simp; first | done | with_reducible rfl)
  simp only [Act.put, List.setIfInBounds_toArray, List.set_cons_zero, List.set_cons_succ]
  refine held_val (i := 22) ?_ 172 rfl rfl (by kernel_rfl) (by kernel_rfl) (by kernel_rfl) (by rfl) (fun c a w hh => hQ c a _ _ w hh) hS ?_ ?_
  rotate_left
  · (intro w hSw; go_simp; first | done | with_reducible rfl)
  simp only [Act.put, List.setIfInBounds_toArray, List.set_cons_zero, List.set_cons_succ]
  refine held_val (i := 23) ?_ 173 rfl rfl (by kernel_rfl) (by kernel_rfl) (by kernel_rfl) (by rfl) (fun c a w hh => hQ c a _ _ w hh) hS ?_ ?_
  rotate_left
  · (intro w hSw; obtain ⟨k1, k3, k6, k7⟩ := HCL.out w hSw; go_simp; first | done | with_reducible rfl)
  simp only [Act.put, List.setIfInBounds_toArray, List.set_cons_zero, List.set_cons_succ]
  refine held_val (i := 24) ?_ 174 rfl rfl (by kernel_rfl) (by kernel_rfl) (by kernel_rfl) (by rfl) (fun c a w hh => hQ c a _ _ w hh) hS ?_ ?_
  rotate_left
  · (intro w hSw; go_simp; first | done | with_reducible rfl)
  simp only [Act.put, List.setIfInBounds_toArray, List.set_cons_zero, List.set_cons_succ]
  refine held_val (i := 25) ?_ 175 rfl rfl (by kernel_rfl) (by kernel_rfl) (by kernel_rfl) (by rfl) (fun c a w hh => hQ c a _ _ w hh) hS ?_ ?_
  rotate_left
  · (intro w hSw; go_simp; first | done | with_reducible rfl)
  simp only [Act.put, List.setIfInBounds_toArray, List.set_cons_zero, List.set_cons_succ]
  refine held_val (i := 26) ?_ 176 rfl rfl (by kernel_rfl) (by kernel_rfl) (by kernel_rfl) (by rfl) (fun c a w hh => hQ c a _ _ w hh) hS ?_ ?_
  rotate_left
  · (intro w hSw; obtain ⟨k1, k3, k6, k7⟩ := HCL.out w hSw; go_simp; first | done | with_reducible rfl)
  simp only [Act.put, List.setIfInBounds_toArray, List.set_cons_zero, List.set_cons_succ]
  refine held_call (i := 20) 170 26 #[qp q, .int .i64 yh, .int .i64 yp] rfl rfl (by kernel_rfl) (by rfl) (by simp [go_sem]) (HA.out _ hS) ?_
  rintro e w20 ⟨rfl, hS20⟩
  refine ⟨_, rfl, hS20, ?_⟩
  clear hS
  have hS := hS20
  simp only [Act.put, List.setIfInBounds_toArray, List.set_cons_zero, List.set_cons_succ]
  refine held_call (i := 27) 177 27 #[.agg #[.slice a1 n1 c1, .slice a2 n2 c2], .int .i64 yh, .int .i64 yp] rfl rfl (by kernel_rfl) (by rfl) (by simp [go_sem]) (HB.out _ hS) ?_
  rintro e w27 ⟨rfl, hS27⟩
  refine ⟨_, rfl, hS27, ?_⟩
  clear hS
  have hS := hS27
  simp only [Act.put, List.setIfInBounds_toArray, List.set_cons_zero, List.set_cons_succ]
  refine held_val (i := 28) (.bool false) 178 rfl rfl (by kernel_rfl) (by kernel_rfl) (by kernel_rfl) (by rfl) (fun c a w hh => hQ c a _ _ w hh) hS ?_ ?_
  skip
  · (intro w hSw; go_simp; first | done | with_reducible rfl)
  simp only [Act.put, List.setIfInBounds_toArray, List.set_cons_zero, List.set_cons_succ]
  refine held_val (i := 29) (.bool false) 179 rfl rfl (by kernel_rfl) (by kernel_rfl) (by kernel_rfl) (by rfl) (fun c a w hh => hQ c a _ _ w hh) hS ?_ ?_
  skip
  · (intro w hSw; go_simp; first | done | with_reducible rfl)
  simp only [Act.put, List.setIfInBounds_toArray, List.set_cons_zero, List.set_cons_succ]
  refine held_val (i := 30) (.bool false) 180 rfl rfl (by kernel_rfl) (by kernel_rfl) (by kernel_rfl) (by rfl) (fun c a w hh => hQ c a _ _ w hh) hS ?_ ?_
  skip
  · (intro w hSw; go_simp; first | done | with_reducible rfl)
  simp only [Act.put, List.setIfInBounds_toArray, List.set_cons_zero, List.set_cons_succ]
  refine held_val (i := 31) ?_ 181 rfl rfl (by kernel_rfl) (by kernel_rfl) (by kernel_rfl) (by rfl) (fun c a w hh => hQ c a _ _ w hh) hS ?_ ?_
  rotate_left
  · (intro w hSw; go_simp; first | done | with_reducible rfl)
  simp only [Act.put, List.setIfInBounds_toArray, List.set_cons_zero, List.set_cons_succ]
  refine held_val (i := 33) ?_ 183 rfl rfl (by kernel_rfl) (by kernel_rfl) (by kernel_rfl) (by rfl) (fun c a w hh => hQ c a _ _ w hh) hS ?_ ?_
  rotate_left
  · (intro w hSw; go_simp; first | done | with_reducible rfl)
  simp only [Act.put, List.setIfInBounds_toArray, List.set_cons_zero, List.set_cons_succ]
  refine held_val (i := 34) ?_ 184 rfl rfl (by kernel_rfl) (by kernel_rfl) (by kernel_rfl) (by rfl) (fun c a w hh => hQ c a _ _ w hh) hS ?_ ?_
  rotate_left
  · (intro w hSw; obtain ⟨k1, k3, k6, k7⟩ := HCL.out w hSw; go_simp; first | done | with_reducible rfl)
  simp only [Act.put, List.setIfInBounds_toArray, List.set_cons_zero, List.set_cons_succ]
  refine held_call (i := 32) 182 10 #[qp q] rfl rfl (by kernel_rfl) (by rfl) (by simp [go_sem]) (HC.out _ hS) ?_
  rintro e w32 ⟨aa, cc, rfl, hS32, HD⟩
  refine ⟨_, rfl, hS32, ?_⟩
  clear hS
  have hS := hS32
  simp only [Act.put, List.setIfInBounds_toArray, List.set_cons_zero, List.set_cons_succ]
  refine held_call (i := 35) 185 28 #[.slice aa n1 cc, .slice a1 n1 c1] rfl rfl (by kernel_rfl) (by rfl) (by simp [go_sem]) HD.out ?_
  rintro e w35 ⟨rfl, hS35⟩
  refine ⟨_, rfl, hS35, ?_⟩
  clear hS
  have hS := hS35
  simp only [Act.put, List.setIfInBounds_toArray, List.set_cons_zero, List.set_cons_succ]
  refine held_val (i := 36) (.bool false) 186 rfl rfl (by kernel_rfl) (by kernel_rfl) (by kernel_rfl) (by rfl) (fun c a w hh => hQ c a _ _ w hh) hS ?_ ?_
  skip
  · (intro w hSw; go_simp; first | done | with_reducible rfl)
  simp only [Act.put, List.setIfInBounds_toArray, List.set_cons_zero, List.set_cons_succ]
  refine held_val (i := 37) (.bool false) 187 rfl rfl (by kernel_rfl) (by kernel_rfl) (by kernel_rfl) (by rfl) (fun c a w hh => hQ c a _ _ w hh) hS ?_ ?_
  skip
  · (intro w hSw; go_simp; first | done | with_reducible rfl)
  simp only [Act.put, List.setIfInBounds_toArray, List.set_cons_zero, List.set_cons_succ]
  refine wpAnyH_done (by kernel_rfl) ?_ _
  exact h _ _ _ _ _ _ _ _ _ _ _ _ _ _ _ _ _ _ _ _ _ _ _ _ _ _ _ _ _ _ _ _ _ _ _ _ _ _ hS

set_option maxRecDepth 100000 in
set_option maxHeartbeats 6400000 in
theorem runs_reg37 (q g3 g6 : Nat) (b2 b3 : Bool) (xc xp xo : Int) (xw : Bool) (rr : Int) (na : Nat) (a1 : Option Addr) (n1 c1 : Nat) (a2 : Option Addr) (n2 c2 : Nat) (w9 : World)
    (HCL : Hid (∀ V : World, Below w9.heap.size w9 V → V.cell? ⟨g3, 2, none⟩ = some (.int .i64 xc) ∧ V.cell? ⟨g3, 3, none⟩ = some (.int .i64 xp) ∧ V.cell? ⟨g3, 4, none⟩ = some (.int .i64 xo) ∧ V.cell? ⟨g3, 5, none⟩ = some (.bool xw) ∧ V.cell? ⟨g6, 0, none⟩ = some (.slice a1 n1 c1) ∧ V.cell? ⟨g6, 1, none⟩ = some (.slice a2 n2 c2)))
    (HA : Hid (∀ V : World, Below w9.heap.size w9 V → Calls Try.prog 30 #[qp q, .agg #[.int .i64 xc, .int .i64 xp, .int .i64 xo, .bool xw]] V fun e w' => ∃ a c, e = .returned (.slice a na c) ∧ Below w9.heap.size w9 w' ∧ Hid (Calls Try.prog 31 #[.agg #[.slice a1 n1 c1, .slice a2 n2 c2], .agg #[.int .i64 xc, .int .i64 xp, .int .i64 xo, .bool xw]] w' fun e w2 => ∃ b d, e = .returned (.slice b na d) ∧ Below w9.heap.size w9 w2 ∧ Hid (Calls Try.prog 29 #[.slice a na c, .slice b na d] w2 fun e w3 => e = .returned (.bool true) ∧ Below w9.heap.size w9 w3))))
    (HB : Hid (∀ V : World, Below w9.heap.size w9 V → Calls Try.prog 15 #[qp q, .int .i64 xc, .int .i64 xp] V fun e w' => e = .returned (.int .i64 rr) ∧ Below w9.heap.size w9 w'))
    (HC : Hid (∀ V : World, Below w9.heap.size w9 V → Calls Try.prog 32 #[.agg #[.slice a1 n1 c1, .slice a2 n2 c2], .int .i64 xc, .int .i64 xp] V fun e w' => e = .returned (.int .i64 rr) ∧ Below w9.heap.size w9 w'))
    (u0 u1 u2 u4 u7 u8 u9 u10 u11 u12 u13 u14 u19 u20 u21 u22 u23 u24 u25 u26 u27 u28 u29 u30 u31 u32 u33 u34 u35 u36 u37 u38 u39 u40 u41 u42 u43 u44 u45 u46 u47 u48 u49 u50 u51 u52 u53 u54 u55 u56 u57 u58 u59 u60 u61 u62 u63 u64 u65 u66 u67 u68 u69 u70 u71 u72 u73 u74 u75 u76 u77 u78 u79 u80 u81 u82 u83 u84 u85 u86 u87 u88 u89 u90 u91 u92 u93 u94 u95 u96 u97 u98 u99 u100 u101 u102 u103 u104 u105 u106 u107 u108 u109 u110 u111 u112 u113 u114 u115 u116 u117 u118 u119 u120 u121 u122 u123 u124 u125 u126 u127 u128 u129 u130 u131 u132 u133 u134 u135 u136 u137 u138 u139 u140 u141 u142 u143 u144 u145 u146 u147 u148 u149 u150 u151 u152 u153 u154 u155 u156 u157 u158 u159 u160 u161 u162 u163 u164 u165 u166 u167 u168 u169 u170 u171 u172 u173 u174 u175 u176 u177 u178 u179 u180 u181 u182 u183 u184 u185 u186 u187 u188 u189 u190 u191 u192 u193 u194 u195 u196 u197 u198 u199 u200 u201 u202 u203 u204 u205 u206 u207 u208 u209 u210 u211 u212 u213 u214 u215 u216 u217 u218 u219 u220 u221 u222 u223 u224 u225 u226 u227 u228 u229 u230 u231 u232 u233 u234 u235 u236 u237 u238 u239 u240 u241 u242 u243 u244 : Value) (Q : Exit → Act → World → Prop) (hQ : ∀ c (a : Act) (d : Nat) v w, Q (.panic c) (a.put (some d) v) w → Q (.panic c) a w) (h : ∀ (x207 x208 x209 x210 x211 x212 x213 x214 x215 x216 x217 x218 x219 x220 x221 x222 x223 x224 x225 x226 x227 x228 x229 x230 x231 x232 x233 x234 x235 x236 x237 x238 x239 x240 x241 x242 x243 x244 : Value) (w' : World), Below w9.heap.size w9 w' → Q .normal ⟨#[u0, u1, u2, .pointer (some ⟨g3, 0, none⟩), .bool true, qp q, .pointer (some ⟨g6, 0, none⟩), u7, u8, u9, u10, u11, u12, u13, u14, .bool b2, .bool b3, .bool b2, .bool b3, u19, u20, u21, u22, u23, u24, u25, u26, u27, u28, u29, u30, u31, u32, u33, u34, u35, u36, u37, u38, u39, u40, u41, u42, u43, u44, u45, u46, u47, u48, u49, u50, u51, u52, u53, u54, u55, u56, u57, u58, u59, u60, u61, u62, u63, u64, u65, u66, u67, u68, u69, u70, u71, u72, u73, u74, u75, u76, u77, u78, u79, u80, u81, u82, u83, u84, u85, u86, u87, u88, u89, u90, u91, u92, u93, u94, u95, u96, u97, u98, u99, u100, u101, u102, u103, u104, u105, u106, u107, u108, u109, u110, u111, u112, u113, u114, u115, u116, u117, u118, u119, u120, u121, u122, u123, u124, u125, u126, u127, u128, u129, u130, u131, u132, u133, u134, u135, u136, u137, u138, u139, u140, u141, u142, u143, u144, u145, u146, u147, u148, u149, u150, u151, u152, u153, u154, u155, u156, u157, u158, u159, u160, u161, u162, u163, u164, u165, u166, u167, u168, u169, u170, u171, u172, u173, u174, u175, u176, u177, u178, u179, u180, u181, u182, u183, u184, u185, u186, u187, u188, u189, u190, u191, u192, u193, u194, u195, u196, u197, u198, u199, u200, u201, u202, u203, u204, u205, u206, x207, x208, x209, x210, x211, x212, x213, x214, x215, x216, x217, x218, x219, x220, x221, x222, x223, x224, x225, x226, x227, x228, x229, x230, x231, x232, x233, x234, x235, x236, x237, x238, x239, x240, x241, x242, x243, x244], []⟩ w') :
    Code.wp Try.prog runsReg37 Q ⟨#[u0, u1, u2, .pointer (some ⟨g3, 0, none⟩), u4, qp q, .pointer (some ⟨g6, 0, none⟩), u7, u8, u9, u10, u11, u12, u13, u14, .bool b2, .bool b3, .bool b2, .bool b3, u19, u20, u21, u22, u23, u24, u25, u26, u27, u28, u29, u30, u31, u32, u33, u34, u35, u36, u37, u38, u39, u40, u41, u42, u43, u44, u45, u46, u47, u48, u49, u50, u51, u52, u53, u54, u55, u56, u57, u58, u59, u60, u61, u62, u63, u64, u65, u66, u67, u68, u69, u70, u71, u72, u73, u74, u75, u76, u77, u78, u79, u80, u81, u82, u83, u84, u85, u86, u87, u88, u89, u90, u91, u92, u93, u94, u95, u96, u97, u98, u99, u100, u101, u102, u103, u104, u105, u106, u107, u108, u109, u110, u111, u112, u113, u114, u115, u116, u117, u118, u119, u120, u121, u122, u123, u124, u125, u126, u127, u128, u129, u130, u131, u132, u133, u134, u135, u136, u137, u138, u139, u140, u141, u142, u143, u144, u145, u146, u147, u148, u149, u150, u151, u152, u153, u154, u155, u156, u157, u158, u159, u160, u161, u162, u163, u164, u165, u166, u167, u168, u169, u170, u171, u172, u173, u174, u175, u176, u177, u178, u179, u180, u181, u182, u183, u184, u185, u186, u187, u188, u189, u190, u191, u192, u193, u194, u195, u196, u197, u198, u199, u200, u201, u202, u203, u204, u205, u206, u207, u208, u209, u210, u211, u212, u213, u214, u215, u216, u217, u218, u219, u220, u221, u222, u223, u224, u225, u226, u227, u228, u229, u230, u231, u232, u233, u234, u235, u236, u237, u238, u239, u240, u241, u242, u243, u244], []⟩ w9 := by
  conv => arg 2; whnf
  have y2 : (b2 == b2) = true := by simp
  have y3 : (b3 == b3) = true := by simp
  have y4 : (rr == rr) = true := by simp
  refine wp_region_held (S := fun V => Below w9.heap.size w9 V) (by kernel_rfl) ?_
  have hS : Below w9.heap.size w9 w9.drew := bel0 w9
  refine held_val (i := 0) ?_ 207 rfl rfl (by kernel_rfl) (by kernel_rfl) (by kernel_rfl) (by rfl) (fun c a w hh => hQ c a _ _ w hh) hS ?_ ?_
  rotate_left
  · (intro w hSw; go_simp; first | done | with_reducible rfl)
  simp only [Act.put, List.setIfInBounds_toArray, List.set_cons_zero, List.set_cons_succ]
  refine held_val (i := 1) ?_ 208 rfl rfl (by kernel_rfl) (by kernel_rfl) (by kernel_rfl) (by rfl) (fun c a w hh => hQ c a _ _ w hh) hS ?_ ?_
  rotate_left
  · (intro w hSw; go_simp; first | done | with_reducible rfl)
  simp only [Act.put, List.setIfInBounds_toArray, List.set_cons_zero, List.set_cons_succ]
  refine held_val (i := 2) (.bool true) 209 rfl rfl (by kernel_rfl) (by kernel_rfl) (by kernel_rfl) (by rfl) (fun c a w hh => hQ c a _ _ w hh) hS ?_ ?_
  skip
  · (intro w hSw; go_simp; first | done | with_reducible rfl)
  simp only [Act.put, List.setIfInBounds_toArray, List.set_cons_zero, List.set_cons_succ]
  refine held_val (i := 3) (.bool true) 210 rfl rfl (by kernel_rfl) (by kernel_rfl) (by kernel_rfl) (by rfl) (fun c a w hh => hQ c a _ _ w hh) hS ?_ ?_
  skip
  · (intro w hSw; go_simp; first | done | with_reducible rfl)
  simp only [Act.put, List.setIfInBounds_toArray, List.set_cons_zero, List.set_cons_succ]
  refine held_val (i := 4) ?_ 211 rfl rfl (by kernel_rfl) (by kernel_rfl) (by kernel_rfl) (by rfl) (fun c a w hh => hQ c a _ _ w hh) hS ?_ ?_
  rotate_left
  · (intro w hSw; go_simp; first | done | with_reducible rfl)
  simp only [Act.put, List.setIfInBounds_toArray, List.set_cons_zero, List.set_cons_succ]
  refine held_val (i := 5) ?_ 212 rfl rfl (by kernel_rfl) (by kernel_rfl) (by kernel_rfl) (by rfl) (fun c a w hh => hQ c a _ _ w hh) hS ?_ ?_
  rotate_left
  · (intro w hSw; go_simp; first | done | with_reducible rfl)
  simp only [Act.put, List.setIfInBounds_toArray, List.set_cons_zero, List.set_cons_succ]
  refine held_val (i := 6) (.bool true) 213 rfl rfl (by kernel_rfl) (by kernel_rfl) (by kernel_rfl) (by rfl) (fun c a w hh => hQ c a _ _ w hh) hS ?_ ?_
  skip
  · (intro w hSw; go_simp; first | done | with_reducible rfl)
  simp only [Act.put, List.setIfInBounds_toArray, List.set_cons_zero, List.set_cons_succ]
  refine held_val (i := 7) (.bool true) 214 rfl rfl (by kernel_rfl) (by kernel_rfl) (by kernel_rfl) (by rfl) (fun c a w hh => hQ c a _ _ w hh) hS ?_ ?_
  skip
  · (intro w hSw; go_simp; first | done | with_reducible rfl)
  simp only [Act.put, List.setIfInBounds_toArray, List.set_cons_zero, List.set_cons_succ]
  refine held_val (i := 8) (.bool true) 215 rfl rfl (by kernel_rfl) (by kernel_rfl) (by kernel_rfl) (by rfl) (fun c a w hh => hQ c a _ _ w hh) hS ?_ ?_
  skip
  · (intro w hSw; go_simp; first | done | with_reducible rfl)
  simp only [Act.put, List.setIfInBounds_toArray, List.set_cons_zero, List.set_cons_succ]
  refine held_val (i := 9) ?_ 216 rfl rfl (by kernel_rfl) (by kernel_rfl) (by kernel_rfl) (by rfl) (fun c a w hh => hQ c a _ _ w hh) hS ?_ ?_
  rotate_left
  · (intro w hSw; go_simp; first | done | with_reducible rfl)
  simp only [Act.put, List.setIfInBounds_toArray, List.set_cons_zero, List.set_cons_succ]
  refine held_val (i := 10) ?_ 217 rfl rfl (by kernel_rfl) (by kernel_rfl) (by kernel_rfl) (by rfl) (fun c a w hh => hQ c a _ _ w hh) hS ?_ ?_
  rotate_left
  · (intro w hSw; go_simp; first | done | with_reducible rfl)
  simp only [Act.put, List.setIfInBounds_toArray, List.set_cons_zero, List.set_cons_succ]
  refine held_val (i := 11) ?_ 218 rfl rfl (by kernel_rfl) (by kernel_rfl) (by kernel_rfl) (by rfl) (fun c a w hh => hQ c a _ _ w hh) hS ?_ ?_
  rotate_left
  · (intro w hSw; obtain ⟨k2, k3, k4, k5, k6, k7⟩ := HCL.out w hSw; go_simp; first | done | with_reducible rfl)
  simp only [Act.put, List.setIfInBounds_toArray, List.set_cons_zero, List.set_cons_succ]
  refine held_val (i := 13) ?_ 220 rfl rfl (by kernel_rfl) (by kernel_rfl) (by kernel_rfl) (by rfl) (fun c a w hh => hQ c a _ _ w hh) hS ?_ ?_
  rotate_left
  · (intro w hSw; obtain ⟨k2, k3, k4, k5, k6, k7⟩ := HCL.out w hSw; go_simp; first | done | with_reducible rfl)
  simp only [Act.put, List.setIfInBounds_toArray, List.set_cons_zero, List.set_cons_succ]
  refine held_val (i := 14) ?_ 221 rfl rfl (by kernel_rfl) (by kernel_rfl) (by kernel_rfl) (by rfl) (fun c a w hh => hQ c a _ _ w hh) hS ?_ ?_
  rotate_left
  · (intro w hSw; go_simp; first | done | with_reducible rfl)
  simp only [Act.put, List.setIfInBounds_toArray, List.set_cons_zero, List.set_cons_succ]
  refine held_val (i := 15) ?_ 222 rfl rfl (by kernel_rfl) (by kernel_rfl) (by kernel_rfl) (by rfl) (fun c a w hh => hQ c a _ _ w hh) hS ?_ ?_
  rotate_left
  · (intro w hSw; obtain ⟨k2, k3, k4, k5, k6, k7⟩ := HCL.out w hSw; go_simp; first | done | with_reducible rfl)
  simp only [Act.put, List.setIfInBounds_toArray, List.set_cons_zero, List.set_cons_succ]
  refine held_call (i := 12) 219 30 #[qp q, .agg #[.int .i64 xc, .int .i64 xp, .int .i64 xo, .bool xw]] rfl rfl (by kernel_rfl) (by rfl) (by simp [go_sem]) (HA.out _ hS) ?_
  rintro e w12 ⟨aa, cc, rfl, hS12, HD⟩
  refine ⟨_, rfl, hS12, ?_⟩
  clear hS
  have hS := hS12
  simp only [Act.put, List.setIfInBounds_toArray, List.set_cons_zero, List.set_cons_succ]
  refine held_call (i := 16) 223 31 #[.agg #[.slice a1 n1 c1, .slice a2 n2 c2], .agg #[.int .i64 xc, .int .i64 xp, .int .i64 xo, .bool xw]] rfl rfl (by kernel_rfl) (by rfl) (by simp [go_sem]) HD.out ?_
  rintro e w16 ⟨bb, dd, rfl, hS16, HE⟩
  refine ⟨_, rfl, hS16, ?_⟩
  clear hS
  have hS := hS16
  simp only [Act.put, List.setIfInBounds_toArray, List.set_cons_zero, List.set_cons_succ]
  refine held_call (i := 17) 224 29 #[.slice aa na cc, .slice bb na dd] rfl rfl (by kernel_rfl) (by rfl) (by simp [go_sem]) HE.out ?_
  rintro e w17 ⟨rfl, hS17⟩
  refine ⟨_, rfl, hS17, ?_⟩
  clear hS
  have hS := hS17
  simp only [Act.put, List.setIfInBounds_toArray, List.set_cons_zero, List.set_cons_succ]
  refine held_val (i := 18) (.bool true) 225 rfl rfl (by kernel_rfl) (by kernel_rfl) (by kernel_rfl) (by rfl) (fun c a w hh => hQ c a _ _ w hh) hS ?_ ?_
  skip
  · (intro w hSw; go_simp; first | done | with_reducible rfl)
  simp only [Act.put, List.setIfInBounds_toArray, List.set_cons_zero, List.set_cons_succ]
  refine held_val (i := 19) (.bool true) 226 rfl rfl (by kernel_rfl) (by kernel_rfl) (by kernel_rfl) (by rfl) (fun c a w hh => hQ c a _ _ w hh) hS ?_ ?_
  skip
  · (intro w hSw; go_simp; first | done | with_reducible rfl)
  simp only [Act.put, List.setIfInBounds_toArray, List.set_cons_zero, List.set_cons_succ]
  refine held_val (i := 20) ?_ 227 rfl rfl (by kernel_rfl) (by kernel_rfl) (by kernel_rfl) (by rfl) (fun c a w hh => hQ c a _ _ w hh) hS ?_ ?_
  rotate_left
  · (intro w hSw; go_simp; first | done | with_reducible rfl)
  simp only [Act.put, List.setIfInBounds_toArray, List.set_cons_zero, List.set_cons_succ]
  refine held_val (i := 21) ?_ 228 rfl rfl (by kernel_rfl) (by kernel_rfl) (by kernel_rfl) (by rfl) (fun c a w hh => hQ c a _ _ w hh) hS ?_ ?_
  rotate_left
  · (intro w hSw; go_simp; first | done | with_reducible rfl)
  simp only [Act.put, List.setIfInBounds_toArray, List.set_cons_zero, List.set_cons_succ]
  refine held_val (i := 22) ?_ 229 rfl rfl (by kernel_rfl) (by kernel_rfl) (by kernel_rfl) (by rfl) (fun c a w hh => hQ c a _ _ w hh) hS ?_ ?_
  rotate_left
  · (intro w hSw; go_simp; first | done | with_reducible rfl)
  simp only [Act.put, List.setIfInBounds_toArray, List.set_cons_zero, List.set_cons_succ]
  refine held_val (i := 23) ?_ 230 rfl rfl (by kernel_rfl) (by kernel_rfl) (by kernel_rfl) (by rfl) (fun c a w hh => hQ c a _ _ w hh) hS ?_ ?_
  rotate_left
  · (intro w hSw; obtain ⟨k2, k3, k4, k5, k6, k7⟩ := HCL.out w hSw; go_simp; first | done | with_reducible rfl)
  simp only [Act.put, List.setIfInBounds_toArray, List.set_cons_zero, List.set_cons_succ]
  refine held_val (i := 24) ?_ 231 rfl rfl (by kernel_rfl) (by kernel_rfl) (by kernel_rfl) (by rfl) (fun c a w hh => hQ c a _ _ w hh) hS ?_ ?_
  rotate_left
  · (intro w hSw; go_simp; first | done | with_reducible rfl)
  simp only [Act.put, List.setIfInBounds_toArray, List.set_cons_zero, List.set_cons_succ]
  refine held_val (i := 25) ?_ 232 rfl rfl (by kernel_rfl) (by kernel_rfl) (by kernel_rfl) (by rfl) (fun c a w hh => hQ c a _ _ w hh) hS ?_ ?_
  rotate_left
  · (intro w hSw; go_simp; first | done | with_reducible rfl)
  simp only [Act.put, List.setIfInBounds_toArray, List.set_cons_zero, List.set_cons_succ]
  refine held_val (i := 26) ?_ 233 rfl rfl (by kernel_rfl) (by kernel_rfl) (by kernel_rfl) (by rfl) (fun c a w hh => hQ c a _ _ w hh) hS ?_ ?_
  rotate_left
  · (intro w hSw; obtain ⟨k2, k3, k4, k5, k6, k7⟩ := HCL.out w hSw; go_simp; first | done | with_reducible rfl)
  simp only [Act.put, List.setIfInBounds_toArray, List.set_cons_zero, List.set_cons_succ]
  refine held_val (i := 28) ?_ 235 rfl rfl (by kernel_rfl) (by kernel_rfl) (by kernel_rfl) (by rfl) (fun c a w hh => hQ c a _ _ w hh) hS ?_ ?_
  rotate_left
  · (intro w hSw; obtain ⟨k2, k3, k4, k5, k6, k7⟩ := HCL.out w hSw; go_simp; first | done | with_reducible rfl)
  simp only [Act.put, List.setIfInBounds_toArray, List.set_cons_zero, List.set_cons_succ]
  refine held_val (i := 29) ?_ 236 rfl rfl (by kernel_rfl) (by kernel_rfl) (by kernel_rfl) (by rfl) (fun c a w hh => hQ c a _ _ w hh) hS ?_ ?_
  rotate_left
  · (intro w hSw; go_simp; first | done | with_reducible rfl)
  simp only [Act.put, List.setIfInBounds_toArray, List.set_cons_zero, List.set_cons_succ]
  refine held_val (i := 30) ?_ 237 rfl rfl (by kernel_rfl) (by kernel_rfl) (by kernel_rfl) (by rfl) (fun c a w hh => hQ c a _ _ w hh) hS ?_ ?_
  rotate_left
  · (intro w hSw; go_simp; first | done | with_reducible rfl)
  simp only [Act.put, List.setIfInBounds_toArray, List.set_cons_zero, List.set_cons_succ]
  refine held_val (i := 31) ?_ 238 rfl rfl (by kernel_rfl) (by kernel_rfl) (by kernel_rfl) (by rfl) (fun c a w hh => hQ c a _ _ w hh) hS ?_ ?_
  rotate_left
  · (intro w hSw; obtain ⟨k2, k3, k4, k5, k6, k7⟩ := HCL.out w hSw; go_simp; first | done | with_reducible rfl)
  simp only [Act.put, List.setIfInBounds_toArray, List.set_cons_zero, List.set_cons_succ]
  refine held_val (i := 32) ?_ 239 rfl rfl (by kernel_rfl) (by kernel_rfl) (by kernel_rfl) (by rfl) (fun c a w hh => hQ c a _ _ w hh) hS ?_ ?_
  rotate_left
  · (intro w hSw; go_simp; first | done | with_reducible rfl)
  simp only [Act.put, List.setIfInBounds_toArray, List.set_cons_zero, List.set_cons_succ]
  refine held_val (i := 33) ?_ 240 rfl rfl (by kernel_rfl) (by kernel_rfl) (by kernel_rfl) (by rfl) (fun c a w hh => hQ c a _ _ w hh) hS ?_ ?_
  rotate_left
  · (intro w hSw; go_simp; first | done | with_reducible rfl)
  simp only [Act.put, List.setIfInBounds_toArray, List.set_cons_zero, List.set_cons_succ]
  refine held_val (i := 34) ?_ 241 rfl rfl (by kernel_rfl) (by kernel_rfl) (by kernel_rfl) (by rfl) (fun c a w hh => hQ c a _ _ w hh) hS ?_ ?_
  rotate_left
  · (intro w hSw; obtain ⟨k2, k3, k4, k5, k6, k7⟩ := HCL.out w hSw; go_simp; first | done | with_reducible rfl)
  simp only [Act.put, List.setIfInBounds_toArray, List.set_cons_zero, List.set_cons_succ]
  refine held_call (i := 27) 234 15 #[qp q, .int .i64 xc, .int .i64 xp] rfl rfl (by kernel_rfl) (by rfl) (by simp [go_sem]) (HB.out _ hS) ?_
  rintro e w27 ⟨rfl, hS27⟩
  refine ⟨_, rfl, hS27, ?_⟩
  clear hS
  have hS := hS27
  simp only [Act.put, List.setIfInBounds_toArray, List.set_cons_zero, List.set_cons_succ]
  refine held_call (i := 35) 242 32 #[.agg #[.slice a1 n1 c1, .slice a2 n2 c2], .int .i64 xc, .int .i64 xp] rfl rfl (by kernel_rfl) (by rfl) (by simp [go_sem]) (HC.out _ hS) ?_
  rintro e w35 ⟨rfl, hS35⟩
  refine ⟨_, rfl, hS35, ?_⟩
  clear hS
  have hS := hS35
  simp only [Act.put, List.setIfInBounds_toArray, List.set_cons_zero, List.set_cons_succ]
  refine held_val (i := 36) (.bool true) 243 rfl rfl (by kernel_rfl) (by kernel_rfl) (by kernel_rfl) (by rfl) (fun c a w hh => hQ c a _ _ w hh) hS ?_ ?_
  skip
  · (intro w hSw; go_simp; first | done | with_reducible rfl)
  simp only [Act.put, List.setIfInBounds_toArray, List.set_cons_zero, List.set_cons_succ]
  refine held_val (i := 37) (.bool true) 244 rfl rfl (by kernel_rfl) (by kernel_rfl) (by kernel_rfl) (by rfl) (fun c a w hh => hQ c a _ _ w hh) hS ?_ ?_
  skip
  · (intro w hSw; go_simp; first | done | with_reducible rfl)
  simp only [Act.put, List.setIfInBounds_toArray, List.set_cons_zero, List.set_cons_succ]
  refine held_val (i := 38) (.bool true) 4 rfl rfl (by kernel_rfl) (by kernel_rfl) (by kernel_rfl) (by rfl) (fun c a w hh => hQ c a _ _ w hh) hS ?_ ?_
  skip
  · (intro w hSw; go_simp; first | done | with_reducible rfl)
  simp only [Act.put, List.setIfInBounds_toArray, List.set_cons_zero, List.set_cons_succ]
  refine wpAnyH_done (by kernel_rfl) ?_ _
  exact h _ _ _ _ _ _ _ _ _ _ _ _ _ _ _ _ _ _ _ _ _ _ _ _ _ _ _ _ _ _ _ _ _ _ _ _ _ _ _ hS

end Go.Proofs.Ytcjajckmcikhcaa
