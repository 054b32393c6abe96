/- What is held behind each step: the walk of the long test. -/
import Derived.Test.YtgdlejeopdipiaaOb
namespace Go.Proofs.Ytgdlejeopdipiaa
open Go.RowKit
set_option linter.unusedVariables false

/-- The first region of this number in a function's text. -/
def regionOf (n : Nat) : Code → Option Code
  | .loop c => regionOf n c
  | .seq a b => match regionOf n a with
    | some c => some c
    | none => regionOf n b
  | .block _ c => regionOf n c
  | .scope c => regionOf n c
  | .cond _ a b => match regionOf n a with
    | some c => some c
    | none => regionOf n b
  | .region m ops d => if m = n then some (.region m ops d) else none
  | _ => none
noncomputable def onceReg : Code := (Try.f5.body.bind (regionOf 36)).getD .skip

set_option maxRecDepth 1000000 in
set_option maxHeartbeats 12800000 in
theorem once_reg0 (P0 : PkG) (w wj : World) (ge g0 g1 q6 k n1 : Nat) (X' Y' : En) (In0' In1' : List (List Nat)) (Ws' : List PkG) (R' : Nat → Option Addr × Nat) (ao' : Option Addr) (cap' nw' : Nat) (HL9 : Hid (k < n1)) (hm : n1 ≤ 150) (HJ : Hid (St wj w.heap.size ge g0 g1 q6 (q6 + 1) P0 X' Y' In0' In1' Ws' (.slice ao' nw' cap') R' ∧ Ws'.length = nw' ∧ In0'.length ≤ k + 1 ∧ In1'.length ≤ k + 1)) (hbj : Below w.heap.size w wj)
    (u0 u1 u2 u3 u4 u8 u9 u10 u11 u12 u13 u14 u17 u18 u19 u20 u21 u22 u23 u24 u25 u26 u27 u28 u29 u30 u31 u32 u33 u34 u35 u36 u37 u38 u39 u40 u41 u42 u43 u44 u45 u46 u47 u48 u49 u50 u51 u52 u53 u54 u55 u56 u57 u58 u59 u60 u61 u62 u63 u64 u65 u66 u67 u68 u69 u70 u71 u72 u73 u74 u75 u76 u77 u78 u79 u80 u81 u82 u83 u84 u85 u86 u87 u88 u89 u90 u91 u92 u93 u94 u95 u96 u97 u98 u99 u100 u101 u102 u103 u104 u105 u106 u107 u108 u109 u110 u111 u112 u113 u114 u115 u116 u117 u118 u119 u120 u121 u122 u123 u124 u125 u126 u127 u128 u129 u130 u131 u132 u133 u134 u135 u136 u137 u138 u139 u140 u141 u142 u143 u144 u145 u146 u147 u148 u149 u150 u151 u152 u153 u154 u155 u156 u157 u158 u159 u160 u161 u162 u163 u164 u165 u166 u167 u168 u169 u170 u171 u172 u173 u174 u175 u176 u177 u178 u179 u180 u181 u182 u183 u184 u185 u186 u187 u188 u189 u190 u191 u192 u193 u194 u195 u196 u197 u198 u199 u200 u201 u202 u203 u204 u205 u206 u207 u208 u209 u210 u211 u212 u213 u214 u215 u216 u217 u218 u219 u220 u221 u222 u223 u224 u225 u226 u227 u228 u229 : Value) (Q : Exit → Act → World → Prop) (h : ∀ (x175 x176 x177 x178 x179 x180 x181 x182 x183 x184 x185 x186 x187 x188 x189 x190 x191 x192 x193 x194 x195 x196 x197 x198 x199 x200 x201 x202 x203 x204 x205 x206 x207 x208 x209 : Value) (w' : World), Below wj.heap.size wj w' → Q .normal ⟨#[u0, u1, u2, u3, u4, .pointer (some ⟨ge, 0, none⟩), .pointer (some ⟨q6, 0, none⟩), .pointer (some ⟨q6 + 1, 0, none⟩), u8, u9, u10, u11, u12, u13, u14, .int .i64 0, .int .i64 1, u17, u18, u19, u20, u21, u22, u23, u24, u25, u26, u27, u28, u29, u30, u31, u32, u33, u34, u35, u36, u37, u38, u39, u40, u41, u42, u43, u44, u45, u46, u47, u48, u49, u50, u51, u52, u53, u54, u55, u56, u57, u58, u59, u60, u61, u62, u63, u64, u65, u66, u67, u68, u69, u70, u71, u72, u73, u74, u75, u76, u77, u78, u79, u80, u81, u82, u83, u84, u85, u86, u87, u88, u89, u90, u91, u92, u93, u94, u95, u96, u97, u98, u99, u100, u101, u102, u103, u104, u105, u106, u107, u108, u109, u110, u111, u112, u113, u114, u115, u116, u117, u118, u119, u120, u121, u122, u123, u124, u125, u126, u127, u128, u129, u130, u131, u132, u133, u134, u135, u136, u137, u138, u139, u140, u141, u142, u143, u144, u145, u146, u147, u148, u149, u150, u151, u152, u153, u154, u155, u156, u157, u158, u159, u160, u161, u162, u163, u164, u165, u166, u167, u168, u169, u170, u171, u172, u173, u174, x175, x176, x177, x178, x179, x180, x181, x182, x183, x184, x185, x186, x187, x188, x189, x190, x191, x192, x193, x194, x195, x196, x197, x198, x199, x200, x201, x202, x203, x204, x205, x206, x207, x208, x209, .bool false, u211, u212, u213, u214, u215, u216, u217, u218, u219, u220, u221, u222, u223, u224, u225, u226, u227, u228, u229], []⟩ w') :
    Code.wp Try.prog onceReg Q ⟨#[u0, u1, u2, u3, u4, .pointer (some ⟨ge, 0, none⟩), .pointer (some ⟨q6, 0, none⟩), .pointer (some ⟨q6 + 1, 0, none⟩), u8, u9, u10, u11, u12, u13, u14, .int .i64 0, .int .i64 1, u17, u18, u19, u20, u21, u22, u23, u24, u25, u26, u27, u28, u29, u30, u31, u32, u33, u34, u35, u36, u37, u38, u39, u40, u41, u42, u43, u44, u45, u46, u47, u48, u49, u50, u51, u52, u53, u54, u55, u56, u57, u58, u59, u60, u61, u62, u63, u64, u65, u66, u67, u68, u69, u70, u71, u72, u73, u74, u75, u76, u77, u78, u79, u80, u81, u82, u83, u84, u85, u86, u87, u88, u89, u90, u91, u92, u93, u94, u95, u96, u97, u98, u99, u100, u101, u102, u103, u104, u105, u106, u107, u108, u109, u110, u111, u112, u113, u114, u115, u116, u117, u118, u119, u120, u121, u122, u123, u124, u125, u126, u127, u128, u129, u130, u131, u132, u133, u134, u135, u136, u137, u138, u139, u140, u141, u142, u143, u144, u145, u146, u147, u148, u149, u150, u151, u152, u153, u154, u155, u156, u157, u158, u159, u160, u161, u162, u163, u164, u165, u166, u167, u168, u169, u170, u171, u172, u173, u174, u175, u176, u177, u178, u179, u180, u181, u182, u183, u184, u185, u186, u187, u188, u189, u190, u191, u192, u193, u194, u195, u196, u197, u198, u199, u200, u201, u202, u203, u204, u205, u206, u207, u208, u209, u210, u211, u212, u213, u214, u215, u216, u217, u218, u219, u220, u221, u222, u223, u224, u225, u226, u227, u228, u229], []⟩ wj := by
  conv => arg 2; whnf
  have hdd := HJ.out.1.inv.d1
  have hl1 := hdd.len
  have hl2 := hdd.kn
  have hl3 := hdd.hs
  have hl4 := hdd.le
  have hl5 : In1'.length ≤ k + 1 := HJ.out.2.2.2
  have hl6 := HL9.out
  have e1' : decide ((X'.h : Int) > (In1'.length : Int)) = false := by simp; omega
  have e2' : decide ((Y'.n : Int) < (In1'.length : Int) - (X'.h : Int)) = false := by simp; omega
  have e1a : decide ((In1'.length : Int) < (X'.h : Int)) = false := by simp; omega
  have e1b : ¬ (In1'.length < X'.h) := by omega
  have e1c : ¬ (((In1'.length : Int)) < ((X'.h : Int))) := by omega
  have e2c : ¬ ((Y'.n : Int) < (In1'.length : Int) - (X'.h : Int)) := by omega
  have e3' : ((X'.h : Int) != (X'.h : Int)) = false := by simp
  have hLr : (LsF In0' In1' X'.h Y'.h 2).length = X'.h := by simp [LsF]; omega
  have HCL : Hid (∀ W, Below wj.heap.size wj W → W.cell? ⟨ge, 0, none⟩ = some (lp g0) ∧ W.cell? ⟨ge, 1, none⟩ = some (lp g1) ∧ W.cell? ⟨q6 + 1, 0, none⟩ = some (.slice (R' 2).1 X'.h (R' 2).2) ∧ W.cell? ⟨q6, 1, none⟩ = some (.slice (R' 1).1 In1'.length (R' 1).2)) := fun W hW => by
    have h1 := HJ.out.1.below hW
    have h2 := h1.str.hcell 2 (by decide)
    rw [hLr] at h2
    exact ⟨h1.duo.e0, h1.duo.e1, h2, h1.str.hcell 1 (by decide)⟩
  have K19 : Hid (∀ W, Below wj.heap.size wj W → Calls Try.prog 19 #[lp g1] W fun e w' => e = .returned (.int .i64 (Y'.n : Int)) ∧ Below wj.heap.size wj w') := fun W hW => (open_any _ _ _ _ _ _ _ _ _ _ _ (HJ.out.1.below hW).duo.k1).mono (by rintro e w' ⟨rfl, rfl⟩; exact ⟨rfl, hW⟩)
  have K20 : Hid (∀ W, Below wj.heap.size wj W → Calls Try.prog 20 #[lp g0] W fun e w' => e = .returned (.int .i64 (X'.h : Int)) ∧ Below wj.heap.size wj w') := fun W hW => (heard_any _ _ _ _ _ _ _ _ _ _ _ (HJ.out.1.below hW).duo.k0).mono (by rintro e w' ⟨rfl, rfl⟩; exact ⟨rfl, hW⟩)
  clear hdd
  refine wp_region_sure (fun W => Below wj.heap.size wj W) (by kernel_rfl) (bel0 wj) ?_
  refine Sure.val (i := 0) ?_ 175 rfl rfl (by kernel_rfl) (by kernel_rfl) (by kernel_rfl) (by rfl) ?_ ?_
  rotate_left
  · (intro w hSw; go_simp; first | done | with_reducible rfl | (rw [IntKind.wrap_i64]; omega))
  simp only [Act.put, List.setIfInBounds_toArray, List.set_cons_zero, List.set_cons_succ]
  refine Sure.val (i := 1) ?_ 176 rfl rfl (by kernel_rfl) (by kernel_rfl) (by kernel_rfl) (by rfl) ?_ ?_
  rotate_left
  · (intro w hSw; go_simp; first | done | with_reducible rfl | (rw [IntKind.wrap_i64]; omega))
  simp only [Act.put, List.setIfInBounds_toArray, List.set_cons_zero, List.set_cons_succ]
  refine Sure.val (i := 2) ?_ 177 rfl rfl (by kernel_rfl) (by kernel_rfl) (by kernel_rfl) (by rfl) ?_ ?_
  rotate_left
  · (intro w hSw; obtain ⟨c1, c2, c3, c4⟩ := HCL.out w hSw; go_simp; first | done | with_reducible rfl | (rw [IntKind.wrap_i64]; omega))
  simp only [Act.put, List.setIfInBounds_toArray, List.set_cons_zero, List.set_cons_succ]
  refine Sure.val (i := 3) ?_ 178 rfl rfl (by kernel_rfl) (by kernel_rfl) (by kernel_rfl) (by rfl) ?_ ?_
  rotate_left
  · (intro w hSw; go_simp; first | done | with_reducible rfl | (rw [IntKind.wrap_i64]; omega))
  simp only [Act.put, List.setIfInBounds_toArray, List.set_cons_zero, List.set_cons_succ]
  refine Sure.val (i := 4) ?_ 179 rfl rfl (by kernel_rfl) (by kernel_rfl) (by kernel_rfl) (by rfl) ?_ ?_
  rotate_left
  · (intro w hSw; go_simp; first | done | with_reducible rfl | (rw [IntKind.wrap_i64]; omega))
  simp only [Act.put, List.setIfInBounds_toArray, List.set_cons_zero, List.set_cons_succ]
  refine Sure.val (i := 5) ?_ 180 rfl rfl (by kernel_rfl) (by kernel_rfl) (by kernel_rfl) (by rfl) ?_ ?_
  rotate_left
  · (intro w hSw; go_simp; first | done | with_reducible rfl | (rw [IntKind.wrap_i64]; omega))
  simp only [Act.put, List.setIfInBounds_toArray, List.set_cons_zero, List.set_cons_succ]
  refine Sure.val (i := 6) ?_ 181 rfl rfl (by kernel_rfl) (by kernel_rfl) (by kernel_rfl) (by rfl) ?_ ?_
  rotate_left
  · (intro w hSw; obtain ⟨c1, c2, c3, c4⟩ := HCL.out w hSw; go_simp; first | done | with_reducible rfl | (rw [IntKind.wrap_i64]; omega))
  simp only [Act.put, List.setIfInBounds_toArray, List.set_cons_zero, List.set_cons_succ]
  refine Sure.val (i := 7) ?_ 182 rfl rfl (by kernel_rfl) (by kernel_rfl) (by kernel_rfl) (by rfl) ?_ ?_
  rotate_left
  · (intro w hSw; go_simp; first | done | with_reducible rfl | (rw [IntKind.wrap_i64]; omega))
  simp only [Act.put, List.setIfInBounds_toArray, List.set_cons_zero, List.set_cons_succ]
  refine Sure.val (i := 8) (.bool false) 183 rfl rfl (by kernel_rfl) (by kernel_rfl) (by kernel_rfl) (by rfl) ?_ ?_
  · (intro w hSw; go_simp; first | done | with_reducible rfl | (rw [IntKind.wrap_i64]; omega))
  simp only [Act.put, List.setIfInBounds_toArray, List.set_cons_zero, List.set_cons_succ]
  refine Sure.val (i := 9) (.bool false) 184 rfl rfl (by kernel_rfl) (by kernel_rfl) (by kernel_rfl) (by rfl) ?_ ?_
  · (intro w hSw; go_simp; first | done | with_reducible rfl | (rw [IntKind.wrap_i64]; omega))
  simp only [Act.put, List.setIfInBounds_toArray, List.set_cons_zero, List.set_cons_succ]
  refine Sure.val (i := 10) ?_ 185 rfl rfl (by kernel_rfl) (by kernel_rfl) (by kernel_rfl) (by rfl) ?_ ?_
  rotate_left
  · (intro w hSw; go_simp; first | done | with_reducible rfl | (rw [IntKind.wrap_i64]; omega))
  simp only [Act.put, List.setIfInBounds_toArray, List.set_cons_zero, List.set_cons_succ]
  refine Sure.val (i := 11) ?_ 186 rfl rfl (by kernel_rfl) (by kernel_rfl) (by kernel_rfl) (by rfl) ?_ ?_
  rotate_left
  · (intro w hSw; go_simp; first | done | with_reducible rfl | (rw [IntKind.wrap_i64]; omega))
  simp only [Act.put, List.setIfInBounds_toArray, List.set_cons_zero, List.set_cons_succ]
  refine Sure.val (i := 12) ?_ 187 rfl rfl (by kernel_rfl) (by kernel_rfl) (by kernel_rfl) (by rfl) ?_ ?_
  rotate_left
  · (intro w hSw; obtain ⟨c1, c2, c3, c4⟩ := HCL.out w hSw; go_simp; first | done | with_reducible rfl | (rw [IntKind.wrap_i64]; omega))
  simp only [Act.put, List.setIfInBounds_toArray, List.set_cons_zero, List.set_cons_succ]
  refine Sure.call (i := 13) (.int .i64 (Y'.n : Int)) 188 19 #[lp g1] rfl rfl (by kernel_rfl) (by kernel_rfl) (by kernel_rfl) (by rfl) (fun w hSw => by simp [go_sem]) K19.out ?_
  simp only [Act.put, List.setIfInBounds_toArray, List.set_cons_zero, List.set_cons_succ]
  refine Sure.val (i := 14) ?_ 189 rfl rfl (by kernel_rfl) (by kernel_rfl) (by kernel_rfl) (by rfl) ?_ ?_
  rotate_left
  · (intro w hSw; go_simp; first | done | with_reducible rfl | (rw [IntKind.wrap_i64]; omega))
  simp only [Act.put, List.setIfInBounds_toArray, List.set_cons_zero, List.set_cons_succ]
  refine Sure.val (i := 15) ?_ 190 rfl rfl (by kernel_rfl) (by kernel_rfl) (by kernel_rfl) (by rfl) ?_ ?_
  rotate_left
  · (intro w hSw; go_simp; first | done | with_reducible rfl | (rw [IntKind.wrap_i64]; omega))
  simp only [Act.put, List.setIfInBounds_toArray, List.set_cons_zero, List.set_cons_succ]
  refine Sure.val (i := 16) ?_ 191 rfl rfl (by kernel_rfl) (by kernel_rfl) (by kernel_rfl) (by rfl) ?_ ?_
  rotate_left
  · (intro w hSw; obtain ⟨c1, c2, c3, c4⟩ := HCL.out w hSw; go_simp; first | done | with_reducible rfl | (rw [IntKind.wrap_i64]; omega))
  simp only [Act.put, List.setIfInBounds_toArray, List.set_cons_zero, List.set_cons_succ]
  refine Sure.val (i := 17) ?_ 192 rfl rfl (by kernel_rfl) (by kernel_rfl) (by kernel_rfl) (by rfl) ?_ ?_
  rotate_left
  · (intro w hSw; go_simp; first | done | with_reducible rfl | (rw [IntKind.wrap_i64]; omega))
  simp only [Act.put, List.setIfInBounds_toArray, List.set_cons_zero, List.set_cons_succ]
  refine Sure.val (i := 18) ?_ 193 rfl rfl (by kernel_rfl) (by kernel_rfl) (by kernel_rfl) (by rfl) ?_ ?_
  rotate_left
  · (intro w hSw; go_simp; first | done | with_reducible rfl | (rw [IntKind.wrap_i64]; omega))
  simp only [Act.put, List.setIfInBounds_toArray, List.set_cons_zero, List.set_cons_succ]
  refine Sure.val (i := 19) ?_ 194 rfl rfl (by kernel_rfl) (by kernel_rfl) (by kernel_rfl) (by rfl) ?_ ?_
  rotate_left
  · (intro w hSw; go_simp; first | done | with_reducible rfl | (rw [IntKind.wrap_i64]; omega))
  simp only [Act.put, List.setIfInBounds_toArray, List.set_cons_zero, List.set_cons_succ]
  refine Sure.val (i := 20) ?_ 195 rfl rfl (by kernel_rfl) (by kernel_rfl) (by kernel_rfl) (by rfl) ?_ ?_
  rotate_left
  · (intro w hSw; obtain ⟨c1, c2, c3, c4⟩ := HCL.out w hSw; go_simp; first | done | with_reducible rfl | (rw [IntKind.wrap_i64]; omega))
  simp only [Act.put, List.setIfInBounds_toArray, List.set_cons_zero, List.set_cons_succ]
  refine Sure.val (i := 21) ?_ 196 rfl rfl (by kernel_rfl) (by kernel_rfl) (by kernel_rfl) (by rfl) ?_ ?_
  rotate_left
  · (intro w hSw; go_simp; first | done | with_reducible rfl | (rw [IntKind.wrap_i64]; omega))
  simp only [Act.put, List.setIfInBounds_toArray, List.set_cons_zero, List.set_cons_succ]
  refine Sure.val (i := 22) ?_ 197 rfl rfl (by kernel_rfl) (by kernel_rfl) (by kernel_rfl) (by rfl) ?_ ?_
  rotate_left
  · (intro w hSw; go_simp; first | done | with_reducible rfl | (rw [IntKind.wrap_i64]; omega))
  simp only [Act.put, List.setIfInBounds_toArray, List.set_cons_zero, List.set_cons_succ]
  refine Sure.val (i := 23) (.bool false) 198 rfl rfl (by kernel_rfl) (by kernel_rfl) (by kernel_rfl) (by rfl) ?_ ?_
  · (intro w hSw; go_simp; first | done | with_reducible rfl | (rw [IntKind.wrap_i64]; omega))
  simp only [Act.put, List.setIfInBounds_toArray, List.set_cons_zero, List.set_cons_succ]
  refine Sure.val (i := 24) (.bool false) 199 rfl rfl (by kernel_rfl) (by kernel_rfl) (by kernel_rfl) (by rfl) ?_ ?_
  · (intro w hSw; go_simp; first | done | with_reducible rfl | (rw [IntKind.wrap_i64]; omega))
  simp only [Act.put, List.setIfInBounds_toArray, List.set_cons_zero, List.set_cons_succ]
  refine Sure.val (i := 25) (.bool false) 200 rfl rfl (by kernel_rfl) (by kernel_rfl) (by kernel_rfl) (by rfl) ?_ ?_
  · (intro w hSw; go_simp; first | done | with_reducible rfl | (rw [IntKind.wrap_i64]; omega))
  simp only [Act.put, List.setIfInBounds_toArray, List.set_cons_zero, List.set_cons_succ]
  refine Sure.val (i := 26) ?_ 201 rfl rfl (by kernel_rfl) (by kernel_rfl) (by kernel_rfl) (by rfl) ?_ ?_
  rotate_left
  · (intro w hSw; go_simp; first | done | with_reducible rfl | (rw [IntKind.wrap_i64]; omega))
  simp only [Act.put, List.setIfInBounds_toArray, List.set_cons_zero, List.set_cons_succ]
  refine Sure.val (i := 27) ?_ 202 rfl rfl (by kernel_rfl) (by kernel_rfl) (by kernel_rfl) (by rfl) ?_ ?_
  rotate_left
  · (intro w hSw; go_simp; first | done | with_reducible rfl | (rw [IntKind.wrap_i64]; omega))
  simp only [Act.put, List.setIfInBounds_toArray, List.set_cons_zero, List.set_cons_succ]
  refine Sure.val (i := 28) ?_ 203 rfl rfl (by kernel_rfl) (by kernel_rfl) (by kernel_rfl) (by rfl) ?_ ?_
  rotate_left
  · (intro w hSw; obtain ⟨c1, c2, c3, c4⟩ := HCL.out w hSw; go_simp; first | done | with_reducible rfl | (rw [IntKind.wrap_i64]; omega))
  simp only [Act.put, List.setIfInBounds_toArray, List.set_cons_zero, List.set_cons_succ]
  refine Sure.call (i := 29) (.int .i64 (X'.h : Int)) 204 20 #[lp g0] rfl rfl (by kernel_rfl) (by kernel_rfl) (by kernel_rfl) (by rfl) (fun w hSw => by simp [go_sem]) K20.out ?_
  simp only [Act.put, List.setIfInBounds_toArray, List.set_cons_zero, List.set_cons_succ]
  refine Sure.val (i := 30) ?_ 205 rfl rfl (by kernel_rfl) (by kernel_rfl) (by kernel_rfl) (by rfl) ?_ ?_
  rotate_left
  · (intro w hSw; go_simp; first | done | with_reducible rfl | (rw [IntKind.wrap_i64]; omega))
  simp only [Act.put, List.setIfInBounds_toArray, List.set_cons_zero, List.set_cons_succ]
  refine Sure.val (i := 31) ?_ 206 rfl rfl (by kernel_rfl) (by kernel_rfl) (by kernel_rfl) (by rfl) ?_ ?_
  rotate_left
  · (intro w hSw; go_simp; first | done | with_reducible rfl | (rw [IntKind.wrap_i64]; omega))
  simp only [Act.put, List.setIfInBounds_toArray, List.set_cons_zero, List.set_cons_succ]
  refine Sure.val (i := 32) ?_ 207 rfl rfl (by kernel_rfl) (by kernel_rfl) (by kernel_rfl) (by rfl) ?_ ?_
  rotate_left
  · (intro w hSw; obtain ⟨c1, c2, c3, c4⟩ := HCL.out w hSw; go_simp; first | done | with_reducible rfl | (rw [IntKind.wrap_i64]; omega))
  simp only [Act.put, List.setIfInBounds_toArray, List.set_cons_zero, List.set_cons_succ]
  refine Sure.val (i := 33) ?_ 208 rfl rfl (by kernel_rfl) (by kernel_rfl) (by kernel_rfl) (by rfl) ?_ ?_
  rotate_left
  · (intro w hSw; go_simp; first | done | with_reducible rfl | (rw [IntKind.wrap_i64]; omega))
  simp only [Act.put, List.setIfInBounds_toArray, List.set_cons_zero, List.set_cons_succ]
  refine Sure.val (i := 34) (.bool false) 209 rfl rfl (by kernel_rfl) (by kernel_rfl) (by kernel_rfl) (by rfl) ?_ ?_
  · (intro w hSw; go_simp; first | done | with_reducible rfl | (rw [IntKind.wrap_i64]; omega))
  simp only [Act.put, List.setIfInBounds_toArray, List.set_cons_zero, List.set_cons_succ]
  refine Sure.val (i := 35) (.bool false) 210 rfl rfl (by kernel_rfl) (by kernel_rfl) (by kernel_rfl) (by rfl) ?_ ?_
  · (intro w hSw; go_simp; first | done | with_reducible rfl | (rw [IntKind.wrap_i64]; omega))
  simp only [Act.put, List.setIfInBounds_toArray, List.set_cons_zero, List.set_cons_succ]
  refine Sure.done (by kernel_rfl) ?_ _
  intro w' hSw'
  exact h _ _ _ _ _ _ _ _ _ _ _ _ _ _ _ _ _ _ _ _ _ _ _ _ _ _ _ _ _ _ _ _ _ _ _ w' hSw'

set_option maxRecDepth 1000000 in
set_option maxHeartbeats 12800000 in
theorem once_reg1 (P0 : PkG) (w wj : World) (ge g0 g1 q6 k n1 : Nat) (X' Y' : En) (In0' In1' : List (List Nat)) (Ws' : List PkG) (R' : Nat → Option Addr × Nat) (ao' : Option Addr) (cap' nw' : Nat) (HL9 : Hid (k < n1)) (hm : n1 ≤ 150) (HJ : Hid (St wj w.heap.size ge g0 g1 q6 (q6 + 1) P0 X' Y' In0' In1' Ws' (.slice ao' nw' cap') R' ∧ Ws'.length = nw' ∧ In0'.length ≤ k + 1 ∧ In1'.length ≤ k + 1)) (hbj : Below w.heap.size w wj)
    (u0 u1 u2 u3 u4 u8 u9 u10 u11 u12 u13 u14 u17 u18 u19 u20 u21 u22 u23 u24 u25 u26 u27 u28 u29 u30 u31 u32 u33 u34 u35 u36 u37 u38 u39 u40 u41 u42 u43 u44 u45 u46 u47 u48 u49 u50 u51 u52 u53 u54 u55 u56 u57 u58 u59 u60 u61 u62 u63 u64 u65 u66 u67 u68 u69 u70 u71 u72 u73 u74 u75 u76 u77 u78 u79 u80 u81 u82 u83 u84 u85 u86 u87 u88 u89 u90 u91 u92 u93 u94 u95 u96 u97 u98 u99 u100 u101 u102 u103 u104 u105 u106 u107 u108 u109 u110 u111 u112 u113 u114 u115 u116 u117 u118 u119 u120 u121 u122 u123 u124 u125 u126 u127 u128 u129 u130 u131 u132 u133 u134 u135 u136 u137 u138 u139 u140 u141 u142 u143 u144 u145 u146 u147 u148 u149 u150 u151 u152 u153 u154 u155 u156 u157 u158 u159 u160 u161 u162 u163 u164 u165 u166 u167 u168 u169 u170 u171 u172 u173 u174 u175 u176 u177 u178 u179 u180 u181 u182 u183 u184 u185 u186 u187 u188 u189 u190 u191 u192 u193 u194 u195 u196 u197 u198 u199 u200 u201 u202 u203 u204 u205 u206 u207 u208 u209 u210 u211 u212 u213 u214 u215 u216 u217 u218 u219 u220 u221 u222 u223 u224 u225 u226 u227 u228 u229 : Value) (Q : Exit → Act → World → Prop) (h : ∀ (x175 x176 x177 x178 x179 x180 x181 x182 x183 x184 x185 x186 x187 x188 x189 x190 x191 x192 x193 x194 x195 x196 x197 x198 x199 x200 x201 x202 x203 x204 x205 x206 x207 x208 x209 : Value) (w' : World), Below wj.heap.size wj w' → Q .normal ⟨#[u0, u1, u2, u3, u4, .pointer (some ⟨ge, 0, none⟩), .pointer (some ⟨q6, 0, none⟩), .pointer (some ⟨q6 + 1, 0, none⟩), u8, u9, u10, u11, u12, u13, u14, .int .i64 1, .int .i64 0, u17, u18, u19, u20, u21, u22, u23, u24, u25, u26, u27, u28, u29, u30, u31, u32, u33, u34, u35, u36, u37, u38, u39, u40, u41, u42, u43, u44, u45, u46, u47, u48, u49, u50, u51, u52, u53, u54, u55, u56, u57, u58, u59, u60, u61, u62, u63, u64, u65, u66, u67, u68, u69, u70, u71, u72, u73, u74, u75, u76, u77, u78, u79, u80, u81, u82, u83, u84, u85, u86, u87, u88, u89, u90, u91, u92, u93, u94, u95, u96, u97, u98, u99, u100, u101, u102, u103, u104, u105, u106, u107, u108, u109, u110, u111, u112, u113, u114, u115, u116, u117, u118, u119, u120, u121, u122, u123, u124, u125, u126, u127, u128, u129, u130, u131, u132, u133, u134, u135, u136, u137, u138, u139, u140, u141, u142, u143, u144, u145, u146, u147, u148, u149, u150, u151, u152, u153, u154, u155, u156, u157, u158, u159, u160, u161, u162, u163, u164, u165, u166, u167, u168, u169, u170, u171, u172, u173, u174, x175, x176, x177, x178, x179, x180, x181, x182, x183, x184, x185, x186, x187, x188, x189, x190, x191, x192, x193, x194, x195, x196, x197, x198, x199, x200, x201, x202, x203, x204, x205, x206, x207, x208, x209, .bool false, u211, u212, u213, u214, u215, u216, u217, u218, u219, u220, u221, u222, u223, u224, u225, u226, u227, u228, u229], []⟩ w') :
    Code.wp Try.prog onceReg Q ⟨#[u0, u1, u2, u3, u4, .pointer (some ⟨ge, 0, none⟩), .pointer (some ⟨q6, 0, none⟩), .pointer (some ⟨q6 + 1, 0, none⟩), u8, u9, u10, u11, u12, u13, u14, .int .i64 1, .int .i64 0, u17, u18, u19, u20, u21, u22, u23, u24, u25, u26, u27, u28, u29, u30, u31, u32, u33, u34, u35, u36, u37, u38, u39, u40, u41, u42, u43, u44, u45, u46, u47, u48, u49, u50, u51, u52, u53, u54, u55, u56, u57, u58, u59, u60, u61, u62, u63, u64, u65, u66, u67, u68, u69, u70, u71, u72, u73, u74, u75, u76, u77, u78, u79, u80, u81, u82, u83, u84, u85, u86, u87, u88, u89, u90, u91, u92, u93, u94, u95, u96, u97, u98, u99, u100, u101, u102, u103, u104, u105, u106, u107, u108, u109, u110, u111, u112, u113, u114, u115, u116, u117, u118, u119, u120, u121, u122, u123, u124, u125, u126, u127, u128, u129, u130, u131, u132, u133, u134, u135, u136, u137, u138, u139, u140, u141, u142, u143, u144, u145, u146, u147, u148, u149, u150, u151, u152, u153, u154, u155, u156, u157, u158, u159, u160, u161, u162, u163, u164, u165, u166, u167, u168, u169, u170, u171, u172, u173, u174, u175, u176, u177, u178, u179, u180, u181, u182, u183, u184, u185, u186, u187, u188, u189, u190, u191, u192, u193, u194, u195, u196, u197, u198, u199, u200, u201, u202, u203, u204, u205, u206, u207, u208, u209, u210, u211, u212, u213, u214, u215, u216, u217, u218, u219, u220, u221, u222, u223, u224, u225, u226, u227, u228, u229], []⟩ wj := by
  conv => arg 2; whnf
  have hdd := HJ.out.1.inv.d0
  have hl1 := hdd.len
  have hl2 := hdd.kn
  have hl3 := hdd.hs
  have hl4 := hdd.le
  have hl5 : In0'.length ≤ k + 1 := HJ.out.2.2.1
  have hl6 := HL9.out
  have e1' : decide ((Y'.h : Int) > (In0'.length : Int)) = false := by simp; omega
  have e2' : decide ((X'.n : Int) < (In0'.length : Int) - (Y'.h : Int)) = false := by simp; omega
  have e1a : decide ((In0'.length : Int) < (Y'.h : Int)) = false := by simp; omega
  have e1b : ¬ (In0'.length < Y'.h) := by omega
  have e1c : ¬ (((In0'.length : Int)) < ((Y'.h : Int))) := by omega
  have e2c : ¬ ((X'.n : Int) < (In0'.length : Int) - (Y'.h : Int)) := by omega
  have e3' : ((Y'.h : Int) != (Y'.h : Int)) = false := by simp
  have hLr : (LsF In0' In1' X'.h Y'.h 3).length = Y'.h := by simp [LsF]; omega
  have HCL : Hid (∀ W, Below wj.heap.size wj W → W.cell? ⟨ge, 1, none⟩ = some (lp g1) ∧ W.cell? ⟨ge, 0, none⟩ = some (lp g0) ∧ W.cell? ⟨q6 + 1, 1, none⟩ = some (.slice (R' 3).1 Y'.h (R' 3).2) ∧ W.cell? ⟨q6, 0, none⟩ = some (.slice (R' 0).1 In0'.length (R' 0).2)) := fun W hW => by
    have h1 := HJ.out.1.below hW
    have h2 := h1.str.hcell 3 (by decide)
    rw [hLr] at h2
    exact ⟨h1.duo.e1, h1.duo.e0, h2, h1.str.hcell 0 (by decide)⟩
  have K19 : Hid (∀ W, Below wj.heap.size wj W → Calls Try.prog 19 #[lp g0] W fun e w' => e = .returned (.int .i64 (X'.n : Int)) ∧ Below wj.heap.size wj w') := fun W hW => (open_any _ _ _ _ _ _ _ _ _ _ _ (HJ.out.1.below hW).duo.k0).mono (by rintro e w' ⟨rfl, rfl⟩; exact ⟨rfl, hW⟩)
  have K20 : Hid (∀ W, Below wj.heap.size wj W → Calls Try.prog 20 #[lp g1] W fun e w' => e = .returned (.int .i64 (Y'.h : Int)) ∧ Below wj.heap.size wj w') := fun W hW => (heard_any _ _ _ _ _ _ _ _ _ _ _ (HJ.out.1.below hW).duo.k1).mono (by rintro e w' ⟨rfl, rfl⟩; exact ⟨rfl, hW⟩)
  clear hdd
  refine wp_region_sure (fun W => Below wj.heap.size wj W) (by kernel_rfl) (bel0 wj) ?_
  refine Sure.val (i := 0) ?_ 175 rfl rfl (by kernel_rfl) (by kernel_rfl) (by kernel_rfl) (by rfl) ?_ ?_
  rotate_left
  · (intro w hSw; go_simp; first | done | with_reducible rfl | (rw [IntKind.wrap_i64]; omega))
  simp only [Act.put, List.setIfInBounds_toArray, List.set_cons_zero, List.set_cons_succ]
  refine Sure.val (i := 1) ?_ 176 rfl rfl (by kernel_rfl) (by kernel_rfl) (by kernel_rfl) (by rfl) ?_ ?_
  rotate_left
  · (intro w hSw; go_simp; first | done | with_reducible rfl | (rw [IntKind.wrap_i64]; omega))
  simp only [Act.put, List.setIfInBounds_toArray, List.set_cons_zero, List.set_cons_succ]
  refine Sure.val (i := 2) ?_ 177 rfl rfl (by kernel_rfl) (by kernel_rfl) (by kernel_rfl) (by rfl) ?_ ?_
  rotate_left
  · (intro w hSw; obtain ⟨c1, c2, c3, c4⟩ := HCL.out w hSw; go_simp; first | done | with_reducible rfl | (rw [IntKind.wrap_i64]; omega))
  simp only [Act.put, List.setIfInBounds_toArray, List.set_cons_zero, List.set_cons_succ]
  refine Sure.val (i := 3) ?_ 178 rfl rfl (by kernel_rfl) (by kernel_rfl) (by kernel_rfl) (by rfl) ?_ ?_
  rotate_left
  · (intro w hSw; go_simp; first | done | with_reducible rfl | (rw [IntKind.wrap_i64]; omega))
  simp only [Act.put, List.setIfInBounds_toArray, List.set_cons_zero, List.set_cons_succ]
  refine Sure.val (i := 4) ?_ 179 rfl rfl (by kernel_rfl) (by kernel_rfl) (by kernel_rfl) (by rfl) ?_ ?_
  rotate_left
  · (intro w hSw; go_simp; first | done | with_reducible rfl | (rw [IntKind.wrap_i64]; omega))
  simp only [Act.put, List.setIfInBounds_toArray, List.set_cons_zero, List.set_cons_succ]
  refine Sure.val (i := 5) ?_ 180 rfl rfl (by kernel_rfl) (by kernel_rfl) (by kernel_rfl) (by rfl) ?_ ?_
  rotate_left
  · (intro w hSw; go_simp; first | done | with_reducible rfl | (rw [IntKind.wrap_i64]; omega))
  simp only [Act.put, List.setIfInBounds_toArray, List.set_cons_zero, List.set_cons_succ]
  refine Sure.val (i := 6) ?_ 181 rfl rfl (by kernel_rfl) (by kernel_rfl) (by kernel_rfl) (by rfl) ?_ ?_
  rotate_left
  · (intro w hSw; obtain ⟨c1, c2, c3, c4⟩ := HCL.out w hSw; go_simp; first | done | with_reducible rfl | (rw [IntKind.wrap_i64]; omega))
  simp only [Act.put, List.setIfInBounds_toArray, List.set_cons_zero, List.set_cons_succ]
  refine Sure.val (i := 7) ?_ 182 rfl rfl (by kernel_rfl) (by kernel_rfl) (by kernel_rfl) (by rfl) ?_ ?_
  rotate_left
  · (intro w hSw; go_simp; first | done | with_reducible rfl | (rw [IntKind.wrap_i64]; omega))
  simp only [Act.put, List.setIfInBounds_toArray, List.set_cons_zero, List.set_cons_succ]
  refine Sure.val (i := 8) (.bool false) 183 rfl rfl (by kernel_rfl) (by kernel_rfl) (by kernel_rfl) (by rfl) ?_ ?_
  · (intro w hSw; go_simp; first | done | with_reducible rfl | (rw [IntKind.wrap_i64]; omega))
  simp only [Act.put, List.setIfInBounds_toArray, List.set_cons_zero, List.set_cons_succ]
  refine Sure.val (i := 9) (.bool false) 184 rfl rfl (by kernel_rfl) (by kernel_rfl) (by kernel_rfl) (by rfl) ?_ ?_
  · (intro w hSw; go_simp; first | done | with_reducible rfl | (rw [IntKind.wrap_i64]; omega))
  simp only [Act.put, List.setIfInBounds_toArray, List.set_cons_zero, List.set_cons_succ]
  refine Sure.val (i := 10) ?_ 185 rfl rfl (by kernel_rfl) (by kernel_rfl) (by kernel_rfl) (by rfl) ?_ ?_
  rotate_left
  · (intro w hSw; go_simp; first | done | with_reducible rfl | (rw [IntKind.wrap_i64]; omega))
  simp only [Act.put, List.setIfInBounds_toArray, List.set_cons_zero, List.set_cons_succ]
  refine Sure.val (i := 11) ?_ 186 rfl rfl (by kernel_rfl) (by kernel_rfl) (by kernel_rfl) (by rfl) ?_ ?_
  rotate_left
  · (intro w hSw; go_simp; first | done | with_reducible rfl | (rw [IntKind.wrap_i64]; omega))
  simp only [Act.put, List.setIfInBounds_toArray, List.set_cons_zero, List.set_cons_succ]
  refine Sure.val (i := 12) ?_ 187 rfl rfl (by kernel_rfl) (by kernel_rfl) (by kernel_rfl) (by rfl) ?_ ?_
  rotate_left
  · (intro w hSw; obtain ⟨c1, c2, c3, c4⟩ := HCL.out w hSw; go_simp; first | done | with_reducible rfl | (rw [IntKind.wrap_i64]; omega))
  simp only [Act.put, List.setIfInBounds_toArray, List.set_cons_zero, List.set_cons_succ]
  refine Sure.call (i := 13) (.int .i64 (X'.n : Int)) 188 19 #[lp g0] rfl rfl (by kernel_rfl) (by kernel_rfl) (by kernel_rfl) (by rfl) (fun w hSw => by simp [go_sem]) K19.out ?_
  simp only [Act.put, List.setIfInBounds_toArray, List.set_cons_zero, List.set_cons_succ]
  refine Sure.val (i := 14) ?_ 189 rfl rfl (by kernel_rfl) (by kernel_rfl) (by kernel_rfl) (by rfl) ?_ ?_
  rotate_left
  · (intro w hSw; go_simp; first | done | with_reducible rfl | (rw [IntKind.wrap_i64]; omega))
  simp only [Act.put, List.setIfInBounds_toArray, List.set_cons_zero, List.set_cons_succ]
  refine Sure.val (i := 15) ?_ 190 rfl rfl (by kernel_rfl) (by kernel_rfl) (by kernel_rfl) (by rfl) ?_ ?_
  rotate_left
  · (intro w hSw; go_simp; first | done | with_reducible rfl | (rw [IntKind.wrap_i64]; omega))
  simp only [Act.put, List.setIfInBounds_toArray, List.set_cons_zero, List.set_cons_succ]
  refine Sure.val (i := 16) ?_ 191 rfl rfl (by kernel_rfl) (by kernel_rfl) (by kernel_rfl) (by rfl) ?_ ?_
  rotate_left
  · (intro w hSw; obtain ⟨c1, c2, c3, c4⟩ := HCL.out w hSw; go_simp; first | done | with_reducible rfl | (rw [IntKind.wrap_i64]; omega))
  simp only [Act.put, List.setIfInBounds_toArray, List.set_cons_zero, List.set_cons_succ]
  refine Sure.val (i := 17) ?_ 192 rfl rfl (by kernel_rfl) (by kernel_rfl) (by kernel_rfl) (by rfl) ?_ ?_
  rotate_left
  · (intro w hSw; go_simp; first | done | with_reducible rfl | (rw [IntKind.wrap_i64]; omega))
  simp only [Act.put, List.setIfInBounds_toArray, List.set_cons_zero, List.set_cons_succ]
  refine Sure.val (i := 18) ?_ 193 rfl rfl (by kernel_rfl) (by kernel_rfl) (by kernel_rfl) (by rfl) ?_ ?_
  rotate_left
  · (intro w hSw; go_simp; first | done | with_reducible rfl | (rw [IntKind.wrap_i64]; omega))
  simp only [Act.put, List.setIfInBounds_toArray, List.set_cons_zero, List.set_cons_succ]
  refine Sure.val (i := 19) ?_ 194 rfl rfl (by kernel_rfl) (by kernel_rfl) (by kernel_rfl) (by rfl) ?_ ?_
  rotate_left
  · (intro w hSw; go_simp; first | done | with_reducible rfl | (rw [IntKind.wrap_i64]; omega))
  simp only [Act.put, List.setIfInBounds_toArray, List.set_cons_zero, List.set_cons_succ]
  refine Sure.val (i := 20) ?_ 195 rfl rfl (by kernel_rfl) (by kernel_rfl) (by kernel_rfl) (by rfl) ?_ ?_
  rotate_left
  · (intro w hSw; obtain ⟨c1, c2, c3, c4⟩ := HCL.out w hSw; go_simp; first | done | with_reducible rfl | (rw [IntKind.wrap_i64]; omega))
  simp only [Act.put, List.setIfInBounds_toArray, List.set_cons_zero, List.set_cons_succ]
  refine Sure.val (i := 21) ?_ 196 rfl rfl (by kernel_rfl) (by kernel_rfl) (by kernel_rfl) (by rfl) ?_ ?_
  rotate_left
  · (intro w hSw; go_simp; first | done | with_reducible rfl | (rw [IntKind.wrap_i64]; omega))
  simp only [Act.put, List.setIfInBounds_toArray, List.set_cons_zero, List.set_cons_succ]
  refine Sure.val (i := 22) ?_ 197 rfl rfl (by kernel_rfl) (by kernel_rfl) (by kernel_rfl) (by rfl) ?_ ?_
  rotate_left
  · (intro w hSw; go_simp; first | done | with_reducible rfl | (rw [IntKind.wrap_i64]; omega))
  simp only [Act.put, List.setIfInBounds_toArray, List.set_cons_zero, List.set_cons_succ]
  refine Sure.val (i := 23) (.bool false) 198 rfl rfl (by kernel_rfl) (by kernel_rfl) (by kernel_rfl) (by rfl) ?_ ?_
  · (intro w hSw; go_simp; first | done | with_reducible rfl | (rw [IntKind.wrap_i64]; omega))
  simp only [Act.put, List.setIfInBounds_toArray, List.set_cons_zero, List.set_cons_succ]
  refine Sure.val (i := 24) (.bool false) 199 rfl rfl (by kernel_rfl) (by kernel_rfl) (by kernel_rfl) (by rfl) ?_ ?_
  · (intro w hSw; go_simp; first | done | with_reducible rfl | (rw [IntKind.wrap_i64]; omega))
  simp only [Act.put, List.setIfInBounds_toArray, List.set_cons_zero, List.set_cons_succ]
  refine Sure.val (i := 25) (.bool false) 200 rfl rfl (by kernel_rfl) (by kernel_rfl) (by kernel_rfl) (by rfl) ?_ ?_
  · (intro w hSw; go_simp; first | done | with_reducible rfl | (rw [IntKind.wrap_i64]; omega))
  simp only [Act.put, List.setIfInBounds_toArray, List.set_cons_zero, List.set_cons_succ]
  refine Sure.val (i := 26) ?_ 201 rfl rfl (by kernel_rfl) (by kernel_rfl) (by kernel_rfl) (by rfl) ?_ ?_
  rotate_left
  · (intro w hSw; go_simp; first | done | with_reducible rfl | (rw [IntKind.wrap_i64]; omega))
  simp only [Act.put, List.setIfInBounds_toArray, List.set_cons_zero, List.set_cons_succ]
  refine Sure.val (i := 27) ?_ 202 rfl rfl (by kernel_rfl) (by kernel_rfl) (by kernel_rfl) (by rfl) ?_ ?_
  rotate_left
  · (intro w hSw; go_simp; first | done | with_reducible rfl | (rw [IntKind.wrap_i64]; omega))
  simp only [Act.put, List.setIfInBounds_toArray, List.set_cons_zero, List.set_cons_succ]
  refine Sure.val (i := 28) ?_ 203 rfl rfl (by kernel_rfl) (by kernel_rfl) (by kernel_rfl) (by rfl) ?_ ?_
  rotate_left
  · (intro w hSw; obtain ⟨c1, c2, c3, c4⟩ := HCL.out w hSw; go_simp; first | done | with_reducible rfl | (rw [IntKind.wrap_i64]; omega))
  simp only [Act.put, List.setIfInBounds_toArray, List.set_cons_zero, List.set_cons_succ]
  refine Sure.call (i := 29) (.int .i64 (Y'.h : Int)) 204 20 #[lp g1] rfl rfl (by kernel_rfl) (by kernel_rfl) (by kernel_rfl) (by rfl) (fun w hSw => by simp [go_sem]) K20.out ?_
  simp only [Act.put, List.setIfInBounds_toArray, List.set_cons_zero, List.set_cons_succ]
  refine Sure.val (i := 30) ?_ 205 rfl rfl (by kernel_rfl) (by kernel_rfl) (by kernel_rfl) (by rfl) ?_ ?_
  rotate_left
  · (intro w hSw; go_simp; first | done | with_reducible rfl | (rw [IntKind.wrap_i64]; omega))
  simp only [Act.put, List.setIfInBounds_toArray, List.set_cons_zero, List.set_cons_succ]
  refine Sure.val (i := 31) ?_ 206 rfl rfl (by kernel_rfl) (by kernel_rfl) (by kernel_rfl) (by rfl) ?_ ?_
  rotate_left
  · (intro w hSw; go_simp; first | done | with_reducible rfl | (rw [IntKind.wrap_i64]; omega))
  simp only [Act.put, List.setIfInBounds_toArray, List.set_cons_zero, List.set_cons_succ]
  refine Sure.val (i := 32) ?_ 207 rfl rfl (by kernel_rfl) (by kernel_rfl) (by kernel_rfl) (by rfl) ?_ ?_
  rotate_left
  · (intro w hSw; obtain ⟨c1, c2, c3, c4⟩ := HCL.out w hSw; go_simp; first | done | with_reducible rfl | (rw [IntKind.wrap_i64]; omega))
  simp only [Act.put, List.setIfInBounds_toArray, List.set_cons_zero, List.set_cons_succ]
  refine Sure.val (i := 33) ?_ 208 rfl rfl (by kernel_rfl) (by kernel_rfl) (by kernel_rfl) (by rfl) ?_ ?_
  rotate_left
  · (intro w hSw; go_simp; first | done | with_reducible rfl | (rw [IntKind.wrap_i64]; omega))
  simp only [Act.put, List.setIfInBounds_toArray, List.set_cons_zero, List.set_cons_succ]
  refine Sure.val (i := 34) (.bool false) 209 rfl rfl (by kernel_rfl) (by kernel_rfl) (by kernel_rfl) (by rfl) ?_ ?_
  · (intro w hSw; go_simp; first | done | with_reducible rfl | (rw [IntKind.wrap_i64]; omega))
  simp only [Act.put, List.setIfInBounds_toArray, List.set_cons_zero, List.set_cons_succ]
  refine Sure.val (i := 35) (.bool false) 210 rfl rfl (by kernel_rfl) (by kernel_rfl) (by kernel_rfl) (by rfl) ?_ ?_
  · (intro w hSw; go_simp; first | done | with_reducible rfl | (rw [IntKind.wrap_i64]; omega))
  simp only [Act.put, List.setIfInBounds_toArray, List.set_cons_zero, List.set_cons_succ]
  refine Sure.done (by kernel_rfl) ?_ _
  intro w' hSw'
  exact h _ _ _ _ _ _ _ _ _ _ _ _ _ _ _ _ _ _ _ _ _ _ _ _ _ _ _ _ _ _ _ _ _ _ _ w' hSw'

end Go.Proofs.Ytgdlejeopdipiaa
