/- A step that takes a packet and keeps it on its way: the walk. -/
import Derived.Test.YtgdlejeopdipiaaOb
namespace Go.Proofs.Ytgdlejeopdipiaa
open Go.RowKit
set_option linter.unusedVariables false

set_option maxRecDepth 1000000 in
set_option maxHeartbeats 12800000 in
theorem once_kind4 (P0 : PkG) (a0 : Option Addr) (n0 c0 c1 n1 : Nat) (w : World) (ge g0 g1 : Nat) (W2 : World) (q6 k : Nat) (X Y : En) (In0 In1 : List (List Nat)) (Ws : List PkG) (R : Nat → Option Addr × Nat) (ao : Option Addr) (cap nw : Nat) (hnw : nw ≤ 8 * k) (hlt : k < n1) (hm : n1 ≤ 150) (bk off : Nat) (kd nn : Int) (ax : Option Addr) (m cx : Nat) (bs : List Nat) (HX0 : Hid (Rd8 w ax m cx bs)) (eb : Nat) (HLn : Hid (Ws.length = nw ∧ In0.length ≤ k ∧ In1.length ≤ k ∧ k < n1 ∧ n1 ≤ 150)) (HQ6 : Hid (w.heap.size ≤ q6 ∧ w.heap.size ≤ q6 + 1)) (W0 : World) (HEB : Hid (W0.heap[eb]? = some (stO kd nn (Value.slice ax m cx)))) (HSt : Hid (St W0 w.heap.size ge g0 g1 q6 (q6 + 1) P0 X Y In0 In1 Ws (Value.slice ao nw cap) R)) (HXW : Hid (Rd8 W0 ax m cx bs ∧ bs.length = m ∧ m ≤ 140737488351232)) (HBW : Hid (Below w.heap.size w W0)) (d0 : W0.cell? ⟨eb, 0, none⟩ = some (Value.int IntKind.i64 kd))
    (u4 u11 u12 u13 u14 u15 u16 u17 u18 u19 u20 u21 u22 u23 u24 u25 u26 u27 u28 u29 u30 u31 u32 u33 u34 u35 u36 u37 u38 u39 u40 u41 u42 u43 u44 u45 u46 u47 u48 u49 u50 u51 u52 u53 u54 u55 u56 u57 u58 u59 u60 u61 u62 u63 u64 u65 u66 u67 u68 u80 u81 u82 u83 u84 u85 u86 u87 u88 u89 u90 u91 u92 u93 u94 u95 u96 u97 u98 u99 u100 u101 u102 u103 u104 u105 u106 u107 u108 u109 u110 u111 u112 u113 u114 u115 u116 u117 u118 u119 u120 u121 u122 u123 u124 u125 u126 u127 u128 u129 u130 u131 u132 u133 u134 u135 u136 u137 u138 u139 u140 u141 u142 u143 u144 u145 u146 u147 u148 u149 u150 u151 u152 u153 u154 u155 u156 u157 u158 u159 u160 u161 u162 u163 u164 u165 u166 u167 u168 u169 u170 u171 u172 u173 u174 u175 u176 u177 u178 u179 u180 u181 u182 u183 u184 u185 u186 u187 u188 u189 u190 u191 u192 u193 u194 u195 u196 u197 u198 u199 u200 u201 u202 u203 u204 u205 u206 u207 u208 u209 u210 u211 u212 u213 u214 u215 u216 u217 u218 u219 u220 u221 u222 u223 u224 u225 u226 u227 u228 u229 : Value) (J K' K1 M K2 : Act → World → Prop) (Po : Ending → World → Prop)
    (hJ : ∀ (a' : Act) (w' : World), (∃ u8 u11 u12 u13 u14 u75 u76 u77 u78 u80 u81 u82 u83 u84 u85 u86 u87 u88 u89 u90 u91 u92 u93 u94 u95 u96 u97 u98 u99 u100 u101 u102 u103 u104 u105 u106 u107 u108 u109 u110 u111 u112 u113 u114 u115 u116 u117 u118 u119 u120 u121 u122 u123 u124 u125 u126 u127 u128 u129 u130 u131 u132 u133 u134 u135 u136 u137 u138 u139 u140 u141 u142 u143 u144 u145 u146 u147 u148 u149 u150 u151 u152 u153 u154 u155 u156 u157 u158 u159 u160 u161 u162 u163 u164 u165 u166 u167 u168 u169 u170 u171 u172 u173 u174 u175 u176 u177 u178 u179 u180 u181 u182 u183 u184 u185 u186 u187 u188 u189 u190 u191 u192 u193 u194 u195 u196 u197 u198 u199 u200 u201 u202 u203 u204 u205 u206 u207 u208 u209 u210 u211 u212 u216 u217 u218 u219 u220 u221 u222 u223 u224 u225 u226 u227 u228 u229, (∃ X' Y' In0' In1' Ws' R' ao' cap' nw', u8 = Value.slice ao' nw' cap' ∧ Hid (St w' w.heap.size ge g0 g1 q6 (q6 + 1) P0 X' Y' In0' In1' Ws' (Value.slice ao' nw' cap') R' ∧ Ws'.length = nw' ∧ In0'.length ≤ k + 1 ∧ In1'.length ≤ k + 1) ∧ nw' ≤ 8 * (k + 1) ∧ Below w.heap.size w w') ∧ a' = { tmps := #[pkV P0 (Value.slice a0 n0 c0), Value.slice (some { block := bk, off := off }) n1 c1, Value.pointer (some { block := w.heap.size, off := 0 }), undef, u4, Value.pointer (some { block := ge, off := 0 }), Value.pointer (some { block := q6, off := 0 }), Value.pointer (some { block := q6 + 1, off := 0 }), u8, undef, Value.pointer (some { block := eb, off := 0 }), u11, u12, u13, u14, u15, u16, u17, u18, u19, u20, u21, u22, u23, u24, u25, u26, u27, u28, u29, u30, u31, u32, u33, u34, u35, u36, u37, u38, u39, u40, u41, u42, u43, u44, u45, u46, u47, u48, u49, u50, u51, u52, u53, u54, u55, u56, u57, u58, u59, u60, u61, u62, u63, u64, u65, u66, u67, u68, Value.agg #[Value.slice none 0 0, Value.slice none 0 0], Value.agg #[Value.slice none 0 0, Value.slice none 0 0], Value.slice (some { block := W2.heap.size, off := 0 }) 0 0, Value.slice (some { block := bk, off := off }) n1 c1, Value.int IntKind.i64 ↑n1, Value.int IntKind.i64 ↑k, u75, u76, u77, u78, Value.int IntKind.i64 kd, u80, u81, u82, u83, u84, u85, u86, u87, u88, u89, u90, u91, u92, u93, u94, u95, u96, u97, u98, u99, u100, u101, u102, u103, u104, u105, u106, u107, u108, u109, u110, u111, u112, u113, u114, u115, u116, u117, u118, u119, u120, u121, u122, u123, u124, u125, u126, u127, u128, u129, u130, u131, u132, u133, u134, u135, u136, u137, u138, u139, u140, u141, u142, u143, u144, u145, u146, u147, u148, u149, u150, u151, u152, u153, u154, u155, u156, u157, u158, u159, u160, u161, u162, u163, u164, u165, u166, u167, u168, u169, u170, u171, u172, u173, u174, u175, u176, u177, u178, u179, u180, u181, u182, u183, u184, u185, u186, u187, u188, u189, u190, u191, u192, u193, u194, u195, u196, u197, u198, u199, u200, u201, u202, u203, u204, u205, u206, u207, u208, u209, u210, u211, u212, u213, u214, u215, u216, u217, u218, u219, u220, u221, u222, u223, u224, u225, u226, u227, u228, u229], defers := [] }) → J a' w') (hK : ∀ (a' : Act) (w' : World), Met J a' w' → K' a' w') (k4 : kd = 4) (hr : ¬ (nn < 0 ∨ (nw : Int) ≤ nn)) :
    Code.wp Try.prog onceBlk (Exit.then K' (Exit.inBlock 1 (Exit.then K1 (Exit.then M (Exit.inBlock 0 (Exit.then K2 (bodyPost Try.prog Try.f5 Po))))))) { tmps := #[pkV P0 (Value.slice a0 n0 c0), Value.slice (some { block := bk, off := off }) n1 c1, Value.pointer (some { block := w.heap.size, off := 0 }), undef, u4, Value.pointer (some { block := ge, off := 0 }), Value.pointer (some { block := q6, off := 0 }), Value.pointer (some { block := q6 + 1, off := 0 }), Value.slice ao nw cap, undef, Value.pointer (some { block := eb, off := 0 }), u11, u12, u13, u14, u15, u16, u17, u18, u19, u20, u21, u22, u23, u24, u25, u26, u27, u28, u29, u30, u31, u32, u33, u34, u35, u36, u37, u38, u39, u40, u41, u42, u43, u44, u45, u46, u47, u48, u49, u50, u51, u52, u53, u54, u55, u56, u57, u58, u59, u60, u61, u62, u63, u64, u65, u66, u67, u68, Value.agg #[Value.slice none 0 0, Value.slice none 0 0], Value.agg #[Value.slice none 0 0, Value.slice none 0 0], Value.slice (some { block := W2.heap.size, off := 0 }) 0 0, Value.slice (some { block := bk, off := off }) n1 c1, Value.int IntKind.i64 ↑n1, Value.int IntKind.i64 ↑k, Value.bool true, Value.pointer (some { block := bk, off := off + k * 3 }), Value.agg #[Value.int IntKind.i64 kd, Value.int IntKind.i64 nn, Value.slice ax m cx], Value.pointer (some { block := eb, off := 0 }), Value.int IntKind.i64 kd, u80, u81, u82, u83, u84, u85, u86, u87, u88, u89, u90, u91, u92, u93, u94, u95, u96, u97, u98, u99, u100, u101, u102, u103, u104, u105, u106, u107, u108, u109, u110, u111, u112, u113, u114, u115, u116, u117, u118, u119, u120, u121, u122, u123, u124, u125, u126, u127, u128, u129, u130, u131, u132, u133, u134, u135, u136, u137, u138, u139, u140, u141, u142, u143, u144, u145, u146, u147, u148, u149, u150, u151, u152, u153, u154, u155, u156, u157, u158, u159, u160, u161, u162, u163, u164, u165, u166, u167, u168, u169, u170, u171, u172, u173, u174, u175, u176, u177, u178, u179, u180, u181, u182, u183, u184, u185, u186, u187, u188, u189, u190, u191, u192, u193, u194, u195, u196, u197, u198, u199, u200, u201, u202, u203, u204, u205, u206, u207, u208, u209, u210, u211, u212, u213, u214, u215, u216, u217, u218, u219, u220, u221, u222, u223, u224, u225, u226, u227, u228, u229], defers := [] } W0 := by
  conv => arg 2; whnf
  subst k4
  have d1 : W0.cell? ⟨eb, 1, none⟩ = some (.int .i64 nn) := by rw [cell_of_row _ _ _ _ _ _ HEB.out]; rfl
  obtain ⟨j, rfl⟩ : ∃ j : Nat, nn = (j : Int) := ⟨nn.toNat, by omega⟩
  have hj : j < nw := by omega
  clear hr
  have e1' : decide ((j : Int) < 0) = false := by simp
  have e2' : decide ((j : Int) ≥ (nw : Int)) = false := by simp; omega
  obtain ⟨g6, c6, u6, e6, -, p6, y6⟩ := HSt.out.pks.at j (by rw [HLn.out.1]; exact hj)
  have hM0 : Ws[j]'(by rw [HLn.out.1]; exact hj) ∈ Ws := List.getElem_mem _
  generalize Ws[j]'(by rw [HLn.out.1]; exact hj) = p at p6 y6 hM0
  obtain ⟨rfl, -, rfl⟩ : ao = some ⟨g6, 0, none⟩ ∧ nw = Ws.length ∧ cap = c6 := by simpa using e6
  clear e6
  have hbl : p.bs.length ≤ 700 := by rcases HSt.out.inv.ws p hM0 with ⟨_, _, _, rfl, _, h, _⟩ | ⟨_, _, _, rfl, _, h, _⟩ <;> exact h
  have HMem : Hid (p ∈ Ws ∧ p.bs.length ≤ 700) := ⟨hM0, hbl⟩
  have HY6 : Hid (By W0 (fun _ => True) u6 p.bs) := y6
  obtain ⟨au, mu, cu, rfl, -⟩ := y6
  clear hM0 hbl
  obtain ⟨pcl, pep, pbo, psq, pak, psv, pbs⟩ := p
  have i0 : W0.cell? ⟨g6, j * 7, none⟩ = some (.int .i64 pcl) := p6.c0
  have i1 : W0.cell? ⟨g6, j * 7 + 1, none⟩ = some (.int .i64 pep) := p6.c1
  have i2 : W0.cell? ⟨g6, j * 7 + 2, none⟩ = some (.int .i64 pbo) := p6.c2
  have i3 : W0.cell? ⟨g6, j * 7 + 3, none⟩ = some (.int .i64 psq) := p6.c3
  have i4 : W0.cell? ⟨g6, j * 7 + 4, none⟩ = some (.int .i64 pak) := p6.c4
  have i5 : W0.cell? ⟨g6, j * 7 + 5, none⟩ = some (.bool psv) := p6.c5
  have i6 : W0.cell? ⟨g6, j * 7 + 6, none⟩ = some (.slice au mu cu) := p6.c6
  clear p6
  cases psv
  · have HP5 : Hid (⟨pcl, pep, pbo, psq, pak, false, pbs⟩ ∈ Ws ∧ pbs.length ≤ 700) := HMem.out
    obtain ⟨bb, hbb⟩ : ∃ bb, gotB (idI P0 true) Y.s Y.h ⟨pcl, pep, pbo, psq, pak, false, pbs⟩ = bb := ⟨_, rfl⟩
    obtain ⟨n2, hn2⟩ : ∃ n2, Y.n - gotC (idI P0 true) Y.n Y.s ⟨pcl, pep, pbo, psq, pak, false, pbs⟩ = n2 := ⟨_, rfl⟩
    obtain ⟨h2, hh2⟩ : ∃ h2, gotH (idI P0 true) Y.s Y.h ⟨pcl, pep, pbo, psq, pak, false, pbs⟩ = h2 := ⟨_, rfl⟩
    obtain ⟨L2, hL2⟩ : ∃ L2, Y.L.drop (gotC (idI P0 true) Y.n Y.s ⟨pcl, pep, pbo, psq, pak, false, pbs⟩) = L2 := ⟨_, rfl⟩
    obtain ⟨XX, hXX⟩ : ∃ XX, gotX (idI P0 true) Y.s Y.h ⟨pcl, pep, pbo, psq, pak, false, pbs⟩ = XX := ⟨_, rfl⟩
    have HG : Hid (gotB (idI P0 true) Y.s Y.h ⟨pcl, pep, pbo, psq, pak, false, pbs⟩ = bb ∧ Y.n - gotC (idI P0 true) Y.n Y.s ⟨pcl, pep, pbo, psq, pak, false, pbs⟩ = n2 ∧ gotH (idI P0 true) Y.s Y.h ⟨pcl, pep, pbo, psq, pak, false, pbs⟩ = h2 ∧ Y.L.drop (gotC (idI P0 true) Y.n Y.s ⟨pcl, pep, pbo, psq, pak, false, pbs⟩) = L2 ∧ gotX (idI P0 true) Y.s Y.h ⟨pcl, pep, pbo, psq, pak, false, pbs⟩ = XX) := ⟨hbb, hn2, hh2, hL2, hXX⟩
    have hIv := HSt.out.inv.got1 (Z := ⟨Y.ao, n2, Y.cap, L2, Y.s, h2⟩) HP5.out.1 rfl hn2.symm rfl hL2.symm hh2.symm
    rw [hbb, hXX] at hIv
    have HIv : Hid (Inv P0 X ⟨Y.ao, n2, Y.cap, L2, Y.s, h2⟩ In0 In1 Ws ∧ (bb = true → In0.take h2 = In0.take Y.h ++ [XX]) ∧ (bb = false → h2 = Y.h)) := hIv
    have hZh : Y.h ≤ In0.length := by have := HSt.out.inv.d0.hs; have := HSt.out.inv.d0.len; omega
    have hRh : Y.h < 16777215 := by have := HLn.out; omega
    clear hIv hbb hn2 hh2 hL2 hXX
    obtain ⟨pb, hpB⟩ : ∃ pb, pb = W0.heap.size := ⟨_, rfl⟩
    obtain ⟨W1, hW1⟩ : ∃ W1, W1 = W0.alloc (.cells #[.int .i64 pcl, .int .i64 pep, .int .i64 pbo, .int .i64 psq, .int .i64 pak, .bool false, .slice au mu cu] 30) := ⟨_, rfl⟩
    have HB1 : Hid (Below W0.heap.size W0 W1) := by rw [hW1]; exact (Below.refl _ _).alloc (Nat.le_refl _) _
    have hpb : W1.heap[pb]? = some (.cells #[.int .i64 pcl, .int .i64 pep, .int .i64 pbo, .int .i64 psq, .int .i64 pak, .bool false, .slice au mu cu] 30) := by rw [hW1, hpB]; exact heap_alloc_new W0 _
    have HD1 : Hid (Duo W1.drew w.heap.size ge g0 g1 P0 X Y) := (HSt.out.duo.below HB1.out).below (bel0 W1)
    have HY1 : Hid (By W1.drew (fun _ => True) (.slice au mu cu) pbs) := (HY6.out.below HB1.out).below (bel0 W1)
    have KS' : Hid (∀ W : World, KT W1 W → W.cell? ⟨ge, 1, none⟩ = some (lp g1) ∧ W.cell? ⟨pb, 0, none⟩ = some (.int .i64 pcl) ∧ W.cell? ⟨pb, 1, none⟩ = some (.int .i64 pep) ∧ W.cell? ⟨pb, 2, none⟩ = some (.int .i64 pbo) ∧ W.cell? ⟨pb, 3, none⟩ = some (.int .i64 psq) ∧ W.cell? ⟨pb, 4, none⟩ = some (.int .i64 pak) ∧ W.cell? ⟨pb, 5, none⟩ = some (.bool false) ∧ W.cell? ⟨pb, 6, none⟩ = some (.slice au mu cu)) := fun W hW => by
      have c := fun i => kt_cell hW hpb (by decide) (by decide) i
      obtain ⟨cs, fr, h9⟩ := HD1.out.et
      refine ⟨(kt_cell hW (show W1.heap[ge]? = _ from h9) (by decide) (by decide) 1).trans HD1.out.e1, (c 0).trans ?_, (c 1).trans ?_, (c 2).trans ?_, (c 3).trans ?_, (c 4).trans ?_, (c 5).trans ?_, (c 6).trans ?_⟩
      all_goals rw [cell_of_row _ _ _ _ _ _ hpb]; rfl
    have d5 : W1.cell? ⟨pb, 5, none⟩ = some (.bool false) := by rw [cell_of_row _ _ _ _ _ _ hpb]; rfl
    clear hpb
    go_upto_region 27 with fail
    rw [← hW1, ← hpB]
    clear hW1 hpB d5
    go_region_held (fun W => W.cell? ⟨ge, 1, none⟩ = some (lp g1) ∧ W.cell? ⟨pb, 0, none⟩ = some (.int .i64 pcl) ∧ W.cell? ⟨pb, 1, none⟩ = some (.int .i64 pep) ∧ W.cell? ⟨pb, 2, none⟩ = some (.int .i64 pbo) ∧ W.cell? ⟨pb, 3, none⟩ = some (.int .i64 psq) ∧ W.cell? ⟨pb, 4, none⟩ = some (.int .i64 pak) ∧ W.cell? ⟨pb, 5, none⟩ = some (.bool false) ∧ W.cell? ⟨pb, 6, none⟩ = some (.slice au mu cu))
      (first
        | with_reducible exact KS'.out _ (KT.of_below (bel0 W1))
        | with_reducible exact KS'.out _ hT5
        | fail)
      (first
        | (go_at_call 14; refine (got_is W1.drew w.heap.size g1 Y.ao Y.n Y.cap (fun _ => True) (idI P0 true) Y.L Y.s Y.h HD1.out.k1 ⟨pcl, pep, pbo, psq, pak, false, pbs⟩ (.slice au mu cu) (fun _ => True) HY1.out (by have := HP5.out.2; simp only; omega) hRh bb n2 h2 XX L2 HG.out.1 HG.out.2.1 HG.out.2.2.2.1 HG.out.2.2.1 HG.out.2.2.2.2).mono ?_; rintro e w5 ⟨v5, rfl, hy5, K5, hO5⟩; have hT5 : KT W1 w5 := (KT.of_below (bel0 W1)).trans (HD1.out.k1.ktOff hO5); have HK5 : Hid (Duo w5 w.heap.size ge g0 g1 P0 X ⟨Y.ao, n2, Y.cap, L2, Y.s, h2⟩ ∧ Below w.heap.size w w5) := ⟨HD1.out.step1 (Z := ⟨Y.ao, n2, Y.cap, L2, Y.s, h2⟩) K5 hO5 (Nw.refl _ _), ((below_step HBW.out HB1.out).trans ((bel0 W1).mono (by have := HBW.out.size; have := HB1.out.size; omega))).trans (HD1.out.k1.belowB hO5)⟩)
        | fail)
    have HY5 : Hid (By w5 (fun k => W1.drew.heap.size ≤ k) v5 XX) := hy5
    have HT5 : Hid (KT W0 w5) := (KT.of_below HB1.out).trans hT5
    have hebK : w5.heap[eb]? = some (stO 4 (j : Int) (.slice ax m cx)) := (HT5.out.block eb _ 53 _ HEB.out (by decide) (by decide)).trans HEB.out
    have HE5 : Hid (w5.heap[eb]? = some (stO 4 (j : Int) (.slice ax m cx))) := hebK
    have HS5 : Hid (Str4 w5 w.heap.size q6 (q6 + 1) R (LsF In0 In1 X.h Y.h) ∧ Pks w5 w.heap.size (fun _ => True) (.slice (some ⟨g6, 0, none⟩) nw cap) Ws) := ⟨HSt.out.str.kt HT5.out, HSt.out.pks.kt HT5.out⟩
    clear K5 hO5 hy5 hT5 hebK
    cases bb
    · have hq := HIv.out.2.2 rfl
      subst hq
      have d9 : w5.cell? ⟨eb, 0, none⟩ = some (.int .i64 4) := by rw [cell_of_row _ _ _ _ _ _ HE5.out]; rfl
      have HSt8 : Hid (St w5 w.heap.size ge g0 g1 q6 (q6 + 1) P0 X ⟨Y.ao, n2, Y.cap, L2, Y.s, Y.h⟩ In0 In1 Ws (.slice (some ⟨g6, 0, none⟩) nw cap) R ∧ Below w.heap.size w w5) := ⟨⟨HK5.out.1, HS5.out.2, HS5.out.1, HIv.out.1⟩, HK5.out.2⟩
      go_wp2
      go_meet
      exact ⟨X, ⟨Y.ao, n2, Y.cap, L2, Y.s, Y.h⟩, In0, In1, Ws, R, some ⟨g6, 0, none⟩, cap, nw, rfl, ⟨HSt8.out.1, HLn.out.1, by have := HLn.out; omega, by have := HLn.out; omega⟩, by omega, HSt8.out.2⟩
    · have hF : Hid (∀ W, w5.heap.size ≤ W.heap.size → (∀ (k : Nat) (cs : Array Value) (e : TypeId) (fr : Nat × Nat), w5.heap[k]? = some (.cells cs e fr) → e ≠ 9 → W.heap[k]? = w5.heap[k]?) → (fun W => W.cell? ⟨q6 + 1, 1, none⟩ = some (.slice (R 3).1 Y.h (R 3).2) ∧ (convert 27 9 v5).run Try.prog W = .ok (.string (strOfNums (ci XX))) W ∧ W.frozen? ⟨q6 + 1, 1, none⟩ = false) W) := fun W hW hk => by
        have h2' := hk (q6 + 1) _ 51 _ HS5.out.1.h7 (by decide)
        refine ⟨?_, (HY5.out.keepx hW (fun k cs fr h => hk k cs 5 fr h (by decide))).str, (World.frozen?_of_block (w := w5) h2').trans (HS5.out.1.hfz 3 1)⟩
        have h3 := HS5.out.1.hcell 3 (by decide)
        rw [show (LsF In0 In1 X.h Y.h 3).length = Y.h from by simp [LsF]; omega] at h3
        exact (World.cell?_of_block (w := w5) (w' := W) (a := ⟨q6 + 1, 1, none⟩) h2').trans h3
      have hF0 := hF.out w5.drew (Nat.le_refl _) (fun _ _ _ _ _ _ => rfl)
      have hb1 : Below w5.heap.size w5 (w5.alloc (.cells #[.string (strOfNums (ci XX))] 9)).drew := belD w5 _
      have hF1 := hF.out (w5.alloc (.cells #[.string (strOfNums (ci XX))] 9)).drew hb1.size (fun k cs e fr hk he => hb1.block k (Array.getElem?_eq_some_iff.1 hk).1)
      have hHL : Y.h ≤ 1000000 := by have := HLn.out; omega
      go_upto_region 29 with fail
      refine wp_region_till (fun W => W.cell? ⟨q6 + 1, 1, none⟩ = some (.slice (R 3).1 Y.h (R 3).2) ∧ (convert 27 9 v5).run Try.prog W = .ok (.string (strOfNums (ci XX))) W ∧ W.frozen? ⟨q6 + 1, 1, none⟩ = false) 9 (by kernel_rfl) ?_
      refine Till.val (i := 0) ?_ 145 rfl rfl rfl (by kernel_rfl) (by decide) (by kernel_rfl) (by kernel_rfl) (by kernel_rfl) (by kernel_rfl) (by rfl) (fun _ _ _ h => h) hF0 ?_ ?_
      rotate_left
      · (intro w hSw; obtain ⟨c1, c2, c3⟩ := hSw; go_simp; first | done | with_reducible rfl)
      simp only [Act.put, List.setIfInBounds_toArray, List.set_cons_zero, List.set_cons_succ]
      refine Till.val (i := 1) ?_ 146 rfl rfl rfl (by kernel_rfl) (by decide) (by kernel_rfl) (by kernel_rfl) (by kernel_rfl) (by kernel_rfl) (by rfl) (fun _ _ _ h => h) hF0 ?_ ?_
      rotate_left
      · (intro w hSw; obtain ⟨c1, c2, c3⟩ := hSw; go_simp; first | done | with_reducible rfl)
      simp only [Act.put, List.setIfInBounds_toArray, List.set_cons_zero, List.set_cons_succ]
      refine Till.val (i := 2) ?_ 147 rfl rfl rfl (by kernel_rfl) (by decide) (by kernel_rfl) (by kernel_rfl) (by kernel_rfl) (by kernel_rfl) (by rfl) (fun _ _ _ h => h) hF0 ?_ ?_
      rotate_left
      · (intro w hSw; obtain ⟨c1, c2, c3⟩ := hSw; go_simp; first | done | with_reducible rfl)
      simp only [Act.put, List.setIfInBounds_toArray, List.set_cons_zero, List.set_cons_succ]
      refine Till.val (i := 3) ?_ 148 rfl rfl rfl (by kernel_rfl) (by decide) (by kernel_rfl) (by kernel_rfl) (by kernel_rfl) (by kernel_rfl) (by rfl) (fun _ _ _ h => h) hF0 ?_ ?_
      rotate_left
      · (intro w hSw; obtain ⟨c1, c2, c3⟩ := hSw; go_simp; first | done | with_reducible rfl)
      simp only [Act.put, List.setIfInBounds_toArray, List.set_cons_zero, List.set_cons_succ]
      refine Till.val (i := 4) ?_ 149 rfl rfl rfl (by kernel_rfl) (by decide) (by kernel_rfl) (by kernel_rfl) (by kernel_rfl) (by kernel_rfl) (by rfl) (fun _ _ _ h => h) hF0 ?_ ?_
      rotate_left
      · (intro w hSw; obtain ⟨c1, c2, c3⟩ := hSw; go_simp; first | done | with_reducible rfl)
      simp only [Act.put, List.setIfInBounds_toArray, List.set_cons_zero, List.set_cons_succ]
      refine Till.val (i := 5) ?_ 150 rfl rfl rfl (by kernel_rfl) (by decide) (by kernel_rfl) (by kernel_rfl) (by kernel_rfl) (by kernel_rfl) (by rfl) (fun _ _ _ h => h) hF0 ?_ ?_
      rotate_left
      · (intro w hSw; obtain ⟨c1, c2, c3⟩ := hSw; go_simp; first | done | with_reducible rfl)
      simp only [Act.put, List.setIfInBounds_toArray, List.set_cons_zero, List.set_cons_succ]
      refine Till.run (i := 6) 151 (.slice (some ⟨w5.heap.size, 0, none⟩) 1 1) (w5.alloc (.cells #[.string (strOfNums (ci XX))] 9)).drew rfl rfl (by kernel_rfl) (by rfl) (by go_simp) hF1 ?_
      simp only [Act.put, List.setIfInBounds_toArray, List.set_cons_zero, List.set_cons_succ]
      have hS1 : Str4 (w5.alloc (.cells #[.string (strOfNums (ci XX))] 9)).drew w.heap.size q6 (q6 + 1) R (LsF In0 In1 X.h Y.h) := HS5.out.1.below hb1
      have hL3 : (LsF In0 In1 X.h Y.h 3).length = Y.h := by simp [LsF]; omega
      refine till_append_at (i := 7) (n := Y.h) (m := 1) (xs := (LsF In0 In1 X.h Y.h 3).map sv) (ys := [sv XX]) 152 (.tmp 148) (.tmp 151) 50 rfl rfl (by kernel_rfl) (by rfl) rfl w.heap.size 9 (.string ⟨#[]⟩) 16 Try.underlying50 info9 rfl rfl rfl (hS1.row 3 (by decide)) (RdS.drew (RdS.one w5 9 (sv XX))) (by rw [List.length_map, hL3]) rfl (sv_one [XX]) (by omega) (by unfold maxLen; omega) (below_step HK5.out.2 hb1).size ?_
      intro ao3 cap3 w6 ho6 hg6 ha6
      rw [← hL3] at hg6
      have hBg : Below w.heap.size (w5.alloc (.cells #[.string (strOfNums (ci XX))] 9)).drew w6 := by
        have h9 := hS1.row 3 (by decide)
        exact OwnS.grown h9 (Nat.le_refl _) (below_step HK5.out.2 hb1).size (by rw [List.length_map]; exact hg6)
      have hF6 := hF.out w6 (Nat.le_trans hb1.size hg6.size) (fun k cs e fr hk he => by
        have h1 := hb1.block k (Array.getElem?_eq_some_iff.1 hk).1
        exact (hS1.grown9 (i := 3) (by decide) hg6 k cs e fr (h1.trans hk) he).trans h1)
      refine ⟨hF6, ?_⟩
      simp only [Act.put, List.setIfInBounds_toArray, List.set_cons_zero, List.set_cons_succ]
      refine Till.val (i := 8) ?_ 153 rfl rfl rfl (by kernel_rfl) (by decide) (by kernel_rfl) (by kernel_rfl) (by kernel_rfl) (by kernel_rfl) (by rfl) (fun _ _ _ h => h) hF6 ?_ ?_
      rotate_left
      · (intro w hSw; obtain ⟨c1, c2, c3⟩ := hSw; go_simp; first | done | with_reducible rfl)
      simp only [Act.put, List.setIfInBounds_toArray, List.set_cons_zero, List.set_cons_succ]
      obtain ⟨hS7, hK7⟩ := hS1.add (i := 3) (by decide) (b := XX) ho6 hg6 ha6
      rw [hL3] at hS7 hK7
      obtain ⟨f1, f2, f3⟩ := hF6
      refine Till.last (w6.setCell ⟨q6 + 1, 1, none⟩ (.slice ao3 (Y.h + 1) cap3)) rfl rfl (by kernel_rfl) (by decide) (by rfl) (by go_simp) ?_
      refine Till.done (by kernel_rfl) ?_ _
      have hK : KS w5 (w6.setCell ⟨q6 + 1, 1, none⟩ (.slice ao3 (Y.h + 1) cap3)) := (KS.of_below hb1).trans hK7
      have hB7 : Below w.heap.size w (w6.setCell ⟨q6 + 1, 1, none⟩ (.slice ao3 (Y.h + 1) cap3)) := ((below_step HK5.out.2 hb1).trans hBg).setCell HQ6.out.2 _
      have hS8 : Str4 (w6.setCell ⟨q6 + 1, 1, none⟩ (.slice ao3 (Y.h + 1) cap3)) w.heap.size q6 (q6 + 1) (setR R 3 (ao3, cap3)) (LsF In0 In1 X.h h2) := hS7.congr (LsF_told1 (In0 := In0) (In1 := In1) (h0 := X.h) (h1 := Y.h) (HIv.out.2.1 rfl))
      have hE8 := (hK.block eb _ 53 _ HE5.out (by decide) (by decide)).trans HE5.out
      have HSt8 : Hid (St (w6.setCell ⟨q6 + 1, 1, none⟩ (.slice ao3 (Y.h + 1) cap3)) w.heap.size ge g0 g1 q6 (q6 + 1) P0 X ⟨Y.ao, n2, Y.cap, L2, Y.s, h2⟩ In0 In1 Ws (.slice (some ⟨g6, 0, none⟩) nw cap) (setR R 3 (ao3, cap3)) ∧ Below w.heap.size w (w6.setCell ⟨q6 + 1, 1, none⟩ (.slice ao3 (Y.h + 1) cap3))) := ⟨⟨HK5.out.1.ks hK, HS5.out.2.ks hK, hS8, HIv.out.1⟩, hB7⟩
      clear hS8 hS7 hK7 hK hB7 hBg hF1 hF0 hb1 hS1 f1 f2 f3 ho6 hg6 ha6
      generalize w6.setCell ⟨q6 + 1, 1, none⟩ (.slice ao3 (Y.h + 1) cap3) = w8 at *
      have HE8 : Hid (w8.heap[eb]? = some (stO 4 (j : Int) (.slice ax m cx))) := hE8
      have d9 : w8.cell? ⟨eb, 0, none⟩ = some (.int .i64 4) := by rw [cell_of_row _ _ _ _ _ _ hE8]; rfl
      clear hE8
      go_wp2
      go_meet
      exact ⟨X, ⟨Y.ao, n2, Y.cap, L2, Y.s, h2⟩, In0, In1, Ws, (setR R 3 (ao3, cap3)), some ⟨g6, 0, none⟩, cap, nw, rfl, ⟨HSt8.out.1, HLn.out.1, by have := HLn.out; omega, by have := HLn.out; omega⟩, by omega, HSt8.out.2⟩
  · have HP5 : Hid (⟨pcl, pep, pbo, psq, pak, true, pbs⟩ ∈ Ws ∧ pbs.length ≤ 700) := HMem.out
    obtain ⟨bb, hbb⟩ : ∃ bb, gotB (idI P0 false) X.s X.h ⟨pcl, pep, pbo, psq, pak, true, pbs⟩ = bb := ⟨_, rfl⟩
    obtain ⟨n2, hn2⟩ : ∃ n2, X.n - gotC (idI P0 false) X.n X.s ⟨pcl, pep, pbo, psq, pak, true, pbs⟩ = n2 := ⟨_, rfl⟩
    obtain ⟨h2, hh2⟩ : ∃ h2, gotH (idI P0 false) X.s X.h ⟨pcl, pep, pbo, psq, pak, true, pbs⟩ = h2 := ⟨_, rfl⟩
    obtain ⟨L2, hL2⟩ : ∃ L2, X.L.drop (gotC (idI P0 false) X.n X.s ⟨pcl, pep, pbo, psq, pak, true, pbs⟩) = L2 := ⟨_, rfl⟩
    obtain ⟨XX, hXX⟩ : ∃ XX, gotX (idI P0 false) X.s X.h ⟨pcl, pep, pbo, psq, pak, true, pbs⟩ = XX := ⟨_, rfl⟩
    have HG : Hid (gotB (idI P0 false) X.s X.h ⟨pcl, pep, pbo, psq, pak, true, pbs⟩ = bb ∧ X.n - gotC (idI P0 false) X.n X.s ⟨pcl, pep, pbo, psq, pak, true, pbs⟩ = n2 ∧ gotH (idI P0 false) X.s X.h ⟨pcl, pep, pbo, psq, pak, true, pbs⟩ = h2 ∧ X.L.drop (gotC (idI P0 false) X.n X.s ⟨pcl, pep, pbo, psq, pak, true, pbs⟩) = L2 ∧ gotX (idI P0 false) X.s X.h ⟨pcl, pep, pbo, psq, pak, true, pbs⟩ = XX) := ⟨hbb, hn2, hh2, hL2, hXX⟩
    have hIv := HSt.out.inv.got0 (Z := ⟨X.ao, n2, X.cap, L2, X.s, h2⟩) HP5.out.1 rfl hn2.symm rfl hL2.symm hh2.symm
    rw [hbb, hXX] at hIv
    have HIv : Hid (Inv P0 ⟨X.ao, n2, X.cap, L2, X.s, h2⟩ Y In0 In1 Ws ∧ (bb = true → In1.take h2 = In1.take X.h ++ [XX]) ∧ (bb = false → h2 = X.h)) := hIv
    have hZh : X.h ≤ In1.length := by have := HSt.out.inv.d1.hs; have := HSt.out.inv.d1.len; omega
    have hRh : X.h < 16777215 := by have := HLn.out; omega
    clear hIv hbb hn2 hh2 hL2 hXX
    obtain ⟨pb, hpB⟩ : ∃ pb, pb = W0.heap.size := ⟨_, rfl⟩
    obtain ⟨W1, hW1⟩ : ∃ W1, W1 = W0.alloc (.cells #[.int .i64 pcl, .int .i64 pep, .int .i64 pbo, .int .i64 psq, .int .i64 pak, .bool true, .slice au mu cu] 30) := ⟨_, rfl⟩
    have HB1 : Hid (Below W0.heap.size W0 W1) := by rw [hW1]; exact (Below.refl _ _).alloc (Nat.le_refl _) _
    have hpb : W1.heap[pb]? = some (.cells #[.int .i64 pcl, .int .i64 pep, .int .i64 pbo, .int .i64 psq, .int .i64 pak, .bool true, .slice au mu cu] 30) := by rw [hW1, hpB]; exact heap_alloc_new W0 _
    have HD1 : Hid (Duo W1.drew w.heap.size ge g0 g1 P0 X Y) := (HSt.out.duo.below HB1.out).below (bel0 W1)
    have HY1 : Hid (By W1.drew (fun _ => True) (.slice au mu cu) pbs) := (HY6.out.below HB1.out).below (bel0 W1)
    have KS' : Hid (∀ W : World, KT W1 W → W.cell? ⟨ge, 0, none⟩ = some (lp g0) ∧ W.cell? ⟨pb, 0, none⟩ = some (.int .i64 pcl) ∧ W.cell? ⟨pb, 1, none⟩ = some (.int .i64 pep) ∧ W.cell? ⟨pb, 2, none⟩ = some (.int .i64 pbo) ∧ W.cell? ⟨pb, 3, none⟩ = some (.int .i64 psq) ∧ W.cell? ⟨pb, 4, none⟩ = some (.int .i64 pak) ∧ W.cell? ⟨pb, 5, none⟩ = some (.bool true) ∧ W.cell? ⟨pb, 6, none⟩ = some (.slice au mu cu)) := fun W hW => by
      have c := fun i => kt_cell hW hpb (by decide) (by decide) i
      obtain ⟨cs, fr, h9⟩ := HD1.out.et
      refine ⟨(kt_cell hW (show W1.heap[ge]? = _ from h9) (by decide) (by decide) 0).trans HD1.out.e0, (c 0).trans ?_, (c 1).trans ?_, (c 2).trans ?_, (c 3).trans ?_, (c 4).trans ?_, (c 5).trans ?_, (c 6).trans ?_⟩
      all_goals rw [cell_of_row _ _ _ _ _ _ hpb]; rfl
    have d5 : W1.cell? ⟨pb, 5, none⟩ = some (.bool true) := by rw [cell_of_row _ _ _ _ _ _ hpb]; rfl
    clear hpb
    go_upto_region 27 with fail
    rw [← hW1, ← hpB]
    clear hW1 hpB d5
    go_region_held (fun W => W.cell? ⟨ge, 0, none⟩ = some (lp g0) ∧ W.cell? ⟨pb, 0, none⟩ = some (.int .i64 pcl) ∧ W.cell? ⟨pb, 1, none⟩ = some (.int .i64 pep) ∧ W.cell? ⟨pb, 2, none⟩ = some (.int .i64 pbo) ∧ W.cell? ⟨pb, 3, none⟩ = some (.int .i64 psq) ∧ W.cell? ⟨pb, 4, none⟩ = some (.int .i64 pak) ∧ W.cell? ⟨pb, 5, none⟩ = some (.bool true) ∧ W.cell? ⟨pb, 6, none⟩ = some (.slice au mu cu))
      (first
        | with_reducible exact KS'.out _ (KT.of_below (bel0 W1))
        | with_reducible exact KS'.out _ hT5
        | fail)
      (first
        | (go_at_call 14; refine (got_is W1.drew w.heap.size g0 X.ao X.n X.cap (fun _ => True) (idI P0 false) X.L X.s X.h HD1.out.k0 ⟨pcl, pep, pbo, psq, pak, true, pbs⟩ (.slice au mu cu) (fun _ => True) HY1.out (by have := HP5.out.2; simp only; omega) hRh bb n2 h2 XX L2 HG.out.1 HG.out.2.1 HG.out.2.2.2.1 HG.out.2.2.1 HG.out.2.2.2.2).mono ?_; rintro e w5 ⟨v5, rfl, hy5, K5, hO5⟩; have hT5 : KT W1 w5 := (KT.of_below (bel0 W1)).trans (HD1.out.k0.ktOff hO5); have HK5 : Hid (Duo w5 w.heap.size ge g0 g1 P0 ⟨X.ao, n2, X.cap, L2, X.s, h2⟩ Y ∧ Below w.heap.size w w5) := ⟨HD1.out.step0 (Z := ⟨X.ao, n2, X.cap, L2, X.s, h2⟩) K5 hO5 (Nw.refl _ _), ((below_step HBW.out HB1.out).trans ((bel0 W1).mono (by have := HBW.out.size; have := HB1.out.size; omega))).trans (HD1.out.k0.belowB hO5)⟩)
        | fail)
    have HY5 : Hid (By w5 (fun k => W1.drew.heap.size ≤ k) v5 XX) := hy5
    have HT5 : Hid (KT W0 w5) := (KT.of_below HB1.out).trans hT5
    have hebK : w5.heap[eb]? = some (stO 4 (j : Int) (.slice ax m cx)) := (HT5.out.block eb _ 53 _ HEB.out (by decide) (by decide)).trans HEB.out
    have HE5 : Hid (w5.heap[eb]? = some (stO 4 (j : Int) (.slice ax m cx))) := hebK
    have HS5 : Hid (Str4 w5 w.heap.size q6 (q6 + 1) R (LsF In0 In1 X.h Y.h) ∧ Pks w5 w.heap.size (fun _ => True) (.slice (some ⟨g6, 0, none⟩) nw cap) Ws) := ⟨HSt.out.str.kt HT5.out, HSt.out.pks.kt HT5.out⟩
    clear K5 hO5 hy5 hT5 hebK
    cases bb
    · have hq := HIv.out.2.2 rfl
      subst hq
      have d9 : w5.cell? ⟨eb, 0, none⟩ = some (.int .i64 4) := by rw [cell_of_row _ _ _ _ _ _ HE5.out]; rfl
      have HSt8 : Hid (St w5 w.heap.size ge g0 g1 q6 (q6 + 1) P0 ⟨X.ao, n2, X.cap, L2, X.s, X.h⟩ Y In0 In1 Ws (.slice (some ⟨g6, 0, none⟩) nw cap) R ∧ Below w.heap.size w w5) := ⟨⟨HK5.out.1, HS5.out.2, HS5.out.1, HIv.out.1⟩, HK5.out.2⟩
      go_wp2
      go_meet
      exact ⟨⟨X.ao, n2, X.cap, L2, X.s, X.h⟩, Y, In0, In1, Ws, R, some ⟨g6, 0, none⟩, cap, nw, rfl, ⟨HSt8.out.1, HLn.out.1, by have := HLn.out; omega, by have := HLn.out; omega⟩, by omega, HSt8.out.2⟩
    · have hF : Hid (∀ W, w5.heap.size ≤ W.heap.size → (∀ (k : Nat) (cs : Array Value) (e : TypeId) (fr : Nat × Nat), w5.heap[k]? = some (.cells cs e fr) → e ≠ 9 → W.heap[k]? = w5.heap[k]?) → (fun W => W.cell? ⟨q6 + 1, 0, none⟩ = some (.slice (R 2).1 X.h (R 2).2) ∧ (convert 27 9 v5).run Try.prog W = .ok (.string (strOfNums (ci XX))) W ∧ W.frozen? ⟨q6 + 1, 0, none⟩ = false) W) := fun W hW hk => by
        have h2' := hk (q6 + 1) _ 51 _ HS5.out.1.h7 (by decide)
        refine ⟨?_, (HY5.out.keepx hW (fun k cs fr h => hk k cs 5 fr h (by decide))).str, (World.frozen?_of_block (w := w5) h2').trans (HS5.out.1.hfz 2 0)⟩
        have h3 := HS5.out.1.hcell 2 (by decide)
        rw [show (LsF In0 In1 X.h Y.h 2).length = X.h from by simp [LsF]; omega] at h3
        exact (World.cell?_of_block (w := w5) (w' := W) (a := ⟨q6 + 1, 0, none⟩) h2').trans h3
      have hF0 := hF.out w5.drew (Nat.le_refl _) (fun _ _ _ _ _ _ => rfl)
      have hb1 : Below w5.heap.size w5 (w5.alloc (.cells #[.string (strOfNums (ci XX))] 9)).drew := belD w5 _
      have hF1 := hF.out (w5.alloc (.cells #[.string (strOfNums (ci XX))] 9)).drew hb1.size (fun k cs e fr hk he => hb1.block k (Array.getElem?_eq_some_iff.1 hk).1)
      have hHL : X.h ≤ 1000000 := by have := HLn.out; omega
      go_upto_region 29 with fail
      refine wp_region_till (fun W => W.cell? ⟨q6 + 1, 0, none⟩ = some (.slice (R 2).1 X.h (R 2).2) ∧ (convert 27 9 v5).run Try.prog W = .ok (.string (strOfNums (ci XX))) W ∧ W.frozen? ⟨q6 + 1, 0, none⟩ = false) 9 (by kernel_rfl) ?_
      refine Till.val (i := 0) ?_ 145 rfl rfl rfl (by kernel_rfl) (by decide) (by kernel_rfl) (by kernel_rfl) (by kernel_rfl) (by kernel_rfl) (by rfl) (fun _ _ _ h => h) hF0 ?_ ?_
      rotate_left
      · (intro w hSw; obtain ⟨c1, c2, c3⟩ := hSw; go_simp; first | done | with_reducible rfl)
      simp only [Act.put, List.setIfInBounds_toArray, List.set_cons_zero, List.set_cons_succ]
      refine Till.val (i := 1) ?_ 146 rfl rfl rfl (by kernel_rfl) (by decide) (by kernel_rfl) (by kernel_rfl) (by kernel_rfl) (by kernel_rfl) (by rfl) (fun _ _ _ h => h) hF0 ?_ ?_
      rotate_left
      · (intro w hSw; obtain ⟨c1, c2, c3⟩ := hSw; go_simp; first | done | with_reducible rfl)
      simp only [Act.put, List.setIfInBounds_toArray, List.set_cons_zero, List.set_cons_succ]
      refine Till.val (i := 2) ?_ 147 rfl rfl rfl (by kernel_rfl) (by decide) (by kernel_rfl) (by kernel_rfl) (by kernel_rfl) (by kernel_rfl) (by rfl) (fun _ _ _ h => h) hF0 ?_ ?_
      rotate_left
      · (intro w hSw; obtain ⟨c1, c2, c3⟩ := hSw; go_simp; first | done | with_reducible rfl)
      simp only [Act.put, List.setIfInBounds_toArray, List.set_cons_zero, List.set_cons_succ]
      refine Till.val (i := 3) ?_ 148 rfl rfl rfl (by kernel_rfl) (by decide) (by kernel_rfl) (by kernel_rfl) (by kernel_rfl) (by kernel_rfl) (by rfl) (fun _ _ _ h => h) hF0 ?_ ?_
      rotate_left
      · (intro w hSw; obtain ⟨c1, c2, c3⟩ := hSw; go_simp; first | done | with_reducible rfl)
      simp only [Act.put, List.setIfInBounds_toArray, List.set_cons_zero, List.set_cons_succ]
      refine Till.val (i := 4) ?_ 149 rfl rfl rfl (by kernel_rfl) (by decide) (by kernel_rfl) (by kernel_rfl) (by kernel_rfl) (by kernel_rfl) (by rfl) (fun _ _ _ h => h) hF0 ?_ ?_
      rotate_left
      · (intro w hSw; obtain ⟨c1, c2, c3⟩ := hSw; go_simp; first | done | with_reducible rfl)
      simp only [Act.put, List.setIfInBounds_toArray, List.set_cons_zero, List.set_cons_succ]
      refine Till.val (i := 5) ?_ 150 rfl rfl rfl (by kernel_rfl) (by decide) (by kernel_rfl) (by kernel_rfl) (by kernel_rfl) (by kernel_rfl) (by rfl) (fun _ _ _ h => h) hF0 ?_ ?_
      rotate_left
      · (intro w hSw; obtain ⟨c1, c2, c3⟩ := hSw; go_simp; first | done | with_reducible rfl)
      simp only [Act.put, List.setIfInBounds_toArray, List.set_cons_zero, List.set_cons_succ]
      refine Till.run (i := 6) 151 (.slice (some ⟨w5.heap.size, 0, none⟩) 1 1) (w5.alloc (.cells #[.string (strOfNums (ci XX))] 9)).drew rfl rfl (by kernel_rfl) (by rfl) (by go_simp) hF1 ?_
      simp only [Act.put, List.setIfInBounds_toArray, List.set_cons_zero, List.set_cons_succ]
      have hS1 : Str4 (w5.alloc (.cells #[.string (strOfNums (ci XX))] 9)).drew w.heap.size q6 (q6 + 1) R (LsF In0 In1 X.h Y.h) := HS5.out.1.below hb1
      have hL3 : (LsF In0 In1 X.h Y.h 2).length = X.h := by simp [LsF]; omega
      refine till_append_at (i := 7) (n := X.h) (m := 1) (xs := (LsF In0 In1 X.h Y.h 2).map sv) (ys := [sv XX]) 152 (.tmp 148) (.tmp 151) 50 rfl rfl (by kernel_rfl) (by rfl) rfl w.heap.size 9 (.string ⟨#[]⟩) 16 Try.underlying50 info9 rfl rfl rfl (hS1.row 2 (by decide)) (RdS.drew (RdS.one w5 9 (sv XX))) (by rw [List.length_map, hL3]) rfl (sv_one [XX]) (by omega) (by unfold maxLen; omega) (below_step HK5.out.2 hb1).size ?_
      intro ao3 cap3 w6 ho6 hg6 ha6
      rw [← hL3] at hg6
      have hBg : Below w.heap.size (w5.alloc (.cells #[.string (strOfNums (ci XX))] 9)).drew w6 := by
        have h9 := hS1.row 2 (by decide)
        exact OwnS.grown h9 (Nat.le_refl _) (below_step HK5.out.2 hb1).size (by rw [List.length_map]; exact hg6)
      have hF6 := hF.out w6 (Nat.le_trans hb1.size hg6.size) (fun k cs e fr hk he => by
        have h1 := hb1.block k (Array.getElem?_eq_some_iff.1 hk).1
        exact (hS1.grown9 (i := 2) (by decide) hg6 k cs e fr (h1.trans hk) he).trans h1)
      refine ⟨hF6, ?_⟩
      simp only [Act.put, List.setIfInBounds_toArray, List.set_cons_zero, List.set_cons_succ]
      refine Till.val (i := 8) ?_ 153 rfl rfl rfl (by kernel_rfl) (by decide) (by kernel_rfl) (by kernel_rfl) (by kernel_rfl) (by kernel_rfl) (by rfl) (fun _ _ _ h => h) hF6 ?_ ?_
      rotate_left
      · (intro w hSw; obtain ⟨c1, c2, c3⟩ := hSw; go_simp; first | done | with_reducible rfl)
      simp only [Act.put, List.setIfInBounds_toArray, List.set_cons_zero, List.set_cons_succ]
      obtain ⟨hS7, hK7⟩ := hS1.add (i := 2) (by decide) (b := XX) ho6 hg6 ha6
      rw [hL3] at hS7 hK7
      obtain ⟨f1, f2, f3⟩ := hF6
      refine Till.last (w6.setCell ⟨q6 + 1, 0, none⟩ (.slice ao3 (X.h + 1) cap3)) rfl rfl (by kernel_rfl) (by decide) (by rfl) (by go_simp) ?_
      refine Till.done (by kernel_rfl) ?_ _
      have hK : KS w5 (w6.setCell ⟨q6 + 1, 0, none⟩ (.slice ao3 (X.h + 1) cap3)) := (KS.of_below hb1).trans hK7
      have hB7 : Below w.heap.size w (w6.setCell ⟨q6 + 1, 0, none⟩ (.slice ao3 (X.h + 1) cap3)) := ((below_step HK5.out.2 hb1).trans hBg).setCell HQ6.out.2 _
      have hS8 : Str4 (w6.setCell ⟨q6 + 1, 0, none⟩ (.slice ao3 (X.h + 1) cap3)) w.heap.size q6 (q6 + 1) (setR R 2 (ao3, cap3)) (LsF In0 In1 h2 Y.h) := by rw [← LsF_told0 (In0 := In0) (In1 := In1) (h0 := X.h) (h1 := Y.h) (HIv.out.2.1 rfl)]; exact hS7
      have hE8 := (hK.block eb _ 53 _ HE5.out (by decide) (by decide)).trans HE5.out
      have HSt8 : Hid (St (w6.setCell ⟨q6 + 1, 0, none⟩ (.slice ao3 (X.h + 1) cap3)) w.heap.size ge g0 g1 q6 (q6 + 1) P0 ⟨X.ao, n2, X.cap, L2, X.s, h2⟩ Y In0 In1 Ws (.slice (some ⟨g6, 0, none⟩) nw cap) (setR R 2 (ao3, cap3)) ∧ Below w.heap.size w (w6.setCell ⟨q6 + 1, 0, none⟩ (.slice ao3 (X.h + 1) cap3))) := ⟨⟨HK5.out.1.ks hK, HS5.out.2.ks hK, hS8, HIv.out.1⟩, hB7⟩
      clear hS8 hS7 hK7 hK hB7 hBg hF1 hF0 hb1 hS1 f1 f2 f3 ho6 hg6 ha6
      generalize w6.setCell ⟨q6 + 1, 0, none⟩ (.slice ao3 (X.h + 1) cap3) = w8 at *
      have HE8 : Hid (w8.heap[eb]? = some (stO 4 (j : Int) (.slice ax m cx))) := hE8
      have d9 : w8.cell? ⟨eb, 0, none⟩ = some (.int .i64 4) := by rw [cell_of_row _ _ _ _ _ _ hE8]; rfl
      clear hE8
      go_wp2
      go_meet
      exact ⟨⟨X.ao, n2, X.cap, L2, X.s, h2⟩, Y, In0, In1, Ws, (setR R 2 (ao3, cap3)), some ⟨g6, 0, none⟩, cap, nw, rfl, ⟨HSt8.out.1, HLn.out.1, by have := HLn.out; omega, by have := HLn.out; omega⟩, by omega, HSt8.out.2⟩

end Go.Proofs.Ytgdlejeopdipiaa
