/- Which messages can be: the document's answer, walked. Which messages can be: the document's answer, walked. Which messages can be: the document's answer, walked. Which messages can be: the document's answer, walked. -/
import Derived.Test.YtgeoeaadeemmcaaNk
namespace Go.Proofs.Ytgeoeaadeemmcaa
open Go.RowKit
set_option linter.unusedVariables false

set_option maxHeartbeats 4000000 in
set_option maxRecDepth 100000 in
theorem refRight_01z (k : Int) (hk : k = 0 ∨ k = 1) (p o t c n : Int) (wr : Bool) (ps : List PutG) (v0 v1 v2 v3 : Nat × Nat) (ao : Option Addr) (cap : Nat) (w : World) (h : RdP w ao 0 cap ps) (hN : Nb k p o t n) (hv : ∀ x ∈ [v0, v1, v2, v3], wordB x) :
    Calls Try.prog 53 #[msV ⟨k, p, o, t, c, n, wr, ps, v0, v1, v2, v3⟩ ao 0 cap] w fun x w' => x = .returned (.bool (rightB ⟨k, p, o, t, c, n, wr, ps, v0, v1, v2, v3⟩)) ∧ Below w.heap.size w w' := by
  have HK : Hid (k = 0 ∨ k = 1) := hk
  have HI : Hid (rightB ⟨k, p, o, t, c, n, wr, ps, v0, v1, v2, v3⟩ = true ↔ (0 ≤ c ∧ c ≤ 15) ∧ t = 0 ∧ n = 0 ∧ c = 0 ∧ wr = false ∧ 0 = 0 ∧ allSame [v0, v1, v2, v3] [z2, z2, z2, z2] = true ∧ putsB ps = true) := by
    rcases hk with e | e
    · subst e; exact iff_0 p o t c n wr ps 0 v0 v1 v2 v3 ⟨hN.p, hN.o, hN.t, hN.n⟩ h.len
    · subst e; exact iff_1 p o t c n wr ps 0 v0 v1 v2 v3 ⟨hN.p, hN.o, hN.t, hN.n⟩ h.len
  have k1 : ¬ k < 0 := by omega
  have k2 : ¬ 8 < k := by omega
  have k8 : (k == 8) = false := by simp; omega
  have k9 : (k != 8) = true := by simp; omega
  clear hk
  have HR : Hid (RdP w ao 0 cap ps) := h
  have HV : Hid (∀ x ∈ [v0, v1, v2, v3], wordB x) := hv
  have HM : Hid (MgAt (w.alloc (msO ⟨k, p, o, t, c, n, wr, ps, v0, v1, v2, v3⟩ ao 0 cap)) w.heap.size ⟨k, p, o, t, c, n, wr, ps, v0, v1, v2, v3⟩ ao 0 cap) := MgAt.new w _ ao 0 cap
  obtain ⟨⟨p0, p1⟩, ⟨o0, o1⟩, ⟨t0, t1⟩, n0, n1⟩ := hN
  have hB0 : Below w.heap.size w (w.alloc (msO ⟨k, p, o, t, c, n, wr, ps, v0, v1, v2, v3⟩ ao 0 cap)) := below_box _ _
  clear h hv
  go_enter Try.func53, Try.ntmps53
  go_wp2_with (first
    | (go_at_call 66; refine (refPuts_any ao 0 cap ps _ (HR.out.below hBy) (by omega)).mono ?_; rintro x w3 ⟨rfl, hb3⟩; have hB3 : Below w.heap.size w w3 := below_step hBy hb3; clear hb3)
    | (go_at_call 66; refine (refPuts_any ao 0 cap ps _ (HR.out.below hBx) (by omega)).mono ?_; rintro x w3 ⟨rfl, hb3⟩; have hB3 : Below w.heap.size w w3 := below_step hBx hb3; clear hb3)
    | (go_at_call 29; refine (refValues_any v0 v1 v2 v3 z2 z2 z2 z2 HV.out (words4 ⟨by decide, by decide⟩ ⟨by decide, by decide⟩ ⟨by decide, by decide⟩ ⟨by decide, by decide⟩) _).mono ?_; rintro x w2 ⟨rfl, hb2⟩; have hBy : Below w.heap.size w w2 := below_step hBx hb2; have s7 : w2.cell? ⟨w.heap.size, 7, none⟩ = some (.slice ao 0 cap) := (HMx.out.below hb2).c7; clear hb2)
    | (go_at_call 65; refine (has_01 k HK.out _).mono ?_; rintro x w1 ⟨rfl, hb1⟩; have HMx : Hid (MgAt (w1.alloc (.cells #[.bool true, .bool false, .bool false, .bool false, .bool false, .bool false] 104)) w.heap.size ⟨k, p, o, t, c, n, wr, ps, v0, v1, v2, v3⟩ ao 0 cap) := (HM.out.below hb1).below (below_box _ _); have tm := HMx.out; have q0 : (w1.alloc (.cells #[.bool true, .bool false, .bool false, .bool false, .bool false, .bool false] 104)).cell? ⟨w.heap.size, 0, none⟩ = some (.int .i64 k) := tm.c0; have q1 : (w1.alloc (.cells #[.bool true, .bool false, .bool false, .bool false, .bool false, .bool false] 104)).cell? ⟨w.heap.size, 1, none⟩ = some (.int .i64 p) := tm.c1; have q2 : (w1.alloc (.cells #[.bool true, .bool false, .bool false, .bool false, .bool false, .bool false] 104)).cell? ⟨w.heap.size, 2, none⟩ = some (.int .i64 o) := tm.c2; have q3 : (w1.alloc (.cells #[.bool true, .bool false, .bool false, .bool false, .bool false, .bool false] 104)).cell? ⟨w.heap.size, 3, none⟩ = some (.int .i64 t) := tm.c3; have q4 : (w1.alloc (.cells #[.bool true, .bool false, .bool false, .bool false, .bool false, .bool false] 104)).cell? ⟨w.heap.size, 4, none⟩ = some (.int .i64 c) := tm.c4; have q5 : (w1.alloc (.cells #[.bool true, .bool false, .bool false, .bool false, .bool false, .bool false] 104)).cell? ⟨w.heap.size, 5, none⟩ = some (.int .i64 n) := tm.c5; have q6 : (w1.alloc (.cells #[.bool true, .bool false, .bool false, .bool false, .bool false, .bool false] 104)).cell? ⟨w.heap.size, 6, none⟩ = some (.bool wr) := tm.c6; have q7 : (w1.alloc (.cells #[.bool true, .bool false, .bool false, .bool false, .bool false, .bool false] 104)).cell? ⟨w.heap.size, 7, none⟩ = some (.slice ao 0 cap) := tm.c7; have q8 : (w1.alloc (.cells #[.bool true, .bool false, .bool false, .bool false, .bool false, .bool false] 104)).cell? ⟨w.heap.size, 8, none⟩ = some (.complex .f64 v0.1 v0.2) := tm.c8; have q9 : (w1.alloc (.cells #[.bool true, .bool false, .bool false, .bool false, .bool false, .bool false] 104)).cell? ⟨w.heap.size, 9, none⟩ = some (.complex .f64 v1.1 v1.2) := tm.c9; have q10 : (w1.alloc (.cells #[.bool true, .bool false, .bool false, .bool false, .bool false, .bool false] 104)).cell? ⟨w.heap.size, 10, none⟩ = some (.complex .f64 v2.1 v2.2) := tm.cA; have q11 : (w1.alloc (.cells #[.bool true, .bool false, .bool false, .bool false, .bool false, .bool false] 104)).cell? ⟨w.heap.size, 11, none⟩ = some (.complex .f64 v3.1 v3.2) := tm.cB; have hBx : Below w.heap.size w (w1.alloc (.cells #[.bool true, .bool false, .bool false, .bool false, .bool false, .bool false] 104)) := below_step (below_alloc (hb1.mono (by simp))) (below_box _ _); clear tm hb1 p0 p1 o0 o1 t0 t1 n0 n1)
    | (fail))
  all_goals
    go_ret
    refine ⟨ret_bool (Bool.eq_iff_iff.2 ?_), ?_⟩
    · refine Iff.trans ?_ HI.out.symm
      clear HI HR HV HM
      first
        | (simp_all; done)
        | (simp_all; omega)
        | (constructor <;> intro hh <;> simp_all <;> omega)
    · first | exact hB3 | exact hBy | exact hBx | exact hB0

set_option maxHeartbeats 4000000 in
set_option maxRecDepth 100000 in
theorem refRight_01n (k : Int) (hk : k = 0 ∨ k = 1) (p o t c n : Int) (wr : Bool) (ps : List PutG) (v0 v1 v2 v3 : Nat × Nat) (ao : Option Addr) (nn cap : Nat) (w : World) (h : RdP w ao nn cap ps) (hnn : nn ≤ 140737488355328) (hnz0 : nn ≠ 0) (hN : Nb k p o t n) (hv : ∀ x ∈ [v0, v1, v2, v3], wordB x) :
    Calls Try.prog 53 #[msV ⟨k, p, o, t, c, n, wr, ps, v0, v1, v2, v3⟩ ao nn cap] w fun x w' => x = .returned (.bool (rightB ⟨k, p, o, t, c, n, wr, ps, v0, v1, v2, v3⟩)) ∧ Below w.heap.size w w' := by
  have HK : Hid (k = 0 ∨ k = 1) := hk
  have HI : Hid (rightB ⟨k, p, o, t, c, n, wr, ps, v0, v1, v2, v3⟩ = true ↔ (0 ≤ c ∧ c ≤ 15) ∧ t = 0 ∧ n = 0 ∧ c = 0 ∧ wr = false ∧ nn = 0 ∧ allSame [v0, v1, v2, v3] [z2, z2, z2, z2] = true ∧ putsB ps = true) := by
    rcases hk with e | e
    · subst e; exact iff_0 p o t c n wr ps nn v0 v1 v2 v3 ⟨hN.p, hN.o, hN.t, hN.n⟩ h.len
    · subst e; exact iff_1 p o t c n wr ps nn v0 v1 v2 v3 ⟨hN.p, hN.o, hN.t, hN.n⟩ h.len
  have k1 : ¬ k < 0 := by omega
  have k2 : ¬ 8 < k := by omega
  have k8 : (k == 8) = false := by simp; omega
  have k9 : (k != 8) = true := by simp; omega
  clear hk
  have HR : Hid (RdP w ao nn cap ps) := h
  have hnz : ((nn : Int) == 0) = false := by simp; omega
  have HV : Hid (∀ x ∈ [v0, v1, v2, v3], wordB x) := hv
  have HM : Hid (MgAt (w.alloc (msO ⟨k, p, o, t, c, n, wr, ps, v0, v1, v2, v3⟩ ao nn cap)) w.heap.size ⟨k, p, o, t, c, n, wr, ps, v0, v1, v2, v3⟩ ao nn cap) := MgAt.new w _ ao nn cap
  obtain ⟨⟨p0, p1⟩, ⟨o0, o1⟩, ⟨t0, t1⟩, n0, n1⟩ := hN
  have hB0 : Below w.heap.size w (w.alloc (msO ⟨k, p, o, t, c, n, wr, ps, v0, v1, v2, v3⟩ ao nn cap)) := below_box _ _
  clear h hv
  go_enter Try.func53, Try.ntmps53
  go_wp2_with (first
    | (go_at_call 66; refine (refPuts_any ao nn cap ps _ (HR.out.below hBy) hnn).mono ?_; rintro x w3 ⟨rfl, hb3⟩; have hB3 : Below w.heap.size w w3 := below_step hBy hb3; clear hb3)
    | (go_at_call 66; refine (refPuts_any ao nn cap ps _ (HR.out.below hBx) hnn).mono ?_; rintro x w3 ⟨rfl, hb3⟩; have hB3 : Below w.heap.size w w3 := below_step hBx hb3; clear hb3)
    | (go_at_call 29; refine (refValues_any v0 v1 v2 v3 z2 z2 z2 z2 HV.out (words4 ⟨by decide, by decide⟩ ⟨by decide, by decide⟩ ⟨by decide, by decide⟩ ⟨by decide, by decide⟩) _).mono ?_; rintro x w2 ⟨rfl, hb2⟩; have hBy : Below w.heap.size w w2 := below_step hBx hb2; have s7 : w2.cell? ⟨w.heap.size, 7, none⟩ = some (.slice ao nn cap) := (HMx.out.below hb2).c7; clear hb2)
    | (go_at_call 65; refine (has_01 k HK.out _).mono ?_; rintro x w1 ⟨rfl, hb1⟩; have HMx : Hid (MgAt (w1.alloc (.cells #[.bool true, .bool false, .bool false, .bool false, .bool false, .bool false] 104)) w.heap.size ⟨k, p, o, t, c, n, wr, ps, v0, v1, v2, v3⟩ ao nn cap) := (HM.out.below hb1).below (below_box _ _); have tm := HMx.out; have q0 : (w1.alloc (.cells #[.bool true, .bool false, .bool false, .bool false, .bool false, .bool false] 104)).cell? ⟨w.heap.size, 0, none⟩ = some (.int .i64 k) := tm.c0; have q1 : (w1.alloc (.cells #[.bool true, .bool false, .bool false, .bool false, .bool false, .bool false] 104)).cell? ⟨w.heap.size, 1, none⟩ = some (.int .i64 p) := tm.c1; have q2 : (w1.alloc (.cells #[.bool true, .bool false, .bool false, .bool false, .bool false, .bool false] 104)).cell? ⟨w.heap.size, 2, none⟩ = some (.int .i64 o) := tm.c2; have q3 : (w1.alloc (.cells #[.bool true, .bool false, .bool false, .bool false, .bool false, .bool false] 104)).cell? ⟨w.heap.size, 3, none⟩ = some (.int .i64 t) := tm.c3; have q4 : (w1.alloc (.cells #[.bool true, .bool false, .bool false, .bool false, .bool false, .bool false] 104)).cell? ⟨w.heap.size, 4, none⟩ = some (.int .i64 c) := tm.c4; have q5 : (w1.alloc (.cells #[.bool true, .bool false, .bool false, .bool false, .bool false, .bool false] 104)).cell? ⟨w.heap.size, 5, none⟩ = some (.int .i64 n) := tm.c5; have q6 : (w1.alloc (.cells #[.bool true, .bool false, .bool false, .bool false, .bool false, .bool false] 104)).cell? ⟨w.heap.size, 6, none⟩ = some (.bool wr) := tm.c6; have q7 : (w1.alloc (.cells #[.bool true, .bool false, .bool false, .bool false, .bool false, .bool false] 104)).cell? ⟨w.heap.size, 7, none⟩ = some (.slice ao nn cap) := tm.c7; have q8 : (w1.alloc (.cells #[.bool true, .bool false, .bool false, .bool false, .bool false, .bool false] 104)).cell? ⟨w.heap.size, 8, none⟩ = some (.complex .f64 v0.1 v0.2) := tm.c8; have q9 : (w1.alloc (.cells #[.bool true, .bool false, .bool false, .bool false, .bool false, .bool false] 104)).cell? ⟨w.heap.size, 9, none⟩ = some (.complex .f64 v1.1 v1.2) := tm.c9; have q10 : (w1.alloc (.cells #[.bool true, .bool false, .bool false, .bool false, .bool false, .bool false] 104)).cell? ⟨w.heap.size, 10, none⟩ = some (.complex .f64 v2.1 v2.2) := tm.cA; have q11 : (w1.alloc (.cells #[.bool true, .bool false, .bool false, .bool false, .bool false, .bool false] 104)).cell? ⟨w.heap.size, 11, none⟩ = some (.complex .f64 v3.1 v3.2) := tm.cB; have hBx : Below w.heap.size w (w1.alloc (.cells #[.bool true, .bool false, .bool false, .bool false, .bool false, .bool false] 104)) := below_step (below_alloc (hb1.mono (by simp))) (below_box _ _); clear tm hb1 p0 p1 o0 o1 t0 t1 n0 n1)
    | (fail))
  all_goals
    go_ret
    refine ⟨ret_bool (Bool.eq_iff_iff.2 ?_), ?_⟩
    · refine Iff.trans ?_ HI.out.symm
      clear HI HR HV HM
      first
        | (simp_all; done)
        | (simp_all; omega)
        | (constructor <;> intro hh <;> simp_all <;> omega)
    · first | exact hB3 | exact hBy | exact hBx | exact hB0

end Go.Proofs.Ytgeoeaadeemmcaa

namespace Go.Proofs.Ytgeoeaadeemmcaa
open Go.RowKit
set_option linter.unusedVariables false

set_option maxHeartbeats 4000000 in
set_option maxRecDepth 100000 in
theorem refRight_2 (p o t c n : Int) (wr : Bool) (ps : List PutG) (v0 v1 v2 v3 : Nat × Nat) (ao : Option Addr) (nn cap : Nat) (w : World) (h : RdP w ao nn cap ps) (hnn : nn ≤ 140737488355328) (hN : Nb 2 p o t n) (hv : ∀ x ∈ [v0, v1, v2, v3], wordB x) :
    Calls Try.prog 53 #[msV ⟨2, p, o, t, c, n, wr, ps, v0, v1, v2, v3⟩ ao nn cap] w fun x w' => x = .returned (.bool (rightB ⟨2, p, o, t, c, n, wr, ps, v0, v1, v2, v3⟩)) ∧ Below w.heap.size w w' := by
  have HI : Hid _ := iff_2 p o t c n wr ps nn v0 v1 v2 v3 hN h.len
  have HR : Hid (RdP w ao nn cap ps) := h
  have HV : Hid (∀ x ∈ [v0, v1, v2, v3], wordB x) := hv
  have HM : Hid (MgAt (w.alloc (msO ⟨2, p, o, t, c, n, wr, ps, v0, v1, v2, v3⟩ ao nn cap)) w.heap.size ⟨2, p, o, t, c, n, wr, ps, v0, v1, v2, v3⟩ ao nn cap) := MgAt.new w _ ao nn cap
  obtain ⟨⟨p0, p1⟩, ⟨o0, o1⟩, ⟨t0, t1⟩, n0, n1⟩ := hN
  have hB0 : Below w.heap.size w (w.alloc (msO ⟨2, p, o, t, c, n, wr, ps, v0, v1, v2, v3⟩ ao nn cap)) := below_box _ _
  clear h hv
  go_enter Try.func53, Try.ntmps53
  go_wp2_with (first
    | (go_at_call 66; refine (refPuts_any ao nn cap ps _ (HR.out.below hBy) hnn).mono ?_; rintro x w3 ⟨rfl, hb3⟩; have hB3 : Below w.heap.size w w3 := below_step hBy hb3; clear hb3)
    | (go_at_call 66; refine (refPuts_any ao nn cap ps _ (HR.out.below hBx) hnn).mono ?_; rintro x w3 ⟨rfl, hb3⟩; have hB3 : Below w.heap.size w w3 := below_step hBx hb3; clear hb3)
    | (go_at_call 29; refine (refValues_any v0 v1 v2 v3 z2 z2 z2 z2 HV.out (words4 ⟨by decide, by decide⟩ ⟨by decide, by decide⟩ ⟨by decide, by decide⟩ ⟨by decide, by decide⟩) _).mono ?_; rintro x w2 ⟨rfl, hb2⟩; have hBy : Below w.heap.size w w2 := below_step hBx hb2; have s7 : w2.cell? ⟨w.heap.size, 7, none⟩ = some (.slice ao nn cap) := (HMx.out.below hb2).c7; clear hb2)
    | (go_at_call 65; refine (has_2 _).mono ?_; rintro x w1 ⟨rfl, hb1⟩; have HMx : Hid (MgAt (w1.alloc (.cells #[.bool false, .bool true, .bool false, .bool false, .bool true, .bool false] 104)) w.heap.size ⟨2, p, o, t, c, n, wr, ps, v0, v1, v2, v3⟩ ao nn cap) := (HM.out.below hb1).below (below_box _ _); have tm := HMx.out; have q0 : (w1.alloc (.cells #[.bool false, .bool true, .bool false, .bool false, .bool true, .bool false] 104)).cell? ⟨w.heap.size, 0, none⟩ = some (.int .i64 2) := tm.c0; have q1 : (w1.alloc (.cells #[.bool false, .bool true, .bool false, .bool false, .bool true, .bool false] 104)).cell? ⟨w.heap.size, 1, none⟩ = some (.int .i64 p) := tm.c1; have q2 : (w1.alloc (.cells #[.bool false, .bool true, .bool false, .bool false, .bool true, .bool false] 104)).cell? ⟨w.heap.size, 2, none⟩ = some (.int .i64 o) := tm.c2; have q3 : (w1.alloc (.cells #[.bool false, .bool true, .bool false, .bool false, .bool true, .bool false] 104)).cell? ⟨w.heap.size, 3, none⟩ = some (.int .i64 t) := tm.c3; have q4 : (w1.alloc (.cells #[.bool false, .bool true, .bool false, .bool false, .bool true, .bool false] 104)).cell? ⟨w.heap.size, 4, none⟩ = some (.int .i64 c) := tm.c4; have q5 : (w1.alloc (.cells #[.bool false, .bool true, .bool false, .bool false, .bool true, .bool false] 104)).cell? ⟨w.heap.size, 5, none⟩ = some (.int .i64 n) := tm.c5; have q6 : (w1.alloc (.cells #[.bool false, .bool true, .bool false, .bool false, .bool true, .bool false] 104)).cell? ⟨w.heap.size, 6, none⟩ = some (.bool wr) := tm.c6; have q7 : (w1.alloc (.cells #[.bool false, .bool true, .bool false, .bool false, .bool true, .bool false] 104)).cell? ⟨w.heap.size, 7, none⟩ = some (.slice ao nn cap) := tm.c7; have q8 : (w1.alloc (.cells #[.bool false, .bool true, .bool false, .bool false, .bool true, .bool false] 104)).cell? ⟨w.heap.size, 8, none⟩ = some (.complex .f64 v0.1 v0.2) := tm.c8; have q9 : (w1.alloc (.cells #[.bool false, .bool true, .bool false, .bool false, .bool true, .bool false] 104)).cell? ⟨w.heap.size, 9, none⟩ = some (.complex .f64 v1.1 v1.2) := tm.c9; have q10 : (w1.alloc (.cells #[.bool false, .bool true, .bool false, .bool false, .bool true, .bool false] 104)).cell? ⟨w.heap.size, 10, none⟩ = some (.complex .f64 v2.1 v2.2) := tm.cA; have q11 : (w1.alloc (.cells #[.bool false, .bool true, .bool false, .bool false, .bool true, .bool false] 104)).cell? ⟨w.heap.size, 11, none⟩ = some (.complex .f64 v3.1 v3.2) := tm.cB; have hBx : Below w.heap.size w (w1.alloc (.cells #[.bool false, .bool true, .bool false, .bool false, .bool true, .bool false] 104)) := below_step (below_alloc (hb1.mono (by simp))) (below_box _ _); clear tm hb1 p0 p1 o0 o1 t0 t1 n0 n1)
    | (fail))
  all_goals
    go_ret
    refine ⟨ret_bool (Bool.eq_iff_iff.2 ?_), ?_⟩
    · refine Iff.trans ?_ HI.out.symm
      clear HI HR HV HM
      first
        | (simp_all; done)
        | (simp_all; omega)
        | (constructor <;> intro hh <;> simp_all <;> omega)
    · first | exact hB3 | exact hBy | exact hBx | exact hB0

end Go.Proofs.Ytgeoeaadeemmcaa

namespace Go.Proofs.Ytgeoeaadeemmcaa
open Go.RowKit
set_option linter.unusedVariables false

set_option maxHeartbeats 4000000 in
set_option maxRecDepth 100000 in
theorem refRight_3z (p o t c n : Int) (wr : Bool) (ps : List PutG) (v0 v1 v2 v3 : Nat × Nat) (ao : Option Addr) (cap : Nat) (w : World) (h : RdP w ao 0 cap ps) (hN : Nb 3 p o t n) (hv : ∀ x ∈ [v0, v1, v2, v3], wordB x) :
    Calls Try.prog 53 #[msV ⟨3, p, o, t, c, n, wr, ps, v0, v1, v2, v3⟩ ao 0 cap] w fun x w' => x = .returned (.bool (rightB ⟨3, p, o, t, c, n, wr, ps, v0, v1, v2, v3⟩)) ∧ Below w.heap.size w w' := by
  have HI : Hid _ := iff_3 p o t c n wr ps 0 v0 v1 v2 v3 hN h.len
  have HR : Hid (RdP w ao 0 cap ps) := h
  have HV : Hid (∀ x ∈ [v0, v1, v2, v3], wordB x) := hv
  have HM : Hid (MgAt (w.alloc (msO ⟨3, p, o, t, c, n, wr, ps, v0, v1, v2, v3⟩ ao 0 cap)) w.heap.size ⟨3, p, o, t, c, n, wr, ps, v0, v1, v2, v3⟩ ao 0 cap) := MgAt.new w _ ao 0 cap
  obtain ⟨⟨p0, p1⟩, ⟨o0, o1⟩, ⟨t0, t1⟩, n0, n1⟩ := hN
  have hB0 : Below w.heap.size w (w.alloc (msO ⟨3, p, o, t, c, n, wr, ps, v0, v1, v2, v3⟩ ao 0 cap)) := below_box _ _
  clear h hv
  go_enter Try.func53, Try.ntmps53
  go_wp2_with (first
    | (go_at_call 66; refine (refPuts_any ao 0 cap ps _ (HR.out.below hBy) (by omega)).mono ?_; rintro x w3 ⟨rfl, hb3⟩; have hB3 : Below w.heap.size w w3 := below_step hBy hb3; clear hb3)
    | (go_at_call 66; refine (refPuts_any ao 0 cap ps _ (HR.out.below hBx) (by omega)).mono ?_; rintro x w3 ⟨rfl, hb3⟩; have hB3 : Below w.heap.size w w3 := below_step hBx hb3; clear hb3)
    | (go_at_call 29; refine (refValues_any v0 v1 v2 v3 z2 z2 z2 z2 HV.out (words4 ⟨by decide, by decide⟩ ⟨by decide, by decide⟩ ⟨by decide, by decide⟩ ⟨by decide, by decide⟩) _).mono ?_; rintro x w2 ⟨rfl, hb2⟩; have hBy : Below w.heap.size w w2 := below_step hBx hb2; have s7 : w2.cell? ⟨w.heap.size, 7, none⟩ = some (.slice ao 0 cap) := (HMx.out.below hb2).c7; clear hb2)
    | (go_at_call 65; refine (has_3 _).mono ?_; rintro x w1 ⟨rfl, hb1⟩; have HMx : Hid (MgAt (w1.alloc (.cells #[.bool false, .bool false, .bool true, .bool false, .bool false, .bool false] 104)) w.heap.size ⟨3, p, o, t, c, n, wr, ps, v0, v1, v2, v3⟩ ao 0 cap) := (HM.out.below hb1).below (below_box _ _); have tm := HMx.out; have q0 : (w1.alloc (.cells #[.bool false, .bool false, .bool true, .bool false, .bool false, .bool false] 104)).cell? ⟨w.heap.size, 0, none⟩ = some (.int .i64 3) := tm.c0; have q1 : (w1.alloc (.cells #[.bool false, .bool false, .bool true, .bool false, .bool false, .bool false] 104)).cell? ⟨w.heap.size, 1, none⟩ = some (.int .i64 p) := tm.c1; have q2 : (w1.alloc (.cells #[.bool false, .bool false, .bool true, .bool false, .bool false, .bool false] 104)).cell? ⟨w.heap.size, 2, none⟩ = some (.int .i64 o) := tm.c2; have q3 : (w1.alloc (.cells #[.bool false, .bool false, .bool true, .bool false, .bool false, .bool false] 104)).cell? ⟨w.heap.size, 3, none⟩ = some (.int .i64 t) := tm.c3; have q4 : (w1.alloc (.cells #[.bool false, .bool false, .bool true, .bool false, .bool false, .bool false] 104)).cell? ⟨w.heap.size, 4, none⟩ = some (.int .i64 c) := tm.c4; have q5 : (w1.alloc (.cells #[.bool false, .bool false, .bool true, .bool false, .bool false, .bool false] 104)).cell? ⟨w.heap.size, 5, none⟩ = some (.int .i64 n) := tm.c5; have q6 : (w1.alloc (.cells #[.bool false, .bool false, .bool true, .bool false, .bool false, .bool false] 104)).cell? ⟨w.heap.size, 6, none⟩ = some (.bool wr) := tm.c6; have q7 : (w1.alloc (.cells #[.bool false, .bool false, .bool true, .bool false, .bool false, .bool false] 104)).cell? ⟨w.heap.size, 7, none⟩ = some (.slice ao 0 cap) := tm.c7; have q8 : (w1.alloc (.cells #[.bool false, .bool false, .bool true, .bool false, .bool false, .bool false] 104)).cell? ⟨w.heap.size, 8, none⟩ = some (.complex .f64 v0.1 v0.2) := tm.c8; have q9 : (w1.alloc (.cells #[.bool false, .bool false, .bool true, .bool false, .bool false, .bool false] 104)).cell? ⟨w.heap.size, 9, none⟩ = some (.complex .f64 v1.1 v1.2) := tm.c9; have q10 : (w1.alloc (.cells #[.bool false, .bool false, .bool true, .bool false, .bool false, .bool false] 104)).cell? ⟨w.heap.size, 10, none⟩ = some (.complex .f64 v2.1 v2.2) := tm.cA; have q11 : (w1.alloc (.cells #[.bool false, .bool false, .bool true, .bool false, .bool false, .bool false] 104)).cell? ⟨w.heap.size, 11, none⟩ = some (.complex .f64 v3.1 v3.2) := tm.cB; have hBx : Below w.heap.size w (w1.alloc (.cells #[.bool false, .bool false, .bool true, .bool false, .bool false, .bool false] 104)) := below_step (below_alloc (hb1.mono (by simp))) (below_box _ _); clear tm hb1 p0 p1 o0 o1 t0 t1 n0 n1)
    | (fail))
  all_goals
    go_ret
    refine ⟨ret_bool (Bool.eq_iff_iff.2 ?_), ?_⟩
    · refine Iff.trans ?_ HI.out.symm
      clear HI HR HV HM
      first
        | (simp_all; done)
        | (simp_all; omega)
        | (constructor <;> intro hh <;> simp_all <;> omega)
    · first | exact hB3 | exact hBy | exact hBx | exact hB0

set_option maxHeartbeats 4000000 in
set_option maxRecDepth 100000 in
theorem refRight_3n (p o t c n : Int) (wr : Bool) (ps : List PutG) (v0 v1 v2 v3 : Nat × Nat) (ao : Option Addr) (nn cap : Nat) (w : World) (h : RdP w ao nn cap ps) (hnn : nn ≤ 140737488355328) (hnz0 : nn ≠ 0) (hN : Nb 3 p o t n) (hv : ∀ x ∈ [v0, v1, v2, v3], wordB x) :
    Calls Try.prog 53 #[msV ⟨3, p, o, t, c, n, wr, ps, v0, v1, v2, v3⟩ ao nn cap] w fun x w' => x = .returned (.bool (rightB ⟨3, p, o, t, c, n, wr, ps, v0, v1, v2, v3⟩)) ∧ Below w.heap.size w w' := by
  have HI : Hid _ := iff_3 p o t c n wr ps nn v0 v1 v2 v3 hN h.len
  have HR : Hid (RdP w ao nn cap ps) := h
  have hnz : ((nn : Int) == 0) = false := by simp; omega
  have HV : Hid (∀ x ∈ [v0, v1, v2, v3], wordB x) := hv
  have HM : Hid (MgAt (w.alloc (msO ⟨3, p, o, t, c, n, wr, ps, v0, v1, v2, v3⟩ ao nn cap)) w.heap.size ⟨3, p, o, t, c, n, wr, ps, v0, v1, v2, v3⟩ ao nn cap) := MgAt.new w _ ao nn cap
  obtain ⟨⟨p0, p1⟩, ⟨o0, o1⟩, ⟨t0, t1⟩, n0, n1⟩ := hN
  have hB0 : Below w.heap.size w (w.alloc (msO ⟨3, p, o, t, c, n, wr, ps, v0, v1, v2, v3⟩ ao nn cap)) := below_box _ _
  clear h hv
  go_enter Try.func53, Try.ntmps53
  go_wp2_with (first
    | (go_at_call 66; refine (refPuts_any ao nn cap ps _ (HR.out.below hBy) hnn).mono ?_; rintro x w3 ⟨rfl, hb3⟩; have hB3 : Below w.heap.size w w3 := below_step hBy hb3; clear hb3)
    | (go_at_call 66; refine (refPuts_any ao nn cap ps _ (HR.out.below hBx) hnn).mono ?_; rintro x w3 ⟨rfl, hb3⟩; have hB3 : Below w.heap.size w w3 := below_step hBx hb3; clear hb3)
    | (go_at_call 29; refine (refValues_any v0 v1 v2 v3 z2 z2 z2 z2 HV.out (words4 ⟨by decide, by decide⟩ ⟨by decide, by decide⟩ ⟨by decide, by decide⟩ ⟨by decide, by decide⟩) _).mono ?_; rintro x w2 ⟨rfl, hb2⟩; have hBy : Below w.heap.size w w2 := below_step hBx hb2; have s7 : w2.cell? ⟨w.heap.size, 7, none⟩ = some (.slice ao nn cap) := (HMx.out.below hb2).c7; clear hb2)
    | (go_at_call 65; refine (has_3 _).mono ?_; rintro x w1 ⟨rfl, hb1⟩; have HMx : Hid (MgAt (w1.alloc (.cells #[.bool false, .bool false, .bool true, .bool false, .bool false, .bool false] 104)) w.heap.size ⟨3, p, o, t, c, n, wr, ps, v0, v1, v2, v3⟩ ao nn cap) := (HM.out.below hb1).below (below_box _ _); have tm := HMx.out; have q0 : (w1.alloc (.cells #[.bool false, .bool false, .bool true, .bool false, .bool false, .bool false] 104)).cell? ⟨w.heap.size, 0, none⟩ = some (.int .i64 3) := tm.c0; have q1 : (w1.alloc (.cells #[.bool false, .bool false, .bool true, .bool false, .bool false, .bool false] 104)).cell? ⟨w.heap.size, 1, none⟩ = some (.int .i64 p) := tm.c1; have q2 : (w1.alloc (.cells #[.bool false, .bool false, .bool true, .bool false, .bool false, .bool false] 104)).cell? ⟨w.heap.size, 2, none⟩ = some (.int .i64 o) := tm.c2; have q3 : (w1.alloc (.cells #[.bool false, .bool false, .bool true, .bool false, .bool false, .bool false] 104)).cell? ⟨w.heap.size, 3, none⟩ = some (.int .i64 t) := tm.c3; have q4 : (w1.alloc (.cells #[.bool false, .bool false, .bool true, .bool false, .bool false, .bool false] 104)).cell? ⟨w.heap.size, 4, none⟩ = some (.int .i64 c) := tm.c4; have q5 : (w1.alloc (.cells #[.bool false, .bool false, .bool true, .bool false, .bool false, .bool false] 104)).cell? ⟨w.heap.size, 5, none⟩ = some (.int .i64 n) := tm.c5; have q6 : (w1.alloc (.cells #[.bool false, .bool false, .bool true, .bool false, .bool false, .bool false] 104)).cell? ⟨w.heap.size, 6, none⟩ = some (.bool wr) := tm.c6; have q7 : (w1.alloc (.cells #[.bool false, .bool false, .bool true, .bool false, .bool false, .bool false] 104)).cell? ⟨w.heap.size, 7, none⟩ = some (.slice ao nn cap) := tm.c7; have q8 : (w1.alloc (.cells #[.bool false, .bool false, .bool true, .bool false, .bool false, .bool false] 104)).cell? ⟨w.heap.size, 8, none⟩ = some (.complex .f64 v0.1 v0.2) := tm.c8; have q9 : (w1.alloc (.cells #[.bool false, .bool false, .bool true, .bool false, .bool false, .bool false] 104)).cell? ⟨w.heap.size, 9, none⟩ = some (.complex .f64 v1.1 v1.2) := tm.c9; have q10 : (w1.alloc (.cells #[.bool false, .bool false, .bool true, .bool false, .bool false, .bool false] 104)).cell? ⟨w.heap.size, 10, none⟩ = some (.complex .f64 v2.1 v2.2) := tm.cA; have q11 : (w1.alloc (.cells #[.bool false, .bool false, .bool true, .bool false, .bool false, .bool false] 104)).cell? ⟨w.heap.size, 11, none⟩ = some (.complex .f64 v3.1 v3.2) := tm.cB; have hBx : Below w.heap.size w (w1.alloc (.cells #[.bool false, .bool false, .bool true, .bool false, .bool false, .bool false] 104)) := below_step (below_alloc (hb1.mono (by simp))) (below_box _ _); clear tm hb1 p0 p1 o0 o1 t0 t1 n0 n1)
    | (fail))
  all_goals
    go_ret
    refine ⟨ret_bool (Bool.eq_iff_iff.2 ?_), ?_⟩
    · refine Iff.trans ?_ HI.out.symm
      clear HI HR HV HM
      first
        | (simp_all; done)
        | (simp_all; omega)
        | (constructor <;> intro hh <;> simp_all <;> omega)
    · first | exact hB3 | exact hBy | exact hBx | exact hB0

end Go.Proofs.Ytgeoeaadeemmcaa

namespace Go.Proofs.Ytgeoeaadeemmcaa
open Go.RowKit
set_option linter.unusedVariables false

set_option maxHeartbeats 4000000 in
set_option maxRecDepth 100000 in
theorem refRight_46z (k : Int) (hk : k = 4 ∨ k = 6) (p o t c n : Int) (wr : Bool) (ps : List PutG) (v0 v1 v2 v3 : Nat × Nat) (ao : Option Addr) (cap : Nat) (w : World) (h : RdP w ao 0 cap ps) (hN : Nb k p o t n) (hv : ∀ x ∈ [v0, v1, v2, v3], wordB x) :
    Calls Try.prog 53 #[msV ⟨k, p, o, t, c, n, wr, ps, v0, v1, v2, v3⟩ ao 0 cap] w fun x w' => x = .returned (.bool (rightB ⟨k, p, o, t, c, n, wr, ps, v0, v1, v2, v3⟩)) ∧ Below w.heap.size w w' := by
  have HK : Hid (k = 4 ∨ k = 6) := hk
  have HI : Hid (rightB ⟨k, p, o, t, c, n, wr, ps, v0, v1, v2, v3⟩ = true ↔ (0 ≤ c ∧ c ≤ 15) ∧ t = 0 ∧ n = 0 ∧ c = 0 ∧ 0 = 0 ∧ allSame [v0, v1, v2, v3] [z2, z2, z2, z2] = true ∧ putsB ps = true) := by
    rcases hk with e | e
    · subst e; exact iff_4 p o t c n wr ps 0 v0 v1 v2 v3 ⟨hN.p, hN.o, hN.t, hN.n⟩ h.len
    · subst e; exact iff_6 p o t c n wr ps 0 v0 v1 v2 v3 ⟨hN.p, hN.o, hN.t, hN.n⟩ h.len
  have k1 : ¬ k < 0 := by omega
  have k2 : ¬ 8 < k := by omega
  have k8 : (k == 8) = false := by simp; omega
  have k9 : (k != 8) = true := by simp; omega
  clear hk
  have HR : Hid (RdP w ao 0 cap ps) := h
  have HV : Hid (∀ x ∈ [v0, v1, v2, v3], wordB x) := hv
  have HM : Hid (MgAt (w.alloc (msO ⟨k, p, o, t, c, n, wr, ps, v0, v1, v2, v3⟩ ao 0 cap)) w.heap.size ⟨k, p, o, t, c, n, wr, ps, v0, v1, v2, v3⟩ ao 0 cap) := MgAt.new w _ ao 0 cap
  obtain ⟨⟨p0, p1⟩, ⟨o0, o1⟩, ⟨t0, t1⟩, n0, n1⟩ := hN
  have hB0 : Below w.heap.size w (w.alloc (msO ⟨k, p, o, t, c, n, wr, ps, v0, v1, v2, v3⟩ ao 0 cap)) := below_box _ _
  clear h hv
  go_enter Try.func53, Try.ntmps53
  go_wp2_with (first
    | (go_at_call 66; refine (refPuts_any ao 0 cap ps _ (HR.out.below hBy) (by omega)).mono ?_; rintro x w3 ⟨rfl, hb3⟩; have hB3 : Below w.heap.size w w3 := below_step hBy hb3; clear hb3)
    | (go_at_call 66; refine (refPuts_any ao 0 cap ps _ (HR.out.below hBx) (by omega)).mono ?_; rintro x w3 ⟨rfl, hb3⟩; have hB3 : Below w.heap.size w w3 := below_step hBx hb3; clear hb3)
    | (go_at_call 29; refine (refValues_any v0 v1 v2 v3 z2 z2 z2 z2 HV.out (words4 ⟨by decide, by decide⟩ ⟨by decide, by decide⟩ ⟨by decide, by decide⟩ ⟨by decide, by decide⟩) _).mono ?_; rintro x w2 ⟨rfl, hb2⟩; have hBy : Below w.heap.size w w2 := below_step hBx hb2; have s7 : w2.cell? ⟨w.heap.size, 7, none⟩ = some (.slice ao 0 cap) := (HMx.out.below hb2).c7; clear hb2)
    | (go_at_call 65; refine (has_46 k HK.out _).mono ?_; rintro x w1 ⟨rfl, hb1⟩; have HMx : Hid (MgAt (w1.alloc (.cells #[.bool true, .bool false, .bool false, .bool true, .bool false, .bool false] 104)) w.heap.size ⟨k, p, o, t, c, n, wr, ps, v0, v1, v2, v3⟩ ao 0 cap) := (HM.out.below hb1).below (below_box _ _); have tm := HMx.out; have q0 : (w1.alloc (.cells #[.bool true, .bool false, .bool false, .bool true, .bool false, .bool false] 104)).cell? ⟨w.heap.size, 0, none⟩ = some (.int .i64 k) := tm.c0; have q1 : (w1.alloc (.cells #[.bool true, .bool false, .bool false, .bool true, .bool false, .bool false] 104)).cell? ⟨w.heap.size, 1, none⟩ = some (.int .i64 p) := tm.c1; have q2 : (w1.alloc (.cells #[.bool true, .bool false, .bool false, .bool true, .bool false, .bool false] 104)).cell? ⟨w.heap.size, 2, none⟩ = some (.int .i64 o) := tm.c2; have q3 : (w1.alloc (.cells #[.bool true, .bool false, .bool false, .bool true, .bool false, .bool false] 104)).cell? ⟨w.heap.size, 3, none⟩ = some (.int .i64 t) := tm.c3; have q4 : (w1.alloc (.cells #[.bool true, .bool false, .bool false, .bool true, .bool false, .bool false] 104)).cell? ⟨w.heap.size, 4, none⟩ = some (.int .i64 c) := tm.c4; have q5 : (w1.alloc (.cells #[.bool true, .bool false, .bool false, .bool true, .bool false, .bool false] 104)).cell? ⟨w.heap.size, 5, none⟩ = some (.int .i64 n) := tm.c5; have q6 : (w1.alloc (.cells #[.bool true, .bool false, .bool false, .bool true, .bool false, .bool false] 104)).cell? ⟨w.heap.size, 6, none⟩ = some (.bool wr) := tm.c6; have q7 : (w1.alloc (.cells #[.bool true, .bool false, .bool false, .bool true, .bool false, .bool false] 104)).cell? ⟨w.heap.size, 7, none⟩ = some (.slice ao 0 cap) := tm.c7; have q8 : (w1.alloc (.cells #[.bool true, .bool false, .bool false, .bool true, .bool false, .bool false] 104)).cell? ⟨w.heap.size, 8, none⟩ = some (.complex .f64 v0.1 v0.2) := tm.c8; have q9 : (w1.alloc (.cells #[.bool true, .bool false, .bool false, .bool true, .bool false, .bool false] 104)).cell? ⟨w.heap.size, 9, none⟩ = some (.complex .f64 v1.1 v1.2) := tm.c9; have q10 : (w1.alloc (.cells #[.bool true, .bool false, .bool false, .bool true, .bool false, .bool false] 104)).cell? ⟨w.heap.size, 10, none⟩ = some (.complex .f64 v2.1 v2.2) := tm.cA; have q11 : (w1.alloc (.cells #[.bool true, .bool false, .bool false, .bool true, .bool false, .bool false] 104)).cell? ⟨w.heap.size, 11, none⟩ = some (.complex .f64 v3.1 v3.2) := tm.cB; have hBx : Below w.heap.size w (w1.alloc (.cells #[.bool true, .bool false, .bool false, .bool true, .bool false, .bool false] 104)) := below_step (below_alloc (hb1.mono (by simp))) (below_box _ _); clear tm hb1 p0 p1 o0 o1 t0 t1 n0 n1)
    | (fail))
  all_goals
    go_ret
    refine ⟨ret_bool (Bool.eq_iff_iff.2 ?_), ?_⟩
    · refine Iff.trans ?_ HI.out.symm
      clear HI HR HV HM
      first
        | (simp_all; done)
        | (simp_all; omega)
        | (constructor <;> intro hh <;> simp_all <;> omega)
    · first | exact hB3 | exact hBy | exact hBx | exact hB0

set_option maxHeartbeats 4000000 in
set_option maxRecDepth 100000 in
theorem refRight_46n (k : Int) (hk : k = 4 ∨ k = 6) (p o t c n : Int) (wr : Bool) (ps : List PutG) (v0 v1 v2 v3 : Nat × Nat) (ao : Option Addr) (nn cap : Nat) (w : World) (h : RdP w ao nn cap ps) (hnn : nn ≤ 140737488355328) (hnz0 : nn ≠ 0) (hN : Nb k p o t n) (hv : ∀ x ∈ [v0, v1, v2, v3], wordB x) :
    Calls Try.prog 53 #[msV ⟨k, p, o, t, c, n, wr, ps, v0, v1, v2, v3⟩ ao nn cap] w fun x w' => x = .returned (.bool (rightB ⟨k, p, o, t, c, n, wr, ps, v0, v1, v2, v3⟩)) ∧ Below w.heap.size w w' := by
  have HK : Hid (k = 4 ∨ k = 6) := hk
  have HI : Hid (rightB ⟨k, p, o, t, c, n, wr, ps, v0, v1, v2, v3⟩ = true ↔ (0 ≤ c ∧ c ≤ 15) ∧ t = 0 ∧ n = 0 ∧ c = 0 ∧ nn = 0 ∧ allSame [v0, v1, v2, v3] [z2, z2, z2, z2] = true ∧ putsB ps = true) := by
    rcases hk with e | e
    · subst e; exact iff_4 p o t c n wr ps nn v0 v1 v2 v3 ⟨hN.p, hN.o, hN.t, hN.n⟩ h.len
    · subst e; exact iff_6 p o t c n wr ps nn v0 v1 v2 v3 ⟨hN.p, hN.o, hN.t, hN.n⟩ h.len
  have k1 : ¬ k < 0 := by omega
  have k2 : ¬ 8 < k := by omega
  have k8 : (k == 8) = false := by simp; omega
  have k9 : (k != 8) = true := by simp; omega
  clear hk
  have HR : Hid (RdP w ao nn cap ps) := h
  have hnz : ((nn : Int) == 0) = false := by simp; omega
  have HV : Hid (∀ x ∈ [v0, v1, v2, v3], wordB x) := hv
  have HM : Hid (MgAt (w.alloc (msO ⟨k, p, o, t, c, n, wr, ps, v0, v1, v2, v3⟩ ao nn cap)) w.heap.size ⟨k, p, o, t, c, n, wr, ps, v0, v1, v2, v3⟩ ao nn cap) := MgAt.new w _ ao nn cap
  obtain ⟨⟨p0, p1⟩, ⟨o0, o1⟩, ⟨t0, t1⟩, n0, n1⟩ := hN
  have hB0 : Below w.heap.size w (w.alloc (msO ⟨k, p, o, t, c, n, wr, ps, v0, v1, v2, v3⟩ ao nn cap)) := below_box _ _
  clear h hv
  go_enter Try.func53, Try.ntmps53
  go_wp2_with (first
    | (go_at_call 66; refine (refPuts_any ao nn cap ps _ (HR.out.below hBy) hnn).mono ?_; rintro x w3 ⟨rfl, hb3⟩; have hB3 : Below w.heap.size w w3 := below_step hBy hb3; clear hb3)
    | (go_at_call 66; refine (refPuts_any ao nn cap ps _ (HR.out.below hBx) hnn).mono ?_; rintro x w3 ⟨rfl, hb3⟩; have hB3 : Below w.heap.size w w3 := below_step hBx hb3; clear hb3)
    | (go_at_call 29; refine (refValues_any v0 v1 v2 v3 z2 z2 z2 z2 HV.out (words4 ⟨by decide, by decide⟩ ⟨by decide, by decide⟩ ⟨by decide, by decide⟩ ⟨by decide, by decide⟩) _).mono ?_; rintro x w2 ⟨rfl, hb2⟩; have hBy : Below w.heap.size w w2 := below_step hBx hb2; have s7 : w2.cell? ⟨w.heap.size, 7, none⟩ = some (.slice ao nn cap) := (HMx.out.below hb2).c7; clear hb2)
    | (go_at_call 65; refine (has_46 k HK.out _).mono ?_; rintro x w1 ⟨rfl, hb1⟩; have HMx : Hid (MgAt (w1.alloc (.cells #[.bool true, .bool false, .bool false, .bool true, .bool false, .bool false] 104)) w.heap.size ⟨k, p, o, t, c, n, wr, ps, v0, v1, v2, v3⟩ ao nn cap) := (HM.out.below hb1).below (below_box _ _); have tm := HMx.out; have q0 : (w1.alloc (.cells #[.bool true, .bool false, .bool false, .bool true, .bool false, .bool false] 104)).cell? ⟨w.heap.size, 0, none⟩ = some (.int .i64 k) := tm.c0; have q1 : (w1.alloc (.cells #[.bool true, .bool false, .bool false, .bool true, .bool false, .bool false] 104)).cell? ⟨w.heap.size, 1, none⟩ = some (.int .i64 p) := tm.c1; have q2 : (w1.alloc (.cells #[.bool true, .bool false, .bool false, .bool true, .bool false, .bool false] 104)).cell? ⟨w.heap.size, 2, none⟩ = some (.int .i64 o) := tm.c2; have q3 : (w1.alloc (.cells #[.bool true, .bool false, .bool false, .bool true, .bool false, .bool false] 104)).cell? ⟨w.heap.size, 3, none⟩ = some (.int .i64 t) := tm.c3; have q4 : (w1.alloc (.cells #[.bool true, .bool false, .bool false, .bool true, .bool false, .bool false] 104)).cell? ⟨w.heap.size, 4, none⟩ = some (.int .i64 c) := tm.c4; have q5 : (w1.alloc (.cells #[.bool true, .bool false, .bool false, .bool true, .bool false, .bool false] 104)).cell? ⟨w.heap.size, 5, none⟩ = some (.int .i64 n) := tm.c5; have q6 : (w1.alloc (.cells #[.bool true, .bool false, .bool false, .bool true, .bool false, .bool false] 104)).cell? ⟨w.heap.size, 6, none⟩ = some (.bool wr) := tm.c6; have q7 : (w1.alloc (.cells #[.bool true, .bool false, .bool false, .bool true, .bool false, .bool false] 104)).cell? ⟨w.heap.size, 7, none⟩ = some (.slice ao nn cap) := tm.c7; have q8 : (w1.alloc (.cells #[.bool true, .bool false, .bool false, .bool true, .bool false, .bool false] 104)).cell? ⟨w.heap.size, 8, none⟩ = some (.complex .f64 v0.1 v0.2) := tm.c8; have q9 : (w1.alloc (.cells #[.bool true, .bool false, .bool false, .bool true, .bool false, .bool false] 104)).cell? ⟨w.heap.size, 9, none⟩ = some (.complex .f64 v1.1 v1.2) := tm.c9; have q10 : (w1.alloc (.cells #[.bool true, .bool false, .bool false, .bool true, .bool false, .bool false] 104)).cell? ⟨w.heap.size, 10, none⟩ = some (.complex .f64 v2.1 v2.2) := tm.cA; have q11 : (w1.alloc (.cells #[.bool true, .bool false, .bool false, .bool true, .bool false, .bool false] 104)).cell? ⟨w.heap.size, 11, none⟩ = some (.complex .f64 v3.1 v3.2) := tm.cB; have hBx : Below w.heap.size w (w1.alloc (.cells #[.bool true, .bool false, .bool false, .bool true, .bool false, .bool false] 104)) := below_step (below_alloc (hb1.mono (by simp))) (below_box _ _); clear tm hb1 p0 p1 o0 o1 t0 t1 n0 n1)
    | (fail))
  all_goals
    go_ret
    refine ⟨ret_bool (Bool.eq_iff_iff.2 ?_), ?_⟩
    · refine Iff.trans ?_ HI.out.symm
      clear HI HR HV HM
      first
        | (simp_all; done)
        | (simp_all; omega)
        | (constructor <;> intro hh <;> simp_all <;> omega)
    · first | exact hB3 | exact hBy | exact hBx | exact hB0

end Go.Proofs.Ytgeoeaadeemmcaa
