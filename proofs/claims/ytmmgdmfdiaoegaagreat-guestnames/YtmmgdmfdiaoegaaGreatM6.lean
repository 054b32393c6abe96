/- What Bytes of package msg does, walked. -/
import Derived.Test.YtmmgdmfdiaoegaaGreatM5
import Derived.Test.YtmmgdmfdiaoegaaGreatMz
import Derived.Deep.RegionHeld
import Derived.Deep.RegionHeldLaw
import Derived.Deep.DeepCutAuto
import Derived.Deep.CutBlock
namespace Go.Proofs.YtmmgdmfdiaoegaaGreat.Msg
open Go.RowKit
set_option linter.unusedVariables false
set_option maxRecDepth 8000

set_option maxRecDepth 100000 in
/-- Four values, one by one. -/
theorem idx4 (a b c d : Nat × Nat) (W : World) :
    (Instr.index 49 (v4V a b c d) (.int .i64 0)).run Tryz.prog W = .ok (.complex .f64 a.1 a.2) W ∧
    (Instr.index 49 (v4V a b c d) (.int .i64 1)).run Tryz.prog W = .ok (.complex .f64 b.1 b.2) W ∧
    (Instr.index 49 (v4V a b c d) (.int .i64 2)).run Tryz.prog W = .ok (.complex .f64 c.1 c.2) W ∧
    (Instr.index 49 (v4V a b c d) (.int .i64 3)).run Tryz.prog W = .ok (.complex .f64 d.1 d.2) W := by
  refine ⟨?_, ?_, ?_, ?_⟩
  all_goals rfl

set_option maxHeartbeats 400000 in
theorem bytes_bad (M : Mg) (ao : Option Addr) (n cap : Nat) (w : World) (h : RdP w ao n cap M.ps) (hn : n ≤ 140737488355328) (hr : rightB M = false) :
    Calls Tryz.prog 29 #[msV M ao n cap] w fun x w' => x = .returned (.tuple #[.slice none 0 0, .int .i64 101]) ∧ Below w.heap.size w w' := by
  have h2 := h.below (below_box w (msO M ao n cap))
  go_enter Tryz.func29, Tryz.ntmps29
  go_wp2_with (first
    | (go_at_call 43; refine (right_any M ao n cap _ h2 hn).mono ?_; rw [hr]; rintro x w1 ⟨rfl, hb⟩))
  go_ret2
  exact ⟨rfl, below_alloc (hb.mono (by simp))⟩

/-- What is written of the puts up to one. -/
def partZ (M : Mg) (k : Nat) : List Int := headZ M ++ putsZ (M.ps.take k)

theorem partZ_length (M : Mg) (k : Nat) (h : k ≤ M.ps.length) : (partZ M k).length = 24 + 22 * k := by
  rw [partZ, List.length_append, headZ_length, putsZ_length, List.length_take, Nat.min_eq_left h]

theorem partZ_snoc (M : Mg) (k : Nat) (h : k < M.ps.length) : partZ M k ++ formsN [(M.ps[k].pg : Int), (M.ps[k].ob : Int)] ++ valN M.ps[k].c.1 M.ps[k].c.2 = partZ M (k + 1) := by
  rw [partZ, partZ, List.take_succ_eq_append_getElem h, putsZ_snoc, putZ]
  simp only [List.append_assoc]

set_option maxHeartbeats 1600000 in
theorem bytes_ok (M : Mg) (ao : Option Addr) (n cap : Nat) (w : World) (h : RdP w ao n cap M.ps) (hr : rightB M = true) (hw : Wd M) :
    Calls Tryz.prog 29 #[msV M ao n cap] w fun x w' => ∃ a2 c2, x = .returned (.tuple #[.slice a2 (msgZ M).length c2, .int .i64 0]) ∧ OwnI w' w.heap.size 5 .u8 a2 c2 (msgZ M) ∧ Below w.heap.size w w' := by
  have hbd := bd_of_right hr
  have hpm := putsB_mem hbd.ps
  have hln := h.len
  have hn : n ≤ 24 := by omega
  have h2 := h.below (below_box w (msO M ao n cap))
  have HR : Hid (RdP w ao n cap M.ps) := h
  have HW : Hid (Wd M) := hw
  have HPM : Hid (M.ps.length ≤ 24 ∧ ∀ p ∈ M.ps, p.pg ≤ 5 ∧ p.ob ≤ 3) := hpm
  have HZ : Hid (∀ z ∈ [M.k, M.p, M.o, M.t, M.c, M.n, flgI M.wr, (n : Int)], 0 ≤ z ∧ z ≤ 16777215) := by
    intro z hz
    obtain ⟨b1, b2, b3, b4, b5, b6, -⟩ := hbd
    have := flgI_bd M.wr
    simp only [List.mem_cons, List.not_mem_nil, or_false] at hz
    omega
  have HH : Hid (formsN [M.k, M.p, M.o, M.t, M.c, M.n, flgI M.wr, (n : Int)] = partZ M 0) := by
    rw [Hid, partZ, headZ, hln]; simp [putsZ]
  have HL : Hid (M.ps.length = n) := hln
  clear h hw hpm hbd hln
  have hst := fun (ad : Addr) (re im : Nat) (W : World) => run_store Tryz.prog W ad (.complex .f64 re im) .plain rfl
  go_enter Tryz.func29, Tryz.ntmps29
  go_upto_region 3 with (first
    | (go_at_call 43; refine (right_any M ao n cap _ h2 (by omega)).mono ?_; rw [hr]; rintro x w1 ⟨rfl, hb⟩; have HB1 : Hid (Below w.heap.size w w1) := below_alloc (hb.mono (by simp)); have hM := (MgAt.new w M ao n cap).below hb; have HM : Hid (∀ W, Below w1.heap.size w1 W → MgAt W w.heap.size M ao n cap) := fun W hW => hM.below hW; clear hb h2)
    | (fail))
  have HS : Hid (∀ W, Below w1.heap.size w1 W → (W.cell? ⟨w.heap.size, 0, none⟩ = some (.int .i64 M.k) ∧ W.cell? ⟨w.heap.size, 1, none⟩ = some (.int .i64 M.p) ∧ W.cell? ⟨w.heap.size, 2, none⟩ = some (.int .i64 M.o) ∧ W.cell? ⟨w.heap.size, 3, none⟩ = some (.int .i64 M.t) ∧ W.cell? ⟨w.heap.size, 4, none⟩ = some (.int .i64 M.c) ∧ W.cell? ⟨w.heap.size, 5, none⟩ = some (.int .i64 M.n) ∧ W.cell? ⟨w.heap.size, 6, none⟩ = some (.bool M.wr) ∧ W.cell? ⟨w.heap.size, 7, none⟩ = some (.slice ao n cap))) := fun W hW => by
    have t := HM.out W hW
    exact ⟨t.c0, t.c1, t.c2, t.c3, t.c4, t.c5, t.c6, t.c7⟩
  clear hM
  first
    | go_region_held (fun W => (W.cell? ⟨w.heap.size, 0, none⟩ = some (.int .i64 M.k) ∧ W.cell? ⟨w.heap.size, 1, none⟩ = some (.int .i64 M.p) ∧ W.cell? ⟨w.heap.size, 2, none⟩ = some (.int .i64 M.o) ∧ W.cell? ⟨w.heap.size, 3, none⟩ = some (.int .i64 M.t) ∧ W.cell? ⟨w.heap.size, 4, none⟩ = some (.int .i64 M.c) ∧ W.cell? ⟨w.heap.size, 5, none⟩ = some (.int .i64 M.n) ∧ W.cell? ⟨w.heap.size, 6, none⟩ = some (.bool M.wr) ∧ W.cell? ⟨w.heap.size, 7, none⟩ = some (.slice ao n cap)))
      (first | exact HS.out _ (Below.refl _ _) | exact HS.out _ (Below.refl _ _).drew | exact HS.out _ ((Below.refl _ _).drew.alloc (Nat.le_refl _) _) | exact HS.out _ hb2 | fail)
      (first
        | (go_at_call 45; refine (flag_any _ _).mono ?_; rintro x w0 ⟨rfl, hw⟩; subst w0)
        | (go_at_call 44; refine (nums_at w1.drew _ 8 24 rfl _ [M.k, M.p, M.o, M.t, M.c, M.n, flgI M.wr, (n : Int)] rfl rfl rfl HZ.out (by omega)).mono ?_; rintro x w2 ⟨ao2, cap2, rfl, ho2, hb2'⟩; have hb2 : Below w1.heap.size w1 w2 := ⟨hb2'.os, hb2'.tape, hb2'.output, hb2'.size, hb2'.block⟩; clear hb2'))
    | fail
  have ho2' : OwnI w2 w1.heap.size 5 .u8 ao2 cap2 (partZ M 0) := by rw [← HH.out]; exact ho2
  have t7 := (HS.out w2 hb2).2.2.2.2.2.2.2
  clear ho2 HH HZ
  go_wp2
  go_loopw [4, 41] (fun s i wr => ∃ (k : Nat) (a : Option Addr) (cc : Nat), k ≤ n ∧ i = .int .i64 k ∧ s = .slice a (24 + 22 * k) cc ∧ OwnI wr w1.heap.size 5 .u8 a cc (partZ M k) ∧ Below w1.heap.size w1 wr) (fun _ i _ => n - (intOf i).toNat)
  case atStart => exact ⟨0, _, _, Nat.zero_le _, rfl, rfl, ho2', hb2⟩
  case round =>
    obtain ⟨k, a, cc, hk, rfl, rfl, ho, hbel⟩ := hrel
    clear ho2' hb2 t7
    have hsz := hbel.size
    by_cases hlt : k < n
    · have hkl : k < M.ps.length := by have := HL.out; omega
      obtain ⟨b, off, rfl, hb, q0, q1, q2⟩ := ((HR.out.below HB1.out).below hbel).cell k hkl
      obtain ⟨hp1, hp2⟩ := HPM.out.2 M.ps[k] (List.getElem_mem _)
      have hp3 := HW.out.ps M.ps[k] (List.getElem_mem _)
      have HSn : Hid (partZ M k ++ formsN [(M.ps[k].pg : Int), (M.ps[k].ob : Int)] ++ valN M.ps[k].c.1 M.ps[k].c.2 = partZ M (k + 1)) := partZ_snoc M k hkl
      have HLn : Hid ((partZ M k).length = 24 + 22 * k) := partZ_length M k (by omega)
      generalize M.ps[k] = p at *
      obtain ⟨pg, ob, x1, x2⟩ := p
      simp only at hp1 hp2 hp3 q0 q1 q2 HSn
      have HF : Hid (formN x1 < 18446744073709551616 ∧ formN x2 < 18446744073709551616) := ⟨formN_lt x1 hp3.1, formN_lt x2 hp3.2⟩
      clear hp3
      have HBL : Hid (∀ y, a = some y → w1.heap.size ≤ y.block ∧ y.block < wr.heap.size) := ho.blk
      go_wp2_with (first
        | (at_builtin; refine wpList_append_at _ rfl (.tmp 57) (.tmp 60) 43 rfl w1.heap.size 5 .u8 (.int .u8 0) 1 Tryz.underlying43 info5 rfl rfl rfl (ho4.below hb5) ho5.rd (by rw [List.length_append, HLn.out, formsN_length]; rfl) (valN_length _ _) (by omega) (by unfold maxLen; omega) hB5.size ?_; intro ao6 cap6 w6 ho6 hg6 _; have hB6 : Below w1.heap.size w1 w6 := hB5.trans (grown_below hg6 (fun y hy => ((ho4.below hb5).blk y hy).1) hB5.size))
        | (go_at_call 46; refine (value_any _ _ _ HF.out.1 HF.out.2).mono ?_; rintro x w5 ⟨ao5, cap5, rfl, ho5, hb5⟩; have hB5 : Below w1.heap.size w1 w5 := below_step hB4 hb5)
        | (at_builtin; refine wpList_append_at _ rfl (.tmp 54) (.tmp 55) 43 rfl w1.heap.size 5 .u8 (.int .u8 0) 1 Tryz.underlying43 info5 rfl rfl rfl ho3 ho3'.rd HLn.out rfl (by omega) (by unfold maxLen; omega) hB3.size ?_; intro ao4 cap4 w4 ho4 hg4 _; have hB4 : Below w1.heap.size w1 w4 := hB3.trans (grown_below hg4 (fun y hy => (HBL.out y hy).1) hB3.size); have v4 := grown_cell hg4 v3 (fun y hy => by have := (HBL.out y hy).2; omega))
        | (go_at_call 44; refine (nums_at (wr.alloc (wputO ⟨pg, ob, x1, x2⟩)) _ 2 6 (by simp) _ [(pg : Int), ob] rfl rfl rfl ?_ (by omega)).mono ?_; (intro z hz; simp only [List.mem_cons, List.not_mem_nil, or_false] at hz; omega); rintro x w3 ⟨ao3, cap3, rfl, ho3', hb3⟩; have hB3 : Below w1.heap.size w1 w3 := (hbel.alloc hbel.size _).trans (hb3.mono (by simp; omega)); have hw3 : Below wr.heap.size wr w3 := (below_box wr _).trans (hb3.mono (by simp)); have ho3 := ho.below hw3; have v3 : w3.cell? ⟨wr.heap.size, 2, none⟩ = some (.complex .f64 x1 x2) := (hb3.cell (p := ⟨wr.heap.size, 2, none⟩) (by simp)).trans (by rw [cell_of_row _ _ _ _ _ _ (heap_alloc_new wr (wputO ⟨pg, ob, x1, x2⟩))]; rfl))
        | (fail))
      rw [HSn.out] at ho6
      go_roundw
      case rel => exact ⟨k + 1, ao6, cap6, by omega, by go_num, by rw [show 24 + 22 * (k + 1) = 24 + 22 * k + 6 + 16 by omega], ho6, hB6⟩
      case measure => simp [intOf]; omega
    · obtain rfl : k = n := by omega
      have t0 := (HS.out wr hbel).1
      have tM := HM.out wr hbel
      have HPk : Hid (partZ M k = headZ M ++ putsZ M.ps) := by have := HL.out; simp only [Hid, partZ]; rw [List.take_of_length_le (by omega)]
      have HLn : Hid ((partZ M k).length = 24 + 22 * k) := partZ_length M k (by have := HL.out; omega)
      by_cases h5 : M.k = 5
      · have HZ5 : Hid (msgZ M = partZ M k ++ objsZ M.vs) := by rw [Hid, HPk.out, msgZ, if_pos h5]
        have q8 := tM.c8
        have q9 := tM.c9
        have qA := tM.cA
        have qB := tM.cB
        have i0 := fun W => (idx4 M.v0 M.v1 M.v2 M.v3 W).1
        have i1 := fun W => (idx4 M.v0 M.v1 M.v2 M.v3 W).2.1
        have i2 := fun W => (idx4 M.v0 M.v1 M.v2 M.v3 W).2.2.1
        have i3 := fun W => (idx4 M.v0 M.v1 M.v2 M.v3 W).2.2.2
        have HF : Hid (∀ x, wordB x → formN x.1 < 18446744073709551616 ∧ formN x.2 < 18446744073709551616) := fun x hx => ⟨formN_lt _ hx.1, formN_lt _ hx.2⟩
        have hk5 : (M.k == 5) = true := by simp [h5]
        clear tM h5
        go_wp2
        go_loopw [4, 68] (fun s i wq => ∃ (j : Nat) (a' : Option Addr) (cc' : Nat), j ≤ 4 ∧ i = .int .i64 j ∧ s = .slice a' (24 + 22 * k + 16 * j) cc' ∧ OwnI wq w1.heap.size 5 .u8 a' cc' (partZ M k ++ objsZ (M.vs.take j)) ∧ Below w1.heap.size w1 wq) (fun _ i _ => 4 - (intOf i).toNat)
        case atStart => exact ⟨0, a, cc, Nat.zero_le _, rfl, rfl, by simpa [objsZ] using ho, hbel⟩
        case round =>
          rename World => wq
          obtain ⟨j, a', c', hj, rfl, rfl, ho', hbq⟩ := hrel
          have hsq := hbq.size
          by_cases hj4 : j < 4
          · obtain rfl | rfl | rfl | rfl : j = 0 ∨ j = 1 ∨ j = 2 ∨ j = 3 := by omega
            · have e5 : (partZ M k ++ objsZ (M.vs.take 0)) ++ valN M.v0.1 M.v0.2 = partZ M k ++ objsZ (M.vs.take 1) := by simp [objsZ, Mg.vs]
              have HE : Hid _ := e5
              have HLj : Hid ((partZ M k ++ objsZ (M.vs.take 0)).length = 24 + 22 * k + 16 * 0) := by rw [Hid, List.length_append, HLn.out, objsZ_length]; simp [Mg.vs]
              clear e5
              go_wp2_with (first
                | (at_builtin; refine wpList_append_rdI _ rfl (.tmp 71) (.tmp 73) 43 rfl w1.heap.size 5 .u8 (.int .u8 0) 1 Tryz.underlying43 info5 rfl rfl rfl (ho'.below hb5) ho5.rd HLj.out (valN_length _ _) (by omega) (by unfold maxLen; omega) hB5.size ?_; intro ao6 cap6 w6 ho6 hb6)
                | (go_at_call 46; refine (value_any _ _ _ (HF.out _ HW.out.v0).1 (HF.out _ HW.out.v0).2).mono ?_; rintro x w5 ⟨ao5, cap5, rfl, ho5, hb5⟩; have hB5 : Below w1.heap.size w1 w5 := below_step hbq hb5)
                | (fail))
              rw [HE.out] at ho6
              go_roundw
              case rel => exact ⟨1, ao6, cap6, by omega, by go_num, rfl, ho6, hB5.trans hb6⟩
              case measure => simp [intOf]
            · have e5 : (partZ M k ++ objsZ (M.vs.take 1)) ++ valN M.v1.1 M.v1.2 = partZ M k ++ objsZ (M.vs.take 2) := by simp [objsZ, Mg.vs]
              have HE : Hid _ := e5
              have HLj : Hid ((partZ M k ++ objsZ (M.vs.take 1)).length = 24 + 22 * k + 16 * 1) := by rw [Hid, List.length_append, HLn.out, objsZ_length]; simp [Mg.vs]
              clear e5
              go_wp2_with (first
                | (at_builtin; refine wpList_append_rdI _ rfl (.tmp 71) (.tmp 73) 43 rfl w1.heap.size 5 .u8 (.int .u8 0) 1 Tryz.underlying43 info5 rfl rfl rfl (ho'.below hb5) ho5.rd HLj.out (valN_length _ _) (by omega) (by unfold maxLen; omega) hB5.size ?_; intro ao6 cap6 w6 ho6 hb6)
                | (go_at_call 46; refine (value_any _ _ _ (HF.out _ HW.out.v1).1 (HF.out _ HW.out.v1).2).mono ?_; rintro x w5 ⟨ao5, cap5, rfl, ho5, hb5⟩; have hB5 : Below w1.heap.size w1 w5 := below_step hbq hb5)
                | (fail))
              rw [HE.out] at ho6
              go_roundw
              case rel => exact ⟨2, ao6, cap6, by omega, by go_num, rfl, ho6, hB5.trans hb6⟩
              case measure => simp [intOf]
            · have e5 : (partZ M k ++ objsZ (M.vs.take 2)) ++ valN M.v2.1 M.v2.2 = partZ M k ++ objsZ (M.vs.take 3) := by simp [objsZ, Mg.vs]
              have HE : Hid _ := e5
              have HLj : Hid ((partZ M k ++ objsZ (M.vs.take 2)).length = 24 + 22 * k + 16 * 2) := by rw [Hid, List.length_append, HLn.out, objsZ_length]; simp [Mg.vs]
              clear e5
              go_wp2_with (first
                | (at_builtin; refine wpList_append_rdI _ rfl (.tmp 71) (.tmp 73) 43 rfl w1.heap.size 5 .u8 (.int .u8 0) 1 Tryz.underlying43 info5 rfl rfl rfl (ho'.below hb5) ho5.rd HLj.out (valN_length _ _) (by omega) (by unfold maxLen; omega) hB5.size ?_; intro ao6 cap6 w6 ho6 hb6)
                | (go_at_call 46; refine (value_any _ _ _ (HF.out _ HW.out.v2).1 (HF.out _ HW.out.v2).2).mono ?_; rintro x w5 ⟨ao5, cap5, rfl, ho5, hb5⟩; have hB5 : Below w1.heap.size w1 w5 := below_step hbq hb5)
                | (fail))
              rw [HE.out] at ho6
              go_roundw
              case rel => exact ⟨3, ao6, cap6, by omega, by go_num, rfl, ho6, hB5.trans hb6⟩
              case measure => simp [intOf]
            · have e5 : (partZ M k ++ objsZ (M.vs.take 3)) ++ valN M.v3.1 M.v3.2 = partZ M k ++ objsZ (M.vs.take 4) := by simp [objsZ, Mg.vs]
              have HE : Hid _ := e5
              have HLj : Hid ((partZ M k ++ objsZ (M.vs.take 3)).length = 24 + 22 * k + 16 * 3) := by rw [Hid, List.length_append, HLn.out, objsZ_length]; simp [Mg.vs]
              clear e5
              go_wp2_with (first
                | (at_builtin; refine wpList_append_rdI _ rfl (.tmp 71) (.tmp 73) 43 rfl w1.heap.size 5 .u8 (.int .u8 0) 1 Tryz.underlying43 info5 rfl rfl rfl (ho'.below hb5) ho5.rd HLj.out (valN_length _ _) (by omega) (by unfold maxLen; omega) hB5.size ?_; intro ao6 cap6 w6 ho6 hb6)
                | (go_at_call 46; refine (value_any _ _ _ (HF.out _ HW.out.v3).1 (HF.out _ HW.out.v3).2).mono ?_; rintro x w5 ⟨ao5, cap5, rfl, ho5, hb5⟩; have hB5 : Below w1.heap.size w1 w5 := below_step hbq hb5)
                | (fail))
              rw [HE.out] at ho6
              go_roundw
              case rel => exact ⟨4, ao6, cap6, by omega, by go_num, rfl, ho6, hB5.trans hb6⟩
              case measure => simp [intOf]
          · obtain rfl : j = 4 := by omega
            go_wp2
            go_ret2
            refine ⟨a', c', ?_, ?_, below_step HB1.out hbq⟩
            · rw [HZ5.out, List.length_append, HLn.out, objsZ_length]; rfl
            · rw [HZ5.out]; exact ho'.mono HB1.out.size
      · have HZ5 : Hid (msgZ M = partZ M k) := by rw [Hid, HPk.out, msgZ, if_neg h5]; simp
        clear tM
        go_wp2
        go_ret2
        refine ⟨a, cc, ?_, ?_, below_step HB1.out hbel⟩
        · rw [HZ5.out, HLn.out]; rfl
        · rw [HZ5.out]; exact ho.mono HB1.out.size

end Go.Proofs.YtmmgdmfdiaoegaaGreat.Msg
