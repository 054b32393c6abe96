/- Proved: WaitsTells, that is: of any edges and any number the program's Reach, Cycle, Victim and Without tell what the document's tell, and the edges stay. Conditions: the two tables of package math/bits hold what the program's text lays (tied by the card). -/
import Derived.Test.YteofipheoipeoaaDoorRows
import Derived.Test.YteofipheoipeoaaDoorCards
import Derived.Test.YteofipheoipeoaaDoorTie
import Derived.Test.YteofipheoipeoaaDoorV3
import Derived.Test.YteofipheoipeoaaDoorOe
import Derived.WalkKit
import Derived.ProofKit
import Derived.OpenShut
import Derived.ShutString
import Derived.ChangeOld
import Derived.SizedLaws
import Derived.Below
import Derived.Deep.QuietTactic
import Derived.BigQuiet
import Derived.Deep.RegionWith
import Derived.Deep.RegionHeld
import Derived.Deep.RegionHeldLaw
import Derived.RegionTactic
import Derived.Deep.DeepHandedRow
import Derived.Lib.LaidTab
namespace Go.Proofs.YteofipheoipeoaaDoor.waitsTells
open Go.ChangeShapes Go.WideShapes Go.ChangeAt Go.RowKit
set_option linter.unusedVariables false


set_option maxHeartbeats 3200000 in
theorem walk (a0 : Option Addr) (c0 n0 : Nat) (q0 : List (Int × Int)) (a1 : Int) (w : World) (r0 : RdE w a0 c0 q0) (l0 : q0.length = n0) (wf1 : (Lit.int .i64 a1).wf = true) (H : Tz w) : Calls Tryd.prog 4 #[.slice a0 n0 c0, .int .i64 a1] w fun e w' => e = .returned (.bool true) ∧ Below w.heap.size w w' := by
  have hal := alive_any w H
  by_cases hbig : 200 < n0
  · go_enter Tryd.func4, Tryd.ntmps4
    go_wp2_with (go_at_call 10; refine hal.mono ?_; rintro e w1 ⟨rfl, hb1⟩)
    go_ret
    exact ⟨rfl, hb1⟩
  have HL0 : Hid (q0.length = n0) := l0
  clear l0
  have hl4 := rlI_len q0 a1
  obtain ⟨X, hX⟩ : ∃ X, rlI q0 a1 = X := ⟨_, rfl⟩
  obtain ⟨Y, hY⟩ : ∃ Y, wo q0 a1 = Y := ⟨_, rfl⟩
  obtain ⟨vi, hvi⟩ : ∃ v, vcI q0 = v := ⟨_, rfl⟩
  obtain ⟨vb, hvb⟩ : ∃ v, vcB q0 = v := ⟨_, rfl⟩
  obtain ⟨cy, hcy⟩ : ∃ v, cyB q0 a1 = v := ⟨_, rfl⟩
  have HX : Hid (rlI q0 a1 = X ∧ wo q0 a1 = Y ∧ vcI q0 = vi ∧ vcB q0 = vb ∧ cyB q0 a1 = cy) := ⟨hX, hY, hvi, hvb, hcy⟩
  rw [hX] at hl4
  have HX4 : Hid (X.length ≤ 4) := hl4
  clear hX hY hvi hvb hcy hl4
  have hze : ([] ++ q0).length = n0 := by have := HL0.out; simpa using this
  have HZE : Hid (([] ++ q0).length = n0) := hze
  clear hze
  have K9 : Hid (∀ (W : World) (ao : Option Addr) (cap : Nat), RdE W ao cap q0 → Tz W → Calls Tryd.prog 9 #[.slice ao n0 cap] W fun e w' => e = .returned (.tuple #[.int .i64 vi, .bool vb]) ∧ Below W.heap.size W w') := fun W ao cap h1 h2 => by
    have := victim_any W ao n0 cap q0 h1 HL0.out h2
    rwa [HX.out.2.2.1, HX.out.2.2.2.1] at this
  have K13 : Hid (∀ (W : World) (ao : Option Addr) (cap : Nat), RdE W ao cap q0 → Calls Tryd.prog 13 #[.slice ao n0 cap] W fun e w' => e = .returned (.tuple #[.int .i64 vi, .bool vb]) ∧ Below W.heap.size W w') := fun W ao cap h1 => by
    have := rvictim_any W ao n0 cap q0 h1 HL0.out
    rwa [HX.out.2.2.1, HX.out.2.2.2.1] at this
  have K11 : Hid (∀ (W : World) (ao : Option Addr) (cap : Nat), RdE W ao cap q0 → Tz W → Calls Tryd.prog 11 #[.slice ao n0 cap, .int .i64 a1] W fun e w' => ∃ ao2 n2 cap2, e = .returned (.slice ao2 n2 cap2) ∧ OwnI w' W.heap.size 3 .i64 ao2 cap2 X ∧ X.length = n2 ∧ Below W.heap.size W w') := fun W ao cap h1 h2 => by
    have := reach_any W ao n0 cap q0 h1 HL0.out h2 a1
    rwa [HX.out.1] at this
  have K15 : Hid (∀ (W : World) (ao : Option Addr) (cap : Nat), RdE W ao cap q0 → Calls Tryd.prog 15 #[.slice ao n0 cap, .int .i64 a1] W fun e w' => ∃ ao2 n2 cap2, e = .returned (.slice ao2 n2 cap2) ∧ OwnI w' W.heap.size 3 .i64 ao2 cap2 X ∧ X.length = n2 ∧ Below W.heap.size W w') := fun W ao cap h1 => by
    have := rreach_any W ao n0 cap q0 h1 HL0.out a1
    rwa [HX.out.1] at this
  have K12 : Hid (∀ (W : World) (ao : Option Addr) (cap : Nat), RdE W ao cap q0 → Tz W → Calls Tryd.prog 12 #[.slice ao n0 cap, .int .i64 a1] W fun e w' => e = .returned (.bool cy) ∧ Below W.heap.size W w') := fun W ao cap h1 h2 => by
    have := cycle_any W ao n0 cap q0 h1 HL0.out h2 a1
    rwa [HX.out.2.2.2.2] at this
  have K16 : Hid (∀ (W : World) (ao : Option Addr) (cap : Nat), RdE W ao cap q0 → Calls Tryd.prog 16 #[.slice ao n0 cap, .int .i64 a1] W fun e w' => e = .returned (.bool cy) ∧ Below W.heap.size W w') := fun W ao cap h1 => by
    have := rcycle_any W ao n0 cap q0 h1 HL0.out a1
    rwa [HX.out.2.2.2.2] at this
  have K18 : Hid (∀ (W : World) (ao : Option Addr) (cap : Nat), RdE W ao cap q0 → Calls Tryd.prog 18 #[.slice ao n0 cap, .int .i64 a1] W fun e w' => ∃ ao2 n2 cap2, e = .returned (.slice ao2 n2 cap2) ∧ OwnE w' W.heap.size ao2 cap2 Y ∧ Y.length = n2 ∧ Below W.heap.size W w') := fun W ao cap h1 => by
    have := without_any W ao n0 cap q0 h1 HL0.out (by omega) a1
    rwa [HX.out.2.1] at this
  have K19 : Hid (∀ (W : World) (ao : Option Addr) (cap : Nat), RdE W ao cap q0 → Calls Tryd.prog 19 #[.slice ao n0 cap, .int .i64 a1] W fun e w' => ∃ ao2 n2 cap2, e = .returned (.slice ao2 n2 cap2) ∧ OwnE w' W.heap.size ao2 cap2 Y ∧ Y.length = n2 ∧ Below W.heap.size W w') := fun W ao cap h1 => by
    have := rwithout_any W ao n0 cap q0 h1 HL0.out (by omega) a1
    rwa [HX.out.2.1] at this
  clear HX
  go_enter Tryd.func4, Tryd.ntmps4
  go_wp2_with (first
    | (go_at_call 10; refine hal.mono ?_; rintro e w1 ⟨rfl, hb1⟩; have hs1 := hb1.size; have hO1 := OwnE.fresh w1 w.heap.size hs1; have hB1 : Below w.heap.size w (w1.alloc (.cells #[] 29)) := hb1.alloc hb1.size _; have r01 := r0.below hB1)
    | (at_builtin; refine wpList_append_rdE _ rfl _ _ rfl w.heap.size rfl rfl hO1 r01 rfl HL0.out (by omega) (by simp; omega) ?_; intro ao2 cap2 w2 ho2 hb2; have hB2 := hB1.trans hb2; simp only [List.nil_append] at ho2; have ro2 := ho2.rd; have rl2 := r0.below hB2; have hT2 := H.on hB2)
    | (go_at_call 9; refine (K9.out w2 ao2 cap2 ro2 hT2).mono ?_; rintro e w3 ⟨rfl, hb3⟩; have hB3 := below_step hB2 hb3; have ro3 := ro2.below hb3; have rl3 := r0.below hB3; have hT3 := H.on hB3)
    | (go_at_call 13; refine (K13.out w3 a0 c0 rl3).mono ?_; rintro e w4 ⟨rfl, hb4⟩; have hB4 := below_step hB3 hb4; have ro4 := ro3.below hb4; have hT4 := H.on hB4)
    | (go_at_call 11; refine (K11.out w4 ao2 cap2 ro4 hT4).mono ?_; rintro e w5 ⟨ao5, n5, cap5, rfl, ho5, hn5, hb5⟩; have HN5 : Hid (X.length = n5) := hn5; have hl5 := HX4.out; rw [hn5] at hl5; clear hn5; have hB5 := below_step hB4 hb5; have ro5 := ro4.below hb5; have rl5 := r0.below hB5)
    | (go_at_call 15; refine (K15.out w5 a0 c0 rl5).mono ?_; rintro e w6 ⟨ao6, n6, cap6, rfl, ho6, hn6, hb6⟩; obtain rfl : n6 = n5 := hn6.symm.trans HN5.out; clear hn6; have hB6 := below_step hB5 hb6; have ro6 := ro5.below hb6; have rx5 := ho5.rd.below hb6; have rx6 := ho6.rd)
    | (go_at_call 14; refine (sameInts_true ao5 cap5 n6 ao6 cap6 X w6 rx5 rx6 HN5.out (by omega)).mono ?_; rintro e w7 ⟨rfl, hb7⟩; have hB7 := below_step hB6 hb7; have ro7 := ro6.below hb7; have hT7 := H.on hB7)
    | (go_at_call 12; refine (K12.out w7 ao2 cap2 ro7 hT7).mono ?_; rintro e w8 ⟨rfl, hb8⟩; have hB8 := below_step hB7 hb8; have ro8 := ro7.below hb8; have rl8 := r0.below hB8)
    | (go_at_call 16; refine (K16.out w8 a0 c0 rl8).mono ?_; rintro e w9 ⟨rfl, hb9⟩; have hB9 := below_step hB8 hb9; have ro9 := ro8.below hb9)
    | (go_at_call 18; refine (K18.out w9 ao2 cap2 ro9).mono ?_; rintro e wa ⟨aoa, na, capa, rfl, hoa, hna, hba⟩; have HNa : Hid (Y.length = na) := hna; clear hna; have hBa := below_step hB9 hba; have roa := ro9.below hba; have rla := r0.below hBa)
    | (go_at_call 19; refine (K19.out wa a0 c0 rla).mono ?_; rintro e wb ⟨aob, nb, capb, rfl, hob, hnb, hbb⟩; obtain rfl : nb = na := hnb.symm.trans HNa.out; clear hnb; have hBb := below_step hBa hbb; have rob := roa.below hbb; have ryA := hoa.rd.below hbb; have ryB := hob.rd)
    | (go_at_call 17; (with_reducible refine (same_true aoa capa nb aob capb Y wb ryA ryB HNa.out).mono ?_); rintro e wc ⟨rfl, hbc⟩; have hBc := below_step hBb hbc; have roc := rob.below hbc; have rlc := r0.below hBc)
    | (go_at_call 17; (with_reducible refine (same_true ao2 cap2 n0 a0 c0 q0 wc roc rlc HL0.out).mono ?_); rintro e wd ⟨rfl, hbd⟩; have hBd := below_step hBc hbd))
  go_ret
  exact ⟨rfl, hBd⟩

theorem reads (os : Os) {H : Type} (enc : TypeId × Value → H) : ∃ places, DataW.whole enc Tryd.prog ((laidWorld os).forCall (fun _ _ => 0) ⟨#[], #[.slice none 0 0, .int .i64 0], []⟩).memory Tryd.f4.params.toList Rows.waitsTellsSpec.vars false (#[.slice none 0 0, .int .i64 0] : Array Value).toList 8 = some ([.nil, .lit (.int .i64 0)], [], places) :=
  ⟨[], by kernel_rfl⟩

set_option maxRecDepth 100000 in
theorem lifted (os : Os) (started : os.Started) (H : Type) (enc : TypeId × Value → H) (F : Stop.Interp) :
    ReturnsInHanded {} Tryd.checked os 4 .any ((OpenSpec.ofChange Rows.waitsTellsSpec).preRow enc Tryd.prog Tryd.f4 Rows.waitsTellsRow.domain false Rows.waitsTellsRow.laid) (((OpenSpec.ofChange Rows.waitsTellsSpec).at F).post enc Tryd.prog Tryd.f4 false true false false) := by
  obtain ⟨places, hx⟩ := reads os enc
  refine returnsInHanded_of_row (C := Tryd.checked) (s := OpenSpec.ofChange Rows.waitsTellsSpec) own started (by kernel_rfl) Tryd.func4
    (witness_row_at (enc := enc) (C := Tryd.checked) false (laidWorld os) #[.slice none 0 0, .int .i64 0] rfl (by kernel_rfl) (by kernel_rfl) (by kernel_rfl)
      (OpenSpec.preRow_of_cond 8 hx (by kernel_rfl) (fun k hk => by cases hk) (by kernel_rfl) (laid_met os _))) ?_
  intro W base args ds gs before hval0 hW _ _ hsz0 hL _ _
  have HT : Tz W := tz_of_laid hL
  have hval : ∀ (j : Nat) t v, Tryd.f4.params[j]? = some t → args[j]? = some v → Value.okWide Tryd.prog W .any base t v := hval0
  have hsz : (DataW.weightsEach Tryd.prog (Tryd.f4.params.toList ++ Rows.waitsTellsSpec.plain.varTypes Tryd.prog) (ds ++ gs)).all (· ≤ reachBytes) = true := hsz0
  have hW' := hW
  obtain ⟨p, q, hA0, hV, rfl, hfz, hnd⟩ := hW
  have hA : DataW.TrodAll enc Tryd.prog W 0 (fun _ => true) true Tryd.f4.params.toList args.toList ds p := hA0
  rw [Tryd.params4] at hA hval hsz
  obtain ⟨v0, vs0, d0, ds0, p0, q0, hargs, rfl, rfl, h0, r0⟩ := trodAll_cons hA
  obtain ⟨v1, vs1, d1, ds1, p1, q1, rfl, rfl, rfl, h1, r1⟩ := trodAll_cons r0
  obtain ⟨rfl, rfl, rfl⟩ := trodAll_nil r1
  obtain rfl : args = #[v0, v1] := by cases args; simp_all
  obtain ⟨rfl, rfl⟩ := trodVars_none hV
  obtain ⟨a0, n0, c0, rfl⟩ := okWide_slice Tryd.underlying30 (hval 0 30 v0 rfl rfl)
  have k0 := h0
  have lt0 : ∀ x ∈ p0, x.block < W.heap.size := by obtain ⟨m, hm⟩ := k0; exact DataW.trod_lt m _ _ _ hm
  obtain ⟨q0', r0', l0⟩ : ∃ A : List (Int × Int), RdE W a0 c0 A ∧ A.length = n0 := by
    obtain ⟨fuel, hf⟩ := h0
    obtain ⟨a, l, c, A, hcs, h1, h2⟩ := edges_of hf
    simp [Value.cells] at hcs
    obtain ⟨rfl, rfl, rfl⟩ := hcs
    exact ⟨A, h1, h2⟩
  obtain ⟨a1, rfl, rfl, rfl, w1⟩ := open_int Tryd.underlying3 (hval 1 3 v1 rfl rfl) h1
  clear hA0 hval0 hsz0
  refine (walk a0 c0 n0 q0' a1 W r0' l0 w1 HT).mono fun e W' ⟨he, bel⟩ => ?_
  subst he
  exact ⟨_, rfl, _, _, _, [], _, [], hW', trodAll_mk1 (shut_bool Tryd.underlying4 _), (trodAll_cons_mk (Below.trod laidOut (by kernel_rfl) (of_decide_eq_true (by kernel_rfl)) k0 bel lt0) (trodAll_cons_mk (shut_int Tryd.underlying3 w1) trodAll_mk0)), rfl, bel.frame _, fun h => by cases h⟩

theorem said : Rows.WaitsTellsSaid :=
  OpenClaim.holds_of_cond 4 Tryd.f4 rfl rfl rfl rfl rfl rfl rfl ⟨rfl, rfl, rfl, rfl, rfl⟩ rfl rfl rfl rfl rfl (by kernel_rfl) Tryd.func4 (by kernel_rfl)
    (of_decide_eq_true (by kernel_rfl)) (by unfold Func.isWrapper; first | (rw [if_pos (by decide +kernel)]; kernel_rfl) | (rw [if_neg (by decide +kernel)]; exact ⟨rfl, rfl⟩))
    (fun os started H enc _ F => by rw [OpenClaim.pre_eq_preRow]; exact lifted os started H enc F)

theorem plain (f : FuncId) (fn : Func) (hf : Tryd.pinned.checked.prog.funcNamed "cloakroom/cloakroomlaw13.WaitsTells" = some f) (hfn : Tryd.pinned.checked.prog.funcs[f]? = some fn) :
    false = Tryd.pinned.checked.prog.looks [] ∧ ∀ (j : Nat) t, fn.params[j]? = some t → Tryd.pinned.checked.prog.wantsStandIn t = false := by
  obtain rfl : f = 4 := Option.some.inj ((show Tryd.prog.funcNamed "cloakroom/cloakroomlaw13.WaitsTells" = some 4 by kernel_rfl).symm.trans hf) |>.symm
  obtain rfl : fn = Tryd.f4 := (Option.some.inj (Tryd.func4.symm.trans hfn)).symm
  refine ⟨by kernel_rfl, fun j t ht => ?_⟩
  rw [Tryd.params4] at ht
  have hm : t = 30 ∨ t = 3 := by
    have := Array.mem_of_getElem? ht
    simpa using this
  rcases hm with rfl | rfl
  · exact (show Tryd.prog.wantsStandIn 30 = false by kernel_rfl)
  · exact (show Tryd.prog.wantsStandIn 3 = false by kernel_rfl)

theorem proved : Rows.WaitsTellsCardSaid :=
  Claim7.holds_tied_plain_at .later [] _ _ _ _ said (fun _ h => by cases h) (by kernel_rfl) (fun _ h => by cases h) waitsTells_row_tie rfl ⟨rfl, rfl⟩ (by kernel_rfl) rfl plain (by kernel_rfl)
#print axioms proved
end Go.Proofs.YteofipheoipeoaaDoor.waitsTells
