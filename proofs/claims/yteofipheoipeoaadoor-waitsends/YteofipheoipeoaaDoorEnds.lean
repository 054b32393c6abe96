/- Proved: WaitsEnds, that is: without its victim's edges, at most four times, nobody waits for itself; each victim waited for itself, and none greater did. Conditions: the two tables of package math/bits hold what the program's text lays (tied by the card). -/
import Derived.Test.YteofipheoipeoaaDoorRows
import Derived.Test.YteofipheoipeoaaDoorCards
import Derived.Test.YteofipheoipeoaaDoorTie
import Derived.Test.YteofipheoipeoaaDoorW5
import Derived.Test.YteofipheoipeoaaDoorOe
import Derived.WalkKit
import Derived.ProofKit
import Derived.OpenShut
import Derived.ShutString
import Derived.ChangeOld
import Derived.SizedLaws
import Derived.Below
import Derived.Deep.QuietTactic
import Derived.BigQuiet
import Derived.Deep.RegionWith
import Derived.Deep.RegionHeld
import Derived.Deep.RegionHeldLaw
import Derived.RegionTactic
import Derived.Deep.DeepHandedRow
import Derived.Lib.LaidTab
namespace Go.Proofs.YteofipheoipeoaaDoor.waitsEnds
open Go.ChangeShapes Go.WideShapes Go.ChangeAt Go.RowKit
set_option linter.unusedVariables false


set_option maxHeartbeats 1600000 in
theorem walk (a0 : Option Addr) (c0 n0 : Nat) (q0 : List (Int × Int)) (w : World) (r0 : RdE w a0 c0 q0) (l0 : q0.length = n0) (H : Tz w) : Calls Tryd.prog 5 #[.slice a0 n0 c0] w fun e w' => e = .returned (.bool true) ∧ Below w.heap.size w w' := by
  have hal := alive_any w H
  by_cases hbig : 200 < n0
  · go_enter Tryd.func5, Tryd.ntmps5
    go_wp2_with (go_at_call 10; refine hal.mono ?_; rintro e w1 ⟨rfl, hb1⟩)
    go_ret
    exact ⟨rfl, hb1⟩
  · go_enter Tryd.func5, Tryd.ntmps5
    go_wp2_with (go_at_call 10; refine hal.mono ?_; rintro e w1 ⟨rfl, hb1⟩)
    go_loopw [3, 4] (fun v i wr => ∃ (t : Nat) (ao : Option Addr) (n cap : Nat) (R : List (Int × Int)), i = .int .i64 t ∧ t ≤ 4 ∧ v = .slice ao n cap ∧ RdE wr ao cap R ∧ Hid (R.length = n) ∧ n ≤ 200 ∧ Hid (∀ c, 4 - t ≤ c → c < 4 → rB R c c = false) ∧ Below w.heap.size w wr) (fun _ i _ => 4 - (intOf i).toNat)
    case atStart => exact ⟨0, a0, n0, c0, q0, rfl, by omega, rfl, r0.below hb1, l0, by omega, fun c h1 h2 => by omega, hb1⟩
    case round =>
      obtain ⟨t, ao, n, cap, R, rfl, ht, rfl, hr, hl, hn2, HC, hbel⟩ := hrel
      rename World => wr
      obtain ⟨wA, hwA⟩ : ∃ x, x = wr := ⟨_, rfl⟩
      subst hwA
      have hT := H.on hbel
      have hvi := victim_any wA ao n cap R hr hl.out hT
      by_cases hlt : t < 4
      · have e4 : decide ((t : Int) < 4) = true := by simp; omega
        cases hv : vcB R
        · rw [hv] at hvi
          have HV : Hid (∀ c, c < 4 → rB R c c = false) := vc_none hv
          have HVB : Hid (vcB R = false) := hv
          clear hv
          go_wp2_with (first
            | (go_at_call 9; with_reducible refine hvi.mono ?_; rintro e w2 ⟨rfl, hb2⟩; have hr2 := hr.below hb2; have hT2 := hT.on hb2; have hv2 := victim_any w2 ao n cap R hr2 hl.out hT2; rw [HVB.out] at hv2)
            | (go_at_call 9; with_reducible refine hv2.mono ?_; rintro e w3 ⟨rfl, hb3⟩; have hr3 := hr2.below hb3; have hT3 := hT2.on hb3)
            | (go_at_call 20; refine (nobody_true w3 ao n cap R hr3 hl.out hT3 HV.out).mono ?_; rintro e w4 ⟨rfl, hb4⟩))
          go_ret
          exact ⟨rfl, below_step (below_step (below_step hbel hb2) hb3) hb4⟩
        · obtain ⟨m, hm, hvm, hcm, hup⟩ := vc_spec hv
          rw [hv, hvm] at hvi
          have HU : Hid (∀ j, m < j → j < 4 → rB R j j = false) := hup
          have HM : Hid (vcI R = (m : Int) ∧ rB R m m = true) := ⟨hvm, hcm⟩
          clear hv hvm hcm hup
          have hcy1 : ∀ W, Below wA.heap.size wA W → Calls Tryd.prog 12 #[.slice ao n cap, .int .i64 (m : Int)] W fun e w' => e = .returned (.bool true) ∧ Below W.heap.size W w' := fun W hW => by
            have := cycle_any W ao n cap R (hr.below hW) hl.out (hT.on hW) (m : Int)
            rwa [cy_nat hm, HM.out.2] at this
          have HCY : Hid (∀ W, Below wA.heap.size wA W → Calls Tryd.prog 12 #[.slice ao n cap, .int .i64 (m : Int)] W fun e w' => e = .returned (.bool true) ∧ Below W.heap.size W w') := hcy1
          clear hcy1
          go_wp2_with (first
            | (go_at_call 9; with_reducible refine hvi.mono ?_; rintro e w2 ⟨rfl, hb2⟩)
            | (go_at_call 12; with_reducible refine (HCY.out w2 hb2).mono ?_; rintro e w3 ⟨rfl, hb3⟩; have hb23 := below_step hb2 hb3))
          go_loopw [7] (fun i wr => ∃ c : Nat, i = .int .i64 c ∧ m < c ∧ c ≤ 4 ∧ Below wA.heap.size wA wr) (fun i _ => 4 - (intOf i).toNat)
          case atStart => exact ⟨m + 1, by go_num, by omega, by omega, hb23⟩
          case round =>
            obtain ⟨c, rfl, hc1, hc4, hbi⟩ := hrel
            rename World => wi
            by_cases hlc : c < 4
            · have hcy := cycle_any wi ao n cap R (hr.below hbi) hl.out (hT.on hbi) (c : Int)
              rw [cy_nat hlc, HU.out c hc1 hlc] at hcy
              have e5 : decide ((c : Int) < 4) = true := by simp; omega
              go_wp2_with (go_at_call 12; refine hcy.mono ?_; rintro e w5 ⟨rfl, hb5⟩)
              go_roundw
              case rel => exact ⟨c + 1, by go_num, by omega, by omega, below_step hbi hb5⟩
              case measure => simp [intOf]; omega
            · obtain rfl : c = 4 := by omega
              have hwo := without_any wi ao n cap R (hr.below hbi) hl.out (by omega) (m : Int)
              have hwl := wo_len R (m : Int)
              have HWL : Hid ((wo R (m : Int)).length ≤ R.length) := hwl
              clear hwl
              go_wp2_with (first
                | (go_at_call 18; refine hwo.mono ?_; rintro e w5 ⟨ao5, n5, cap5, rfl, ho5, hn5, hb5⟩; have HN5 : Hid ((wo R (m : Int)).length = n5) := hn5; clear hn5; have hB5 := below_step hbi hb5; have hcy5 := cycle_any w5 ao5 n5 cap5 (wo R (m : Int)) ho5.rd HN5.out (hT.on hB5) (m : Int); rw [cy_nat hm, wo_self] at hcy5)
                | (go_at_call 12; refine hcy5.mono ?_; rintro e w6 ⟨rfl, hb6⟩))
              go_roundw
              case rel =>
                have h1 := HN5.out
                have h2 := HWL.out
                have h3 := hl.out
                refine ⟨t + 1, ao5, n5, cap5, wo R (m : Int), by go_num, by omega, rfl, ho5.rd.below hb6, h1, by omega, fun c h5 h6 => ?_, below_step (below_step hbel hB5) hb6⟩
                have hmt : m ≤ 3 - t := by
                  rcases Nat.lt_or_ge (3 - t) m with h | h
                  · have := HC.out m (by omega) hm
                    rw [HM.out.2] at this
                    cases this
                  · exact h
                rcases Nat.lt_or_ge m c with h | h
                · exact wo_less (HU.out c h h6)
                · have : c = m := by omega
                  subst this
                  exact wo_self R c
              case measure => simp [intOf]; omega
      · obtain rfl : t = 4 := by omega
        have HV : Hid (∀ c, c < 4 → rB R c c = false) := fun c hc => HC.out c (by omega) hc
        have hvb : vcB R = false := (vc_no HV.out).2
        rw [hvb] at hvi
        clear hvb
        go_wp2_with (first
          | (go_at_call 9; with_reducible refine hvi.mono ?_; rintro e w3 ⟨rfl, hb3⟩; have hr3 := hr.below hb3; have hT3 := hT.on hb3)
          | (go_at_call 20; refine (nobody_true w3 ao n cap R hr3 hl.out hT3 HV.out).mono ?_; rintro e w4 ⟨rfl, hb4⟩))
        go_ret
        exact ⟨rfl, below_step (below_step hbel hb3) hb4⟩

theorem reads (os : Os) {H : Type} (enc : TypeId × Value → H) : ∃ places, DataW.whole enc Tryd.prog ((laidWorld os).forCall (fun _ _ => 0) ⟨#[], #[.slice none 0 0], []⟩).memory Tryd.f5.params.toList Rows.waitsEndsSpec.vars false (#[.slice none 0 0] : Array Value).toList 8 = some ([.nil], [], places) :=
  ⟨[], by kernel_rfl⟩

set_option maxRecDepth 100000 in
theorem lifted (os : Os) (started : os.Started) (H : Type) (enc : TypeId × Value → H) (F : Stop.Interp) :
    ReturnsInHanded {} Tryd.checked os 5 .any ((OpenSpec.ofChange Rows.waitsEndsSpec).preRow enc Tryd.prog Tryd.f5 Rows.waitsEndsRow.domain false Rows.waitsEndsRow.laid) (((OpenSpec.ofChange Rows.waitsEndsSpec).at F).post enc Tryd.prog Tryd.f5 false true false false) := by
  obtain ⟨places, hx⟩ := reads os enc
  refine returnsInHanded_of_row (C := Tryd.checked) (s := OpenSpec.ofChange Rows.waitsEndsSpec) own started (by kernel_rfl) Tryd.func5
    (witness_row_at (enc := enc) (C := Tryd.checked) false (laidWorld os) #[.slice none 0 0] rfl (by kernel_rfl) (by kernel_rfl) (by kernel_rfl)
      (OpenSpec.preRow_of_cond 8 hx (by kernel_rfl) (fun k hk => by cases hk) (by kernel_rfl) (laid_met os _))) ?_
  intro W base args ds gs before hval0 hW _ _ hsz0 hL _ _
  have HT : Tz W := tz_of_laid hL
  have hval : ∀ (j : Nat) t v, Tryd.f5.params[j]? = some t → args[j]? = some v → Value.okWide Tryd.prog W .any base t v := hval0
  have hsz : (DataW.weightsEach Tryd.prog (Tryd.f5.params.toList ++ Rows.waitsEndsSpec.plain.varTypes Tryd.prog) (ds ++ gs)).all (· ≤ reachBytes) = true := hsz0
  have hW' := hW
  obtain ⟨p, q, hA0, hV, rfl, hfz, hnd⟩ := hW
  have hA : DataW.TrodAll enc Tryd.prog W 0 (fun _ => true) true Tryd.f5.params.toList args.toList ds p := hA0
  rw [Tryd.params5] at hA hval hsz
  obtain ⟨v0, vs0, d0, ds0, p0, q0, hargs, rfl, rfl, h0, r0⟩ := trodAll_cons hA
  obtain ⟨rfl, rfl, rfl⟩ := trodAll_nil r0
  obtain rfl : args = #[v0] := by cases args; simp_all
  obtain ⟨rfl, rfl⟩ := trodVars_none hV
  obtain ⟨a0, n0, c0, rfl⟩ := okWide_slice Tryd.underlying30 (hval 0 30 v0 rfl rfl)
  have k0 := h0
  have lt0 : ∀ x ∈ p0, x.block < W.heap.size := by obtain ⟨m, hm⟩ := k0; exact DataW.trod_lt m _ _ _ hm
  obtain ⟨q0', r0', l0⟩ : ∃ A : List (Int × Int), RdE W a0 c0 A ∧ A.length = n0 := by
    obtain ⟨fuel, hf⟩ := h0
    obtain ⟨a, l, c, A, hcs, h1, h2⟩ := edges_of hf
    simp [Value.cells] at hcs
    obtain ⟨rfl, rfl, rfl⟩ := hcs
    exact ⟨A, h1, h2⟩
  clear hA0 hval0 hsz0
  refine (walk a0 c0 n0 q0' W r0' l0 HT).mono fun e W' ⟨he, bel⟩ => ?_
  subst he
  exact ⟨_, rfl, _, _, _, [], _, [], hW', trodAll_mk1 (shut_bool Tryd.underlying4 _), (trodAll_cons_mk (Below.trod laidOut (by kernel_rfl) (of_decide_eq_true (by kernel_rfl)) k0 bel lt0) trodAll_mk0), rfl, bel.frame _, fun h => by cases h⟩

theorem said : Rows.WaitsEndsSaid :=
  OpenClaim.holds_of_cond 5 Tryd.f5 rfl rfl rfl rfl rfl rfl rfl ⟨rfl, rfl, rfl, rfl, rfl⟩ rfl rfl rfl rfl rfl (by kernel_rfl) Tryd.func5 (by kernel_rfl)
    (of_decide_eq_true (by kernel_rfl)) (by unfold Func.isWrapper; first | (rw [if_pos (by decide +kernel)]; kernel_rfl) | (rw [if_neg (by decide +kernel)]; exact ⟨rfl, rfl⟩))
    (fun os started H enc _ F => by rw [OpenClaim.pre_eq_preRow]; exact lifted os started H enc F)

theorem plain (f : FuncId) (fn : Func) (hf : Tryd.pinned.checked.prog.funcNamed "cloakroom/cloakroomlaw13.WaitsEnds" = some f) (hfn : Tryd.pinned.checked.prog.funcs[f]? = some fn) :
    false = Tryd.pinned.checked.prog.looks [] ∧ ∀ (j : Nat) t, fn.params[j]? = some t → Tryd.pinned.checked.prog.wantsStandIn t = false := by
  obtain rfl : f = 5 := Option.some.inj ((show Tryd.prog.funcNamed "cloakroom/cloakroomlaw13.WaitsEnds" = some 5 by kernel_rfl).symm.trans hf) |>.symm
  obtain rfl : fn = Tryd.f5 := (Option.some.inj (Tryd.func5.symm.trans hfn)).symm
  refine ⟨by kernel_rfl, fun j t ht => ?_⟩
  rw [Tryd.params5] at ht
  obtain rfl : t = 30 := by simpa using Array.mem_of_getElem? ht
  exact (show Tryd.prog.wantsStandIn 30 = false by kernel_rfl)

theorem proved : Rows.WaitsEndsCardSaid :=
  Claim7.holds_tied_plain_at .later [] _ _ _ _ said (fun _ h => by cases h) (by kernel_rfl) (fun _ h => by cases h) waitsEnds_row_tie rfl ⟨rfl, rfl⟩ (by kernel_rfl) rfl plain (by kernel_rfl)
#print axioms proved
end Go.Proofs.YteofipheoipeoaaDoor.waitsEnds
