/- What is free may be had: whatever was granted before, what nobody else owns is granted as a copy, an object is owned just where nobody else has a copy of it, others keep what they have, and behind the holders' drops it is owned: for any acts, any client and any place the function answers true. No condition. -/
import Derived.Test.YtngfcnbcljcdfaaRows
import Derived.Test.YtngfcnbcljcdfaaSl
import Derived.Test.YtngfcnbcljcdfaaT0
import Derived.Test.YtngfcnbcljcdfaaT1
import Derived.Test.YtngfcnbcljcdfaaT2
import Derived.Test.YtngfcnbcljcdfaaT3
import Derived.Test.YtngfcnbcljcdfaaTm
import Derived.Test.YtngfcnbcljcdfaaOa
import Derived.Test.YtngfcnbcljcdfaaCm
import Derived.Test.YtngfcnbcljcdfaaGm
import Derived.Test.YtngfcnbcljcdfaaI2
import Derived.Test.YtngfcnbcljcdfaaGi
import Derived.WalkKit
import Derived.ProofKit
import Derived.OpenShut
import Derived.ShutString
import Derived.ChangeOld
import Derived.SizedLaws
import Derived.Below
import Derived.Deep.QuietTactic
import Derived.BigQuiet
import Derived.Deep.RegionWith
import Derived.Deep.RegionHeld
import Derived.Deep.RegionHeldLaw
import Derived.RegionTactic
namespace Go.Proofs.Ytngfcnbcljcdfaa.tableGives
open Go.ChangeShapes Go.WideShapes Go.ChangeAt Go.RowKit
set_option linter.unusedVariables false

theorem own : ownKnob Try.prog.godebug = none := by kernel_rfl
theorem laidOut : laidOutB Try.prog = true := by kernel_rfl

set_option maxRecDepth 100000 in
set_option maxHeartbeats 1600000 in
theorem walk (a0 : Option Addr) (c0 n0 : Nat) (A : List ActG) (a1 x2 y2 : Int) (w : World) (hA : ActsAt w a0 A) (hn : A.length = n0) (w1' : (Lit.int .i64 a1).wf = true) (wx2' : (Lit.int .i64 x2).wf = true) (wy2' : (Lit.int .i64 y2).wf = true) :
    Calls Try.prog 6 #[.slice a0 n0 c0, .int .i64 a1, .agg #[.int .i64 x2, .int .i64 y2]] w fun e w' => e = .returned (.bool true) ∧ Below w.heap.size w w' := by
  by_cases t0 : ((60 : Int) < (n0 : Int))
  · clear hA hn
    go_enter Try.func6, Try.ntmps6
    go_upto_region 3 with (first
      | (go_at_call 9; refine (alive_any _).mono ?_; rintro e w1 ⟨rfl, hb1⟩; have p0 := plc0 _ _ hb1; have p1 := plc1 _ _ hb1; have hB1 := below_al hb1))
    go_quiet (fail)
    go_wp2
    go_ret
    exact ⟨rfl, below_drN hB1 _⟩
  · skip
    by_cases t1 : (a1 < 0)
    · clear hA hn
      go_enter Try.func6, Try.ntmps6
      go_upto_region 3 with (first
        | (go_at_call 9; refine (alive_any _).mono ?_; rintro e w1 ⟨rfl, hb1⟩; have p0 := plc0 _ _ hb1; have p1 := plc1 _ _ hb1; have hB1 := below_al hb1))
      go_quiet (fail)
      go_wp2
      go_ret
      exact ⟨rfl, below_drN hB1 _⟩
    · skip
      by_cases t2 : (3 < a1)
      · clear hA hn
        go_enter Try.func6, Try.ntmps6
        go_upto_region 3 with (first
          | (go_at_call 9; refine (alive_any _).mono ?_; rintro e w1 ⟨rfl, hb1⟩; have p0 := plc0 _ _ hb1; have p1 := plc1 _ _ hb1; have hB1 := below_al hb1))
        go_quiet (fail)
        go_wp2
        go_ret
        exact ⟨rfl, below_drN hB1 _⟩
      · skip
        by_cases t3 : (x2 < 0)
        · clear hA hn
          go_enter Try.func6, Try.ntmps6
          go_upto_region 3 with (first
            | (go_at_call 9; refine (alive_any _).mono ?_; rintro e w1 ⟨rfl, hb1⟩; have p0 := plc0 _ _ hb1; have p1 := plc1 _ _ hb1; have hB1 := below_al hb1))
          go_quiet (fail)
          go_wp2
          go_ret
          exact ⟨rfl, below_drN hB1 _⟩
        · skip
          by_cases t4 : (5 < x2)
          · clear hA hn
            go_enter Try.func6, Try.ntmps6
            go_upto_region 3 with (first
              | (go_at_call 9; refine (alive_any _).mono ?_; rintro e w1 ⟨rfl, hb1⟩; have p0 := plc0 _ _ hb1; have p1 := plc1 _ _ hb1; have hB1 := below_al hb1))
            go_quiet (fail)
            go_wp2
            go_ret
            exact ⟨rfl, below_drN hB1 _⟩
          · skip
            by_cases t5 : (y2 < 0)
            · clear hA hn
              go_enter Try.func6, Try.ntmps6
              go_upto_region 3 with (first
                | (go_at_call 9; refine (alive_any _).mono ?_; rintro e w1 ⟨rfl, hb1⟩; have p0 := plc0 _ _ hb1; have p1 := plc1 _ _ hb1; have hB1 := below_al hb1))
              go_quiet (fail)
              go_wp2
              go_ret
              exact ⟨rfl, below_drN hB1 _⟩
            · skip
              by_cases t6 : (3 < y2)
              · clear hA hn
                go_enter Try.func6, Try.ntmps6
                go_upto_region 3 with (first
                  | (go_at_call 9; refine (alive_any _).mono ?_; rintro e w1 ⟨rfl, hb1⟩; have p0 := plc0 _ _ hb1; have p1 := plc1 _ _ hb1; have hB1 := below_al hb1))
                go_quiet (fail)
                go_wp2
                go_ret
                exact ⟨rfl, below_drN hB1 _⟩
              · skip
                obtain ⟨c, rfl⟩ : ∃ c : Nat, a1 = c := ⟨a1.toNat, by omega⟩
                obtain ⟨p, rfl⟩ : ∃ p : Nat, x2 = p := ⟨x2.toNat, by omega⟩
                obtain ⟨o, rfl⟩ : ∃ o : Nat, y2 = o := ⟨y2.toNat, by omega⟩
                exact gives_main a0 c0 n0 A c p o w hA hn t0 (by omega) (by omega) (by omega)

set_option maxRecDepth 100000 in
theorem lifted (os : Os) (started : os.Started) (H : Type) (enc : TypeId × Value → H) :
    ReturnsInHanded {} Try.checked os 6 .any (Rows.tableGivesSpec.pre6 enc Try.prog Try.f6 Rows.tableGivesRow.domain false) (Rows.tableGivesSpec.post enc Try.prog Try.f6 false true false false) := by
  refine returnsInHanded_of_change_sized (C := Try.checked) own started (by kernel_rfl) Try.func6
    (ChangeSpec.witness6 (enc := enc) (C := Try.checked) false ⟨#[], #[.slice none 0 0, .int .i64 0, .agg #[.int .i64 0, .int .i64 0]], []⟩ 8 (by kernel_rfl) (by kernel_rfl) (by kernel_rfl) (by kernel_rfl)) ?_
  intro W base args ds gs before hval0 hW hcnd hsz0 _
  have hval : ∀ (j : Nat) t v, Try.f6.params[j]? = some t → args[j]? = some v → Value.okWide Try.prog W .any base t v := hval0
  have hsz : (DataW.weightsEach Try.prog (Try.f6.params.toList ++ Rows.tableGivesSpec.plain.varTypes Try.prog) (ds ++ gs)).all (· ≤ reachBytes) = true := hsz0
  have hW' := hW
  obtain ⟨p, q, hA0, hV, rfl, hfz, hnd⟩ := hW
  have hA : DataW.TrodAll enc Try.prog W 0 (fun _ => true) true Try.f6.params.toList args.toList ds p := hA0
  rw [Try.params6] at hA hval hsz
  obtain ⟨v0, vs0, d0, ds0, p0, q0, hargs, rfl, rfl, h0, r0⟩ := trodAll_cons hA
  obtain ⟨v1, vs1, d1, ds1, p1, q1, rfl, rfl, rfl, h1, r1⟩ := trodAll_cons r0
  obtain ⟨v2, vs2, d2, ds2, p2, q2, rfl, rfl, rfl, h2, r2⟩ := trodAll_cons r1
  obtain ⟨rfl, rfl, rfl⟩ := trodAll_nil r2
  obtain rfl : args = #[v0, v1, v2] := by cases args; simp_all
  obtain ⟨rfl, rfl⟩ := trodVars_none hV
  obtain ⟨a0, n0, c0, rfl⟩ := okWide_slice Try.underlying30 (hval 0 30 v0 rfl rfl)
  have k0 := h0
  have lt0 : ∀ x ∈ p0, x.block < W.heap.size := by obtain ⟨m, hm⟩ := k0; exact DataW.trod_lt m _ _ _ hm
  obtain ⟨q0', r0', l0⟩ : ∃ A : List ActG, ActsAt W a0 A ∧ A.length = n0 := by
    obtain ⟨fuel, hf⟩ := h0
    obtain ⟨a, l, c, A, hcs, h1, h2, _⟩ := acts_of hf (fun n hn => by have := List.all_eq_true.1 hsz _ (DataW.weights_mem_each (j := 0) (t := 30) (d := d0) rfl rfl n hn); simpa using this)
    simp [Value.cells] at hcs
    obtain ⟨rfl, rfl, rfl⟩ := hcs
    exact ⟨A, h1, h2⟩
  obtain ⟨a1, rfl, rfl, rfl, w1⟩ := open_int Try.underlying3 (hval 1 3 v1 rfl rfl) h1
  have k2 := h2
  have lt2 : ∀ x ∈ p2, x.block < W.heap.size := by obtain ⟨m, hm⟩ := k2; exact DataW.trod_lt m _ _ _ hm
  obtain ⟨x2, y2, rfl, wx2, wy2⟩ := open_two (hval 2 50 v2 rfl rfl) h2
  clear hA0 hval0
  refine (walk a0 c0 n0 q0' a1 x2 y2 W r0' l0 w1 wx2 wy2).mono fun e W' ⟨he, bel⟩ => ?_
  subst he
  exact ⟨_, rfl, _, _, _, [], _, [], hW', trodAll_mk1 (shut_bool Try.underlying4 _), (trodAll_cons_mk (Below.trod laidOut (by kernel_rfl) (of_decide_eq_true (by kernel_rfl)) k0 bel lt0) (trodAll_cons_mk (shut_int Try.underlying3 w1) (trodAll_cons_mk (Below.trod laidOut (by kernel_rfl) (of_decide_eq_true (by kernel_rfl)) k2 bel lt2) trodAll_mk0))), rfl, bel.frame _, fun h => by cases h⟩

theorem over : Rows.tableGivesRow.holds Try.pinned (OpenSpec.ofChange Rows.tableGivesSpec) :=
  OpenClaim.holds_of_wide 6 Try.f6 rfl rfl rfl rfl rfl rfl rfl ⟨rfl, rfl, rfl, rfl, rfl⟩ rfl rfl rfl rfl rfl (by kernel_rfl) Try.func6 (by kernel_rfl)
    (of_decide_eq_true (by kernel_rfl)) (by unfold Func.isWrapper; first | (rw [if_pos (by decide +kernel)]; kernel_rfl) | (rw [if_neg (by decide +kernel)]; exact ⟨rfl, rfl⟩))
    (fun os started H enc _ => lifted os started H enc)

theorem proved : Rows.TableGivesSaid := over
#print axioms proved
end Go.Proofs.Ytngfcnbcljcdfaa.tableGives
