/- Each packet's bytes are told once, in order: for any session and any steps (at most 150 are done) the function answers true. No condition. -/
import Derived.Test.YtgdlejeopdipiaaRows
import Derived.Test.YtgdlejeopdipiaaSl
import Derived.Test.YtgdlejeopdipiaaSg
import Derived.Test.YtgdlejeopdipiaaSd
import Derived.Test.YtgdlejeopdipiaaAp
import Derived.Test.YtgdlejeopdipiaaTd
import Derived.Test.YtgdlejeopdipiaaLm
import Derived.Test.YtgdlejeopdipiaaL1
import Derived.Test.YtgdlejeopdipiaaL2
import Derived.Test.YtgdlejeopdipiaaL3
import Derived.Test.YtgdlejeopdipiaaPm
import Derived.Test.YtgdlejeopdipiaaL4
import Derived.Test.YtgdlejeopdipiaaL5
import Derived.Test.YtgdlejeopdipiaaL6
import Derived.Test.YtgdlejeopdipiaaL7
import Derived.Test.YtgdlejeopdipiaaR1
import Derived.Test.YtgdlejeopdipiaaR2
import Derived.Test.YtgdlejeopdipiaaR3
import Derived.Test.YtgdlejeopdipiaaR4
import Derived.Test.YtgdlejeopdipiaaR5
import Derived.Test.YtgdlejeopdipiaaOp
import Derived.Test.YtgdlejeopdipiaaRn
import Derived.Test.YtgdlejeopdipiaaRp
import Derived.Test.YtgdlejeopdipiaaRu
import Derived.Test.YtgdlejeopdipiaaOq
import Derived.Test.YtgdlejeopdipiaaDu
import Derived.Test.YtgdlejeopdipiaaAw
import Derived.Test.YtgdlejeopdipiaaOc
import Derived.WalkKit
import Derived.ProofKit
import Derived.OpenShut
import Derived.ShutString
import Derived.ChangeOld
import Derived.SizedLaws
import Derived.Below
import Derived.Deep.QuietTactic
import Derived.BigQuiet
import Derived.Deep.RegionWith
import Derived.Deep.RegionHeld
import Derived.Deep.RegionHeldLaw
import Derived.RegionTactic
namespace Go.Proofs.Ytgdlejeopdipiaa.linkOnce
open Go.ChangeShapes Go.WideShapes Go.ChangeAt Go.RowKit
set_option linter.unusedVariables false

theorem own : ownKnob Try.prog.godebug = none := by kernel_rfl
theorem laidOut : laidOutB Try.prog = true := by kernel_rfl

set_option maxRecDepth 100000 in
set_option maxHeartbeats 1600000 in
theorem walk (P0 : PkG) (a0 : Option Addr) (n0 c0 : Nat) (a1 : Option Addr) (c1 n1 : Nat) (q1 : List ActG) (w : World) (r0' : Rd8 w a0 n0 c0 P0.bs ∧ PkWf P0) (s0 : n0 ≤ 140737488351232) (r1' : ActsAt w a1 q1) (l1 : q1.length = n1) :
    Calls Try.prog 5 #[pkV P0 (.slice a0 n0 c0), .slice a1 n1 c1] w fun e w' => e = .returned (.bool true) ∧ Below w.heap.size w w' := by
  by_cases t0 : ((150 : Int) < (n1 : Int))
  · clear r0' s0 r1' l1
    go_enter Try.func5, Try.ntmps5
    go_wp2_with (first
      | (go_at_call 11; refine (alive_any _).mono ?_; rintro e w1 ⟨rfl, hb1⟩; have hP1 := (PkIn.new w P0 (.slice a0 n0 c0)).below hb1; have hB1 : Below w.heap.size w w1 := below_alloc (hb1.mono (by simp)); have i0 := hP1.c0; have i1 := hP1.c1; have i2 := hP1.c2; simp only [Nat.zero_add] at i1 i2))
    go_ret
    exact ⟨rfl, hB1⟩
  · skip
    by_cases t1 : (P0.cl < 0)
    · clear r0' s0 r1' l1
      go_enter Try.func5, Try.ntmps5
      go_wp2_with (first
        | (go_at_call 11; refine (alive_any _).mono ?_; rintro e w1 ⟨rfl, hb1⟩; have hP1 := (PkIn.new w P0 (.slice a0 n0 c0)).below hb1; have hB1 : Below w.heap.size w w1 := below_alloc (hb1.mono (by simp)); have i0 := hP1.c0; have i1 := hP1.c1; have i2 := hP1.c2; simp only [Nat.zero_add] at i1 i2))
      go_ret
      exact ⟨rfl, hB1⟩
    · skip
      by_cases t2 : (3 < P0.cl)
      · clear r0' s0 r1' l1
        go_enter Try.func5, Try.ntmps5
        go_wp2_with (first
          | (go_at_call 11; refine (alive_any _).mono ?_; rintro e w1 ⟨rfl, hb1⟩; have hP1 := (PkIn.new w P0 (.slice a0 n0 c0)).below hb1; have hB1 : Below w.heap.size w w1 := below_alloc (hb1.mono (by simp)); have i0 := hP1.c0; have i1 := hP1.c1; have i2 := hP1.c2; simp only [Nat.zero_add] at i1 i2))
        go_ret
        exact ⟨rfl, hB1⟩
      · skip
        by_cases t3 : (P0.ep < 0)
        · clear r0' s0 r1' l1
          go_enter Try.func5, Try.ntmps5
          go_wp2_with (first
            | (go_at_call 11; refine (alive_any _).mono ?_; rintro e w1 ⟨rfl, hb1⟩; have hP1 := (PkIn.new w P0 (.slice a0 n0 c0)).below hb1; have hB1 : Below w.heap.size w w1 := below_alloc (hb1.mono (by simp)); have i0 := hP1.c0; have i1 := hP1.c1; have i2 := hP1.c2; simp only [Nat.zero_add] at i1 i2))
          go_ret
          exact ⟨rfl, hB1⟩
        · skip
          by_cases t4 : (16777215 < P0.ep)
          · clear r0' s0 r1' l1
            go_enter Try.func5, Try.ntmps5
            go_wp2_with (first
              | (go_at_call 11; refine (alive_any _).mono ?_; rintro e w1 ⟨rfl, hb1⟩; have hP1 := (PkIn.new w P0 (.slice a0 n0 c0)).below hb1; have hB1 : Below w.heap.size w w1 := below_alloc (hb1.mono (by simp)); have i0 := hP1.c0; have i1 := hP1.c1; have i2 := hP1.c2; simp only [Nat.zero_add] at i1 i2))
            go_ret
            exact ⟨rfl, hB1⟩
          · skip
            by_cases t5 : (P0.bo < 0)
            · clear r0' s0 r1' l1
              go_enter Try.func5, Try.ntmps5
              go_wp2_with (first
                | (go_at_call 11; refine (alive_any _).mono ?_; rintro e w1 ⟨rfl, hb1⟩; have hP1 := (PkIn.new w P0 (.slice a0 n0 c0)).below hb1; have hB1 : Below w.heap.size w w1 := below_alloc (hb1.mono (by simp)); have i0 := hP1.c0; have i1 := hP1.c1; have i2 := hP1.c2; simp only [Nat.zero_add] at i1 i2))
              go_ret
              exact ⟨rfl, hB1⟩
            · skip
              by_cases t6 : (16777215 < P0.bo)
              · clear r0' s0 r1' l1
                go_enter Try.func5, Try.ntmps5
                go_wp2_with (first
                  | (go_at_call 11; refine (alive_any _).mono ?_; rintro e w1 ⟨rfl, hb1⟩; have hP1 := (PkIn.new w P0 (.slice a0 n0 c0)).below hb1; have hB1 : Below w.heap.size w w1 := below_alloc (hb1.mono (by simp)); have i0 := hP1.c0; have i1 := hP1.c1; have i2 := hP1.c2; simp only [Nat.zero_add] at i1 i2))
                go_ret
                exact ⟨rfl, hB1⟩
              · skip
                exact once_main P0 a0 n0 c0 a1 c1 n1 q1 w r1' l1 (by omega) t1 t2 t3 t4 t5 t6

set_option maxRecDepth 100000 in
theorem lifted (os : Os) (started : os.Started) (H : Type) (enc : TypeId × Value → H) :
    ReturnsInHanded {} Try.checked os 5 .any (Rows.linkOnceSpec.pre6 enc Try.prog Try.f5 Rows.linkOnceRow.domain false) (Rows.linkOnceSpec.post enc Try.prog Try.f5 false true false false) := by
  refine returnsInHanded_of_change_sized (C := Try.checked) own started (by kernel_rfl) Try.func5
    (ChangeSpec.witness6 (enc := enc) (C := Try.checked) false ⟨#[], #[.agg #[.int .i64 0, .int .i64 0, .int .i64 0, .int .i64 0, .int .i64 0, .bool false, .slice none 0 0], .slice none 0 0], []⟩ 8 (by kernel_rfl) (by kernel_rfl) (by kernel_rfl) (by kernel_rfl)) ?_
  intro W base args ds gs before hval0 hW hcnd hsz0 _
  have hval : ∀ (j : Nat) t v, Try.f5.params[j]? = some t → args[j]? = some v → Value.okWide Try.prog W .any base t v := hval0
  have hsz : (DataW.weightsEach Try.prog (Try.f5.params.toList ++ Rows.linkOnceSpec.plain.varTypes Try.prog) (ds ++ gs)).all (· ≤ reachBytes) = true := hsz0
  have hW' := hW
  obtain ⟨p, q, hA0, hV, rfl, hfz, hnd⟩ := hW
  have hA : DataW.TrodAll enc Try.prog W 0 (fun _ => true) true Try.f5.params.toList args.toList ds p := hA0
  rw [Try.params5] at hA hval hsz
  obtain ⟨v0, vs0, d0, ds0, p0, q0, hargs, rfl, rfl, h0, r0⟩ := trodAll_cons hA
  obtain ⟨v1, vs1, d1, ds1, p1, q1, rfl, rfl, rfl, h1, r1⟩ := trodAll_cons r0
  obtain ⟨rfl, rfl, rfl⟩ := trodAll_nil r1
  obtain rfl : args = #[v0, v1] := by cases args; simp_all
  obtain ⟨rfl, rfl⟩ := trodVars_none hV
  have k0 := h0
  have lt0 : ∀ x ∈ p0, x.block < W.heap.size := by obtain ⟨m, hm⟩ := k0; exact DataW.trod_lt m _ _ _ hm
  obtain ⟨P0, a0, n0, c0, rfl, r0', s0⟩ := open_packet (hval 0 30 v0 rfl rfl) h0 (fun n hn => by have := List.all_eq_true.1 hsz _ (DataW.weights_mem_each (j := 0) (t := 30) (d := d0) rfl rfl n hn); simpa using this)
  obtain ⟨a1, n1, c1, rfl⟩ := okWide_slice Try.underlying48 (hval 1 48 v1 rfl rfl)
  have k1 := h1
  have lt1 : ∀ x ∈ p1, x.block < W.heap.size := by obtain ⟨m, hm⟩ := k1; exact DataW.trod_lt m _ _ _ hm
  obtain ⟨q1', r1', l1⟩ : ∃ A : List ActG, ActsAt W a1 A ∧ A.length = n1 := by
    obtain ⟨fuel, hf⟩ := h1
    obtain ⟨a, l, c, A, hcs, h1, h2, _⟩ := acts_of hf (fun n hn => by have := List.all_eq_true.1 hsz _ (DataW.weights_mem_each (j := 1) (t := 48) (d := d1) rfl rfl n hn); simpa using this)
    simp [Value.cells] at hcs
    obtain ⟨rfl, rfl, rfl⟩ := hcs
    exact ⟨A, h1, h2⟩
  clear hA0 hval0
  refine (walk P0 a0 n0 c0 a1 c1 n1 q1' W r0' s0 r1' l1).mono fun e W' ⟨he, bel⟩ => ?_
  subst he
  exact ⟨_, rfl, _, _, _, [], _, [], hW', trodAll_mk1 (shut_bool Try.underlying4 _), (trodAll_cons_mk (Below.trod laidOut (by kernel_rfl) (of_decide_eq_true (by kernel_rfl)) k0 bel lt0) (trodAll_cons_mk (Below.trod laidOut (by kernel_rfl) (of_decide_eq_true (by kernel_rfl)) k1 bel lt1) trodAll_mk0)), rfl, bel.frame _, fun h => by cases h⟩

theorem over : Rows.linkOnceRow.holds Try.pinned (OpenSpec.ofChange Rows.linkOnceSpec) :=
  OpenClaim.holds_of_wide 5 Try.f5 rfl rfl rfl rfl rfl rfl rfl ⟨rfl, rfl, rfl, rfl, rfl⟩ rfl rfl rfl rfl rfl (by kernel_rfl) Try.func5 (by kernel_rfl)
    (of_decide_eq_true (by kernel_rfl)) (by unfold Func.isWrapper; first | (rw [if_pos (by decide +kernel)]; kernel_rfl) | (rw [if_neg (by decide +kernel)]; exact ⟨rfl, rfl⟩))
    (fun os started H enc _ => lifted os started H enc)

theorem proved : Rows.LinkOnceSaid := over
#print axioms proved
end Go.Proofs.Ytgdlejeopdipiaa.linkOnce
