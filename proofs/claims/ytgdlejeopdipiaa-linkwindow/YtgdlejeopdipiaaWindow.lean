/- Never more than eight bodies are under way, their numbers follow one another up to the last one that was sent, and a body is taken just where it is no longer than 700 bytes and fewer than eight are under way: for any bodies and any numbers that are told to have come, the function answers true. No condition. -/
import Derived.Test.YtgdlejeopdipiaaRows
import Derived.Test.YtgdlejeopdipiaaSl
import Derived.Test.YtgdlejeopdipiaaSd
import Derived.Test.YtgdlejeopdipiaaAp
import Derived.Test.YtgdlejeopdipiaaTd
import Derived.Test.YtgdlejeopdipiaaLm
import Derived.Test.YtgdlejeopdipiaaL1
import Derived.Test.YtgdlejeopdipiaaL2
import Derived.Test.YtgdlejeopdipiaaL3
import Derived.Test.YtgdlejeopdipiaaPm
import Derived.Test.YtgdlejeopdipiaaL4
import Derived.Test.YtgdlejeopdipiaaL5
import Derived.Test.YtgdlejeopdipiaaL6
import Derived.Test.YtgdlejeopdipiaaL7
import Derived.Test.YtgdlejeopdipiaaR1
import Derived.Test.YtgdlejeopdipiaaR2
import Derived.Test.YtgdlejeopdipiaaR3
import Derived.Test.YtgdlejeopdipiaaR4
import Derived.Test.YtgdlejeopdipiaaR5
import Derived.Test.YtgdlejeopdipiaaOp
import Derived.Test.YtgdlejeopdipiaaRn
import Derived.Test.YtgdlejeopdipiaaRp
import Derived.Test.YtgdlejeopdipiaaRu
import Derived.Test.YtgdlejeopdipiaaOq
import Derived.Test.YtgdlejeopdipiaaWi
import Derived.WalkKit
import Derived.ProofKit
import Derived.OpenShut
import Derived.ShutString
import Derived.ChangeOld
import Derived.SizedLaws
import Derived.Below
import Derived.Deep.QuietTactic
import Derived.BigQuiet
import Derived.Deep.RegionWith
import Derived.Deep.RegionHeld
import Derived.Deep.RegionHeldLaw
import Derived.RegionTactic
namespace Go.Proofs.Ytgdlejeopdipiaa.linkWindow
open Go.ChangeShapes Go.WideShapes Go.ChangeAt Go.RowKit
set_option linter.unusedVariables false

theorem own : ownKnob Try.prog.godebug = none := by kernel_rfl
theorem laidOut : laidOutB Try.prog = true := by kernel_rfl
theorem bytes3 : Try.prog.bytesOf 3 = 8 := by kernel_rfl

set_option maxRecDepth 100000 in
set_option maxHeartbeats 1600000 in
theorem walk (a0 : Option Addr) (c0 n0 : Nat) (q0 : List Pt) (a1 : Option Addr) (c1 n1 : Nat) (z1 : List Int) (w : World) (r0' : RdS w a0 c0 (q0.map Pt.val)) (l0 : q0.length = n0) (b0 : ∀ p ∈ q0, Rd8 w p.ao p.n p.cap p.bs ∧ p.n ≤ 140737488351232) (r1' : RdI w .i64 a1 c1 z1) (l1 : z1.length = n1) (b1 : ∀ z ∈ z1, (Lit.int .i64 z).wf = true) (s1 : n1 * 8 ≤ 140737488351232) :
    Calls Try.prog 8 #[.slice a0 n0 c0, .slice a1 n1 c1] w fun e w' => e = .returned (.bool true) ∧ Below w.heap.size w w' := by
  by_cases t0 : ((60 : Int) < (n0 : Int))
  · clear r0' l0 b0 r1' l1 b1 s1
    go_enter Try.func8, Try.ntmps8
    go_wp2_with (first
      | (go_at_call 11; refine (alive_any _).mono ?_; rintro e w1 ⟨rfl, hb1⟩))
    go_ret
    exact ⟨rfl, hb1⟩
  · by_cases t1 : ((60 : Int) < (n1 : Int))
    · clear r0' l0 b0 r1' l1 b1 s1
      go_enter Try.func8, Try.ntmps8
      go_wp2_with (first
        | (go_at_call 11; refine (alive_any _).mono ?_; rintro e w1 ⟨rfl, hb1⟩))
      go_ret
      exact ⟨rfl, hb1⟩
    · exact window_main a0 c0 n0 q0 a1 c1 n1 z1 w r0' l0 b0 r1' l1 t0 t1

set_option maxRecDepth 100000 in
theorem lifted (os : Os) (started : os.Started) (H : Type) (enc : TypeId × Value → H) :
    ReturnsInHanded {} Try.checked os 8 .any (Rows.linkWindowSpec.pre6 enc Try.prog Try.f8 Rows.linkWindowRow.domain false) (Rows.linkWindowSpec.post enc Try.prog Try.f8 false true false false) := by
  refine returnsInHanded_of_change_sized (C := Try.checked) own started (by kernel_rfl) Try.func8
    (ChangeSpec.witness6 (enc := enc) (C := Try.checked) false ⟨#[], #[.slice none 0 0, .slice none 0 0], []⟩ 8 (by kernel_rfl) (by kernel_rfl) (by kernel_rfl) (by kernel_rfl)) ?_
  intro W base args ds gs before hval0 hW hcnd hsz0 _
  have hval : ∀ (j : Nat) t v, Try.f8.params[j]? = some t → args[j]? = some v → Value.okWide Try.prog W .any base t v := hval0
  have hsz : (DataW.weightsEach Try.prog (Try.f8.params.toList ++ Rows.linkWindowSpec.plain.varTypes Try.prog) (ds ++ gs)).all (· ≤ reachBytes) = true := hsz0
  have hW' := hW
  obtain ⟨p, q, hA0, hV, rfl, hfz, hnd⟩ := hW
  have hA : DataW.TrodAll enc Try.prog W 0 (fun _ => true) true Try.f8.params.toList args.toList ds p := hA0
  rw [Try.params8] at hA hval hsz
  obtain ⟨v0, vs0, d0, ds0, p0, q0, hargs, rfl, rfl, h0, r0⟩ := trodAll_cons hA
  obtain ⟨v1, vs1, d1, ds1, p1, q1, rfl, rfl, rfl, h1, r1⟩ := trodAll_cons r0
  obtain ⟨rfl, rfl, rfl⟩ := trodAll_nil r1
  obtain rfl : args = #[v0, v1] := by cases args; simp_all
  obtain ⟨rfl, rfl⟩ := trodVars_none hV
  obtain ⟨a0, n0, c0, rfl⟩ := okWide_slice Try.underlying32 (hval 0 32 v0 rfl rfl)
  have k0 := h0
  have lt0 : ∀ x ∈ p0, x.block < W.heap.size := by obtain ⟨m, hm⟩ := k0; exact DataW.trod_lt m _ _ _ hm
  obtain ⟨q0', r0', l0, b0⟩ : ∃ ps : List Pt, RdS W a0 c0 (ps.map Pt.val) ∧ ps.length = n0 ∧ ∀ p ∈ ps, Rd8 W p.ao p.n p.cap p.bs ∧ p.n ≤ 140737488351232 := by
    obtain ⟨fuel, hf⟩ := h0
    obtain ⟨a, l, c, ps, hcs, h1, h2, h3⟩ := parts_sized hf (fun n hn => by have := List.all_eq_true.1 hsz _ (DataW.weights_mem_each (j := 0) (t := 32) (d := d0) rfl rfl n hn); simpa using this)
    simp [Value.cells] at hcs
    obtain ⟨rfl, rfl, rfl⟩ := hcs
    exact ⟨ps, h1, h2, h3⟩
  obtain ⟨a1, n1, c1, rfl⟩ := okWide_slice Try.underlying56 (hval 1 56 v1 rfl rfl)
  have k1 := h1
  have lt1 : ∀ x ∈ p1, x.block < W.heap.size := by obtain ⟨m, hm⟩ := k1; exact DataW.trod_lt m _ _ _ hm
  obtain ⟨z1, r1', l1, b1, s1⟩ : ∃ zs, RdI W .i64 a1 c1 zs ∧ zs.length = n1 ∧ (∀ z ∈ zs, (Lit.int .i64 z).wf = true) ∧ n1 * 8 ≤ 140737488351232 := by
    obtain ⟨fuel, hf⟩ := h1
    rcases open_ints Try.underlying56 Try.underlying3 (by kernel_rfl) hf with ⟨hcs, _⟩ | ⟨x, l, c, zs, hcs, _, hl, hm, hz, hx, hcell, hwz⟩
    · simp [Value.cells] at hcs
      obtain ⟨rfl, rfl, rfl⟩ := hcs
      exact ⟨[], RdI.empty W .i64, rfl, by simp, by omega⟩
    · simp [Value.cells] at hcs
      obtain ⟨rfl, rfl, rfl⟩ := hcs
      have hd : d1 = .slice (lits .i64 (zs.take n1)) (lits .i64 (zs.drop n1)) := (Prod.mk.inj hx).1
      have hs := sized_slice hsz (j := 1) (t := 56) (e := 3) rfl (by rw [hd]; rfl) Try.underlying56
      have hz2 : zs.length = c1 := by simpa using hz
      rw [bytes3] at hs
      simp only [lits, List.length_map, List.length_take, List.length_drop, reachBytes] at hs
      exact ⟨zs.take n1, rdI_of_row hl hm hz2 hcell, by simp; omega, fun z h => hwz z (List.mem_of_mem_take h), by omega⟩
  clear hA0 hval0
  refine (walk a0 c0 n0 q0' a1 c1 n1 z1 W r0' l0 b0 r1' l1 b1 s1).mono fun e W' ⟨he, bel⟩ => ?_
  subst he
  exact ⟨_, rfl, _, _, _, [], _, [], hW', trodAll_mk1 (shut_bool Try.underlying4 _), (trodAll_cons_mk (Below.trod laidOut (by kernel_rfl) (of_decide_eq_true (by kernel_rfl)) k0 bel lt0) (trodAll_cons_mk (Below.trod laidOut (by kernel_rfl) (of_decide_eq_true (by kernel_rfl)) k1 bel lt1) trodAll_mk0)), rfl, bel.frame _, fun h => by cases h⟩

theorem over : Rows.linkWindowRow.holds Try.pinned (OpenSpec.ofChange Rows.linkWindowSpec) :=
  OpenClaim.holds_of_wide 8 Try.f8 rfl rfl rfl rfl rfl rfl rfl ⟨rfl, rfl, rfl, rfl, rfl⟩ rfl rfl rfl rfl rfl (by kernel_rfl) Try.func8 (by kernel_rfl)
    (of_decide_eq_true (by kernel_rfl)) (by unfold Func.isWrapper; first | (rw [if_pos (by decide +kernel)]; kernel_rfl) | (rw [if_neg (by decide +kernel)]; exact ⟨rfl, rfl⟩))
    (fun os started H enc _ => lifted os started H enc)

theorem proved : Rows.LinkWindowSaid := over
#print axioms proved
end Go.Proofs.Ytgdlejeopdipiaa.linkWindow
