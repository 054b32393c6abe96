/- There are never more bytes than there is room for, as long as the room stays, and what is dropped makes room: the law's function returns true. Conditions: none. -/
import Derived.Test.YtdajhdeheheccaaRows
import Derived.Test.YtdajhdeheheccaaSl
import Derived.Test.YtdajhdeheheccaaSd
import Derived.Test.YtdajhdeheheccaaAp
import Derived.Test.YtdajhdeheheccaaTd
import Derived.Test.YtdajhdeheheccaaT1
import Derived.Test.YtdajhdeheheccaaT2
import Derived.Test.YtdajhdeheheccaaT3
import Derived.Test.YtdajhdeheheccaaAc
import Derived.Test.YtdajhdeheheccaaPo
import Derived.Test.YtdajhdeheheccaaSt
import Derived.Test.YtdajhdeheheccaaSg
import Derived.Test.YtdajhdeheheccaaRo
import Derived.WalkKit
import Derived.ProofKit
import Derived.OpenShut
import Derived.ShutString
import Derived.ChangeOld
import Derived.SizedLaws
import Derived.Below
import Derived.Deep.QuietTactic
import Derived.BigQuiet
import Derived.Deep.RegionWith
import Derived.Deep.RegionHeld
import Derived.Deep.RegionHeldLaw
import Derived.RegionTactic
namespace Go.Proofs.Ytdajhdeheheccaa.tapeRoom
open Go.ChangeShapes Go.WideShapes Go.ChangeAt Go.RowKit
set_option linter.unusedVariables false

theorem own : ownKnob Try.prog.godebug = none := by kernel_rfl
theorem laidOut : laidOutB Try.prog = true := by kernel_rfl

set_option maxHeartbeats 400000 in
theorem great (room : Int) (a0 : Option Addr) (c0 n0 : Nat) (drop : Int) (w : World) (hm : 100 < n0) :
    Calls Try.prog 6 #[.int .i64 room, .slice a0 n0 c0, .int .i64 drop] w fun e w' => e = .returned (.bool true) ∧ Below w.heap.size w w' := by
  go_enter Try.func6, Try.ntmps6
  go_wp2_with (first
    | (go_at_call 8; refine (alive_any _).mono ?_; rintro e w1 ⟨rfl, hb1⟩))
  go_ret
  exact ⟨rfl, hb1⟩

theorem walk (room : Int) (a0 : Option Addr) (c0 n0 : Nat) (ps : List Pt) (drop : Int) (w : World) (hr : (Lit.int .i64 room).wf = true) (hA : RdS w a0 c0 (ps.map Pt.val)) (hn : ps.length = n0) (hP : ∀ p ∈ ps, Rd8 w p.ao p.n p.cap p.bs) (hd : (Lit.int .i64 drop).wf = true) :
    Calls Try.prog 6 #[.int .i64 room, .slice a0 n0 c0, .int .i64 drop] w fun e w' => e = .returned (.bool true) ∧ Below w.heap.size w w' := by
  by_cases hm : n0 ≤ 100
  · exact room_walk room a0 c0 n0 ps drop w hA hn hP hm (by simp [Lit.wf, IntKind.min, IntKind.max, IntKind.bits, IntKind.signed] at hr; omega)
  · exact great room a0 c0 n0 drop w (by omega)

set_option maxRecDepth 100000 in
theorem lifted (os : Os) (started : os.Started) (H : Type) (enc : TypeId × Value → H) :
    ReturnsInHanded {} Try.checked os 6 .any (Rows.tapeRoomSpec.pre6 enc Try.prog Try.f6 Rows.tapeRoomRow.domain false) (Rows.tapeRoomSpec.post enc Try.prog Try.f6 false true false false) := by
  refine returnsInHanded_of_change_sized (C := Try.checked) own started (by kernel_rfl) Try.func6
    (ChangeSpec.witness6 (enc := enc) (C := Try.checked) false ⟨#[], #[.int .i64 0, .slice none 0 0, .int .i64 0], []⟩ 8 (by kernel_rfl) (by kernel_rfl) (by kernel_rfl) (by kernel_rfl)) ?_
  intro W base args ds gs before hval0 hW hcnd hsz0 _
  have hval : ∀ (j : Nat) t v, Try.f6.params[j]? = some t → args[j]? = some v → Value.okWide Try.prog W .any base t v := hval0
  have hsz : (DataW.weightsEach Try.prog (Try.f6.params.toList ++ Rows.tapeRoomSpec.plain.varTypes Try.prog) (ds ++ gs)).all (· ≤ reachBytes) = true := hsz0
  have hW' := hW
  obtain ⟨p, q, hA0, hV, rfl, hfz, hnd⟩ := hW
  have hA : DataW.TrodAll enc Try.prog W 0 (fun _ => true) true Try.f6.params.toList args.toList ds p := hA0
  rw [Try.params6] at hA hval hsz
  obtain ⟨v0, vs0, d0, ds0, p0, q0, hargs, rfl, rfl, h0, r0⟩ := trodAll_cons hA
  obtain ⟨v1, vs1, d1, ds1, p1, q1, rfl, rfl, rfl, h1, r1⟩ := trodAll_cons r0
  obtain ⟨v2, vs2, d2, ds2, p2, q2, rfl, rfl, rfl, h2, r2⟩ := trodAll_cons r1
  obtain ⟨rfl, rfl, rfl⟩ := trodAll_nil r2
  obtain rfl : args = #[v0, v1, v2] := by cases args; simp_all
  obtain ⟨rfl, rfl⟩ := trodVars_none hV
  obtain ⟨a0, rfl, rfl, rfl, w0⟩ := open_int Try.underlying3 (hval 0 3 v0 rfl rfl) h0
  obtain ⟨a1, n1, c1, rfl⟩ := okWide_slice Try.underlying47 (hval 1 47 v1 rfl rfl)
  have k1 := h1
  have lt1 : ∀ x ∈ p1, x.block < W.heap.size := by obtain ⟨m, hm⟩ := k1; exact DataW.trod_lt m _ _ _ hm
  obtain ⟨q1', r1', l1, b1⟩ : ∃ ps : List Pt, RdS W a1 c1 (ps.map Pt.val) ∧ ps.length = n1 ∧ ∀ p ∈ ps, Rd8 W p.ao p.n p.cap p.bs := by
    obtain ⟨fuel, hf⟩ := h1
    obtain ⟨a, l, c, ps, hcs, h1, h2, h3⟩ := parts_of hf
    simp [Value.cells] at hcs
    obtain ⟨rfl, rfl, rfl⟩ := hcs
    exact ⟨ps, h1, h2, h3⟩
  obtain ⟨a2, rfl, rfl, rfl, w2⟩ := open_int Try.underlying3 (hval 2 3 v2 rfl rfl) h2
  clear hA0 hval0
  refine (walk a0 a1 c1 n1 q1' a2 W w0 r1' l1 b1 w2).mono fun e W' ⟨he, bel⟩ => ?_
  subst he
  exact ⟨_, rfl, _, _, _, [], _, [], hW', trodAll_mk1 (shut_bool Try.underlying4 _), (trodAll_cons_mk (shut_int Try.underlying3 w0) (trodAll_cons_mk (Below.trod laidOut (by kernel_rfl) (of_decide_eq_true (by kernel_rfl)) k1 bel lt1) (trodAll_cons_mk (shut_int Try.underlying3 w2) trodAll_mk0))), rfl, bel.frame _, fun h => by cases h⟩

theorem over : Rows.tapeRoomRow.holds Try.pinned (OpenSpec.ofChange Rows.tapeRoomSpec) :=
  OpenClaim.holds_of_wide 6 Try.f6 rfl rfl rfl rfl rfl rfl rfl ⟨rfl, rfl, rfl, rfl, rfl⟩ rfl rfl rfl rfl rfl (by kernel_rfl) Try.func6 (by kernel_rfl)
    (of_decide_eq_true (by kernel_rfl)) (by unfold Func.isWrapper; first | (rw [if_pos (by decide +kernel)]; kernel_rfl) | (rw [if_neg (by decide +kernel)]; exact ⟨rfl, rfl⟩))
    (fun os started H enc _ => lifted os started H enc)

theorem proved : Rows.TapeRoomSaid := over
#print axioms proved
end Go.Proofs.Ytdajhdeheheccaa.tapeRoom
