/- What is dropped in two parts is dropped at once, and what is cut off behind and dropped ahead leaves the middle: the law's function returns true. Conditions: none. -/
import Derived.Test.YtdajhdeheheccaaRows
import Derived.Test.YtdajhdeheheccaaSl
import Derived.Test.YtdajhdeheheccaaSd
import Derived.Test.YtdajhdeheheccaaAp
import Derived.Test.YtdajhdeheheccaaTd
import Derived.Test.YtdajhdeheheccaaT1
import Derived.Test.YtdajhdeheheccaaT2
import Derived.Test.YtdajhdeheheccaaT3
import Derived.Test.YtdajhdeheheccaaTr
import Derived.Test.YtdajhdeheheccaaAc
import Derived.Test.YtdajhdeheheccaaI2
import Derived.Test.YtdajhdeheheccaaSt
import Derived.Test.YtdajhdeheheccaaSg
import Derived.Test.YtdajhdeheheccaaDr
import Derived.WalkKit
import Derived.ProofKit
import Derived.OpenShut
import Derived.ShutString
import Derived.ChangeOld
import Derived.SizedLaws
import Derived.Below
import Derived.Deep.QuietTactic
import Derived.BigQuiet
import Derived.Deep.RegionWith
import Derived.Deep.RegionHeld
import Derived.Deep.RegionHeldLaw
import Derived.RegionTactic
namespace Go.Proofs.Ytdajhdeheheccaa.tapeDrops
open Go.ChangeShapes Go.WideShapes Go.ChangeAt Go.RowKit
set_option linter.unusedVariables false

theorem own : ownKnob Try.prog.godebug = none := by kernel_rfl
theorem laidOut : laidOutB Try.prog = true := by kernel_rfl
theorem bytes5 : Try.prog.bytesOf 5 = 1 := by kernel_rfl

set_option maxHeartbeats 1600000 in
theorem out_walk (a0 : Option Addr) (c0 n0 : Nat) (x y e : Int) (w : World) (hs : n0 ≤ 140737488351232) (hx : -9223372036854775808 ≤ x ∧ x ≤ 9223372036854775807) (h : 5000 < n0 ∨ x < 0 ∨ y < 0 ∨ (n0 : Int) < x ∨ (n0 : Int) - x < y ∨ e < x ∨ (n0 : Int) < e) :
    Calls Try.prog 7 #[.slice a0 n0 c0, .agg #[.int .i64 x, .int .i64 y], .int .i64 e] w fun e w' => e = .returned (.bool true) ∧ Below w.heap.size w w' := by
  have HK : Hid (∀ W' : World, Below (w.heap.size + 1) (w.alloc (kbox x y)) W' → W'.cell? ⟨w.heap.size, 0, none⟩ = some (.int .i64 x) ∧ W'.cell? ⟨w.heap.size, 1, none⟩ = some (.int .i64 y)) := by
    intro W' hb
    have h := (hb.block w.heap.size (by omega)).trans (heap_alloc_new w (kbox x y))
    exact ⟨by rw [cell_of_row _ _ _ _ _ _ h]; rfl, by rw [cell_of_row _ _ _ _ _ _ h]; rfl⟩
  by_cases h0 : 5000 < n0
  · clear h
    go_enter Try.func7, Try.ntmps7
    go_wp2_with (go_at_call 8; refine (alive_any _).mono ?_; rintro e w1 ⟨rfl, hb1⟩; have hb1 : Below (w.heap.size + 1) (w.alloc (kbox x y)) w1 := hb1.mono (by simp); obtain ⟨q0, q1⟩ := HK.out _ hb1)
    all_goals go_ret
    all_goals exact ⟨rfl, below_alloc (hb1.mono (by omega))⟩
  · skip
    by_cases h1 : x < 0
    · clear h
      go_enter Try.func7, Try.ntmps7
      go_wp2_with (go_at_call 8; refine (alive_any _).mono ?_; rintro e w1 ⟨rfl, hb1⟩; have hb1 : Below (w.heap.size + 1) (w.alloc (kbox x y)) w1 := hb1.mono (by simp); obtain ⟨q0, q1⟩ := HK.out _ hb1)
      all_goals go_ret
      all_goals exact ⟨rfl, below_alloc (hb1.mono (by omega))⟩
    · skip
      by_cases h2 : y < 0
      · clear h
        go_enter Try.func7, Try.ntmps7
        go_wp2_with (go_at_call 8; refine (alive_any _).mono ?_; rintro e w1 ⟨rfl, hb1⟩; have hb1 : Below (w.heap.size + 1) (w.alloc (kbox x y)) w1 := hb1.mono (by simp); obtain ⟨q0, q1⟩ := HK.out _ hb1)
        all_goals go_ret
        all_goals exact ⟨rfl, below_alloc (hb1.mono (by omega))⟩
      · skip
        by_cases h3 : (n0 : Int) < x
        · clear h
          go_enter Try.func7, Try.ntmps7
          go_wp2_with (go_at_call 8; refine (alive_any _).mono ?_; rintro e w1 ⟨rfl, hb1⟩; have hb1 : Below (w.heap.size + 1) (w.alloc (kbox x y)) w1 := hb1.mono (by simp); obtain ⟨q0, q1⟩ := HK.out _ hb1)
          all_goals go_ret
          all_goals exact ⟨rfl, below_alloc (hb1.mono (by omega))⟩
        · have hw : IntKind.i64.wrap ((n0 : Int) - x) = (n0 : Int) - x := by rw [IntKind.wrap_i64]; omega
          by_cases h4 : (n0 : Int) - x < y
          · clear h
            go_enter Try.func7, Try.ntmps7
            go_wp2_with (go_at_call 8; refine (alive_any _).mono ?_; rintro e w1 ⟨rfl, hb1⟩; have hb1 : Below (w.heap.size + 1) (w.alloc (kbox x y)) w1 := hb1.mono (by simp); obtain ⟨q0, q1⟩ := HK.out _ hb1)
            all_goals go_ret
            all_goals exact ⟨rfl, below_alloc (hb1.mono (by omega))⟩
          · skip
            by_cases h5 : e < x
            · clear h
              go_enter Try.func7, Try.ntmps7
              go_wp2_with (go_at_call 8; refine (alive_any _).mono ?_; rintro e w1 ⟨rfl, hb1⟩; have hb1 : Below (w.heap.size + 1) (w.alloc (kbox x y)) w1 := hb1.mono (by simp); obtain ⟨q0, q1⟩ := HK.out _ hb1)
              all_goals go_ret
              all_goals exact ⟨rfl, below_alloc (hb1.mono (by omega))⟩
            · skip
              by_cases h6 : (n0 : Int) < e
              · clear h
                go_enter Try.func7, Try.ntmps7
                go_wp2_with (go_at_call 8; refine (alive_any _).mono ?_; rintro e w1 ⟨rfl, hb1⟩; have hb1 : Below (w.heap.size + 1) (w.alloc (kbox x y)) w1 := hb1.mono (by simp); obtain ⟨q0, q1⟩ := HK.out _ hb1)
                all_goals go_ret
                all_goals exact ⟨rfl, below_alloc (hb1.mono (by omega))⟩
              · omega

theorem walk (a0 : Option Addr) (c0 n0 : Nat) (zs : List Int) (x y e : Int) (w : World) (r : RdI w .u8 a0 c0 zs) (l : zs.length = n0) (b : ∀ z ∈ zs, (Lit.int .u8 z).wf = true) (s : n0 * 1 ≤ 140737488351232) (wx : (Lit.int .i64 x).wf = true) (wy : (Lit.int .i64 y).wf = true) (we : (Lit.int .i64 e).wf = true) :
    Calls Try.prog 7 #[.slice a0 n0 c0, .agg #[.int .i64 x, .int .i64 y], .int .i64 e] w fun e w' => e = .returned (.bool true) ∧ Below w.heap.size w w' := by
  by_cases h : 5000 < n0 ∨ x < 0 ∨ y < 0 ∨ (n0 : Int) < x ∨ (n0 : Int) - x < y ∨ e < x ∨ (n0 : Int) < e
  · exact out_walk a0 c0 n0 x y e w (by omega) (by simp [Lit.wf, IntKind.min, IntKind.max, IntKind.bits, IntKind.signed] at wx; omega) h
  · obtain ⟨bs, hbs⟩ := rd8_of r l b
    obtain ⟨X, rfl⟩ : ∃ X : Nat, x = X := ⟨x.toNat, by omega⟩
    obtain ⟨Y, rfl⟩ : ∃ Y : Nat, y = Y := ⟨y.toNat, by omega⟩
    obtain ⟨E, rfl⟩ : ∃ E : Nat, e = E := ⟨e.toNat, by omega⟩
    exact drops_walk a0 c0 n0 bs X Y E w hbs (by omega) (by omega) (by omega) (by omega) (by omega)

set_option maxRecDepth 100000 in
theorem lifted (os : Os) (started : os.Started) (H : Type) (enc : TypeId × Value → H) :
    ReturnsInHanded {} Try.checked os 7 .any (Rows.tapeDropsSpec.pre6 enc Try.prog Try.f7 Rows.tapeDropsRow.domain false) (Rows.tapeDropsSpec.post enc Try.prog Try.f7 false true false false) := by
  refine returnsInHanded_of_change_sized (C := Try.checked) own started (by kernel_rfl) Try.func7
    (ChangeSpec.witness6 (enc := enc) (C := Try.checked) false ⟨#[], #[.slice none 0 0, .agg #[.int .i64 0, .int .i64 0], .int .i64 0], []⟩ 8 (by kernel_rfl) (by kernel_rfl) (by kernel_rfl) (by kernel_rfl)) ?_
  intro W base args ds gs before hval0 hW hcnd hsz0 _
  have hval : ∀ (j : Nat) t v, Try.f7.params[j]? = some t → args[j]? = some v → Value.okWide Try.prog W .any base t v := hval0
  have hsz : (DataW.weightsEach Try.prog (Try.f7.params.toList ++ Rows.tapeDropsSpec.plain.varTypes Try.prog) (ds ++ gs)).all (· ≤ reachBytes) = true := hsz0
  have hW' := hW
  obtain ⟨p, q, hA0, hV, rfl, hfz, hnd⟩ := hW
  have hA : DataW.TrodAll enc Try.prog W 0 (fun _ => true) true Try.f7.params.toList args.toList ds p := hA0
  rw [Try.params7] at hA hval hsz
  obtain ⟨v0, vs0, d0, ds0, p0, q0, hargs, rfl, rfl, h0, r0⟩ := trodAll_cons hA
  obtain ⟨v1, vs1, d1, ds1, p1, q1, rfl, rfl, rfl, h1, r1⟩ := trodAll_cons r0
  obtain ⟨v2, vs2, d2, ds2, p2, q2, rfl, rfl, rfl, h2, r2⟩ := trodAll_cons r1
  obtain ⟨rfl, rfl, rfl⟩ := trodAll_nil r2
  obtain rfl : args = #[v0, v1, v2] := by cases args; simp_all
  obtain ⟨rfl, rfl⟩ := trodVars_none hV
  obtain ⟨a0, n0, c0, rfl⟩ := okWide_slice Try.underlying27 (hval 0 27 v0 rfl rfl)
  have k0 := h0
  have lt0 : ∀ x ∈ p0, x.block < W.heap.size := by obtain ⟨m, hm⟩ := k0; exact DataW.trod_lt m _ _ _ hm
  obtain ⟨z0, r0', l0, b0, s0⟩ : ∃ zs, RdI W .u8 a0 c0 zs ∧ zs.length = n0 ∧ (∀ z ∈ zs, (Lit.int .u8 z).wf = true) ∧ n0 * 1 ≤ 140737488351232 := by
    obtain ⟨fuel, hf⟩ := h0
    rcases open_ints Try.underlying27 Try.underlying5 (by kernel_rfl) hf with ⟨hcs, _⟩ | ⟨x, l, c, zs, hcs, _, hl, hm, hz, hx, hcell, hwz⟩
    · simp [Value.cells] at hcs
      obtain ⟨rfl, rfl, rfl⟩ := hcs
      exact ⟨[], RdI.empty W .u8, rfl, by simp, by omega⟩
    · simp [Value.cells] at hcs
      obtain ⟨rfl, rfl, rfl⟩ := hcs
      have hd : d0 = .slice (lits .u8 (zs.take n0)) (lits .u8 (zs.drop n0)) := (Prod.mk.inj hx).1
      have hs := sized_slice hsz (j := 0) (t := 27) (e := 5) rfl (by rw [hd]; rfl) Try.underlying27
      have hz2 : zs.length = c0 := by simpa using hz
      rw [bytes5] at hs
      simp only [lits, List.length_map, List.length_take, List.length_drop, reachBytes] at hs
      exact ⟨zs.take n0, rdI_of_row hl hm hz2 hcell, by simp; omega, fun z h => hwz z (List.mem_of_mem_take h), by omega⟩
  have k1 := h1
  have lt1 : ∀ x ∈ p1, x.block < W.heap.size := by obtain ⟨m, hm⟩ := k1; exact DataW.trod_lt m _ _ _ hm
  obtain ⟨x1, y1, rfl, wx1, wy1⟩ := open_two (hval 1 45 v1 rfl rfl) h1
  obtain ⟨a2, rfl, rfl, rfl, w2⟩ := open_int Try.underlying3 (hval 2 3 v2 rfl rfl) h2
  clear hA0 hval0
  refine (walk a0 c0 n0 z0 x1 y1 a2 W r0' l0 b0 s0 wx1 wy1 w2).mono fun e W' ⟨he, bel⟩ => ?_
  subst he
  exact ⟨_, rfl, _, _, _, [], _, [], hW', trodAll_mk1 (shut_bool Try.underlying4 _), (trodAll_cons_mk (Below.trod laidOut (by kernel_rfl) (of_decide_eq_true (by kernel_rfl)) k0 bel lt0) (trodAll_cons_mk (Below.trod laidOut (by kernel_rfl) (of_decide_eq_true (by kernel_rfl)) k1 bel lt1) (trodAll_cons_mk (shut_int Try.underlying3 w2) trodAll_mk0))), rfl, bel.frame _, fun h => by cases h⟩

theorem over : Rows.tapeDropsRow.holds Try.pinned (OpenSpec.ofChange Rows.tapeDropsSpec) :=
  OpenClaim.holds_of_wide 7 Try.f7 rfl rfl rfl rfl rfl rfl rfl ⟨rfl, rfl, rfl, rfl, rfl⟩ rfl rfl rfl rfl rfl (by kernel_rfl) Try.func7 (by kernel_rfl)
    (of_decide_eq_true (by kernel_rfl)) (by unfold Func.isWrapper; first | (rw [if_pos (by decide +kernel)]; kernel_rfl) | (rw [if_neg (by decide +kernel)]; exact ⟨rfl, rfl⟩))
    (fun os started H enc _ => lifted os started H enc)

theorem proved : Rows.TapeDropsSaid := over
#print axioms proved
end Go.Proofs.Ytdajhdeheheccaa.tapeDrops
