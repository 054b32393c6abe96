/- Proved: WaitsMore, that is: with more edges no fewer can be come to; whoever can be come to from one that can be come to can be, too. Conditions: the two tables of package math/bits hold what the program's text lays (tied by the card). -/
import Derived.Test.YteofipheoipeoaaDoorRows
import Derived.Test.YteofipheoipeoaaDoorCards
import Derived.Test.YteofipheoipeoaaDoorTie
import Derived.Test.YteofipheoipeoaaDoorW6
import Derived.Test.YteofipheoipeoaaDoorOe
import Derived.WalkKit
import Derived.ProofKit
import Derived.OpenShut
import Derived.ShutString
import Derived.ChangeOld
import Derived.SizedLaws
import Derived.Below
import Derived.Deep.QuietTactic
import Derived.BigQuiet
import Derived.Deep.RegionWith
import Derived.Deep.RegionHeld
import Derived.Deep.RegionHeldLaw
import Derived.RegionTactic
import Derived.Deep.DeepHandedRow
import Derived.Lib.LaidTab
namespace Go.Proofs.YteofipheoipeoaaDoor.waitsMore
open Go.ChangeShapes Go.WideShapes Go.ChangeAt Go.RowKit
set_option linter.unusedVariables false


set_option maxHeartbeats 1600000 in
theorem walk (a0 : Option Addr) (c0 n0 : Nat) (q0 : List (Int × Int)) (a1 : Option Addr) (c1 n1 : Nat) (q1 : List (Int × Int)) (a2 : Int) (w : World) (r0 : RdE w a0 c0 q0) (l0 : q0.length = n0) (r1 : RdE w a1 c1 q1) (l1 : q1.length = n1) (wf2 : (Lit.int .i64 a2).wf = true) (H : Tz w) : Calls Tryd.prog 6 #[.slice a0 n0 c0, .slice a1 n1 c1, .int .i64 a2] w fun e w' => e = .returned (.bool true) ∧ Below w.heap.size w w' := by
  have hal := alive_any w H
  by_cases hbig : 100 < n0
  · go_enter Tryd.func6, Tryd.ntmps6
    go_wp2_with (go_at_call 10; refine hal.mono ?_; rintro e w1 ⟨rfl, hb1⟩)
    go_ret
    exact ⟨rfl, hb1⟩
  by_cases hbig1 : 100 < n1
  · go_enter Tryd.func6, Tryd.ntmps6
    go_wp2_with (go_at_call 10; refine hal.mono ?_; rintro e w1 ⟨rfl, hb1⟩)
    go_ret
    exact ⟨rfl, hb1⟩
  have HL0 : Hid (q0.length = n0) := l0
  have HL1 : Hid (q1.length = n1) := l1
  clear l0 l1
  go_enter Tryd.func6, Tryd.ntmps6
  go_wp2_with (first
    | (go_at_call 10; refine hal.mono ?_; rintro e w1 ⟨rfl, hb1⟩; have hs1 := hb1.size; have hO1 := OwnE.fresh w1 w.heap.size hs1; have hB1 : Below w.heap.size w (w1.alloc (.cells #[] 29)) := hb1.alloc hb1.size _; have r01 := r0.below hB1)
    | (at_builtin; refine wpList_append_rdE _ rfl _ _ rfl w.heap.size rfl rfl hO1 r01 rfl HL0.out (by omega) (by simp; omega) ?_; intro ao2 cap2 w2 ho2 hb2; have hB2 := hB1.trans hb2; have r12 := r1.below hB2; have hs2 := hB2.size; have HL2 : Hid (([] ++ q0).length = n0) := zero_len HL0.out)
    | (at_builtin; refine wpList_append_rdE _ rfl _ _ rfl w.heap.size rfl rfl ho2 r12 HL2.out HL1.out (by omega) (by omega) ?_; intro ao3 cap3 w3 ho3 hb3; have hB3 := hB2.trans hb3; simp only [List.nil_append] at ho3; have hT3 := H.on hB3; have hs3 := hB3.size))
  have hLA : (q0 ++ q1).length = n0 + n1 := by have := HL0.out; have := HL1.out; simp; omega
  have HLA : Hid ((q0 ++ q1).length = n0 + n1) := hLA
  clear hLA
  have hG3 : B4 (w3.alloc (.cells #[.bool false, .bool false, .bool false, .bool false] 35)) w3.heap.size (fun _ => false) := ⟨heap_alloc_new w3 _⟩
  have hB3' : Below w3.heap.size w3 (w3.alloc (.cells #[.bool false, .bool false, .bool false, .bool false] 35)) := by go_grown
  have hsz3 : (w3.alloc (.cells #[.bool false, .bool false, .bool false, .bool false] 35)).heap.size = w3.heap.size + 1 := by simp
  have hT3' := hT3.on hB3'
  have hR3' := ho3.rd.below hB3'
  have hre := reach_any _ ao3 (n0 + n1) cap3 (q0 ++ q1) hR3' HLA.out hT3' a2
  rw [hsz3] at hre
  clear hsz3
  obtain ⟨X, hX⟩ : ∃ X, rlI (q0 ++ q1) a2 = X := ⟨_, rfl⟩
  rw [hX] at hre
  have HX : Hid (rlI (q0 ++ q1) a2 = X) := hX
  clear hX
  generalize w3.alloc (.cells #[.bool false, .bool false, .bool false, .bool false] 35) = w3' at *
  refine hre.mono ?_
  rintro e w4 ⟨ao4, n4, cap4, rfl, ho4, hn4, hb4⟩
  have HN4 : Hid (X.length = n4) := hn4
  have hl4 : n4 ≤ 4 := by have := rlI_len (q0 ++ q1) a2; rw [HX.out, hn4] at this; exact this
  clear hn4
  have hG4 : B4 w4 w3.heap.size (fun _ => false) := hG3.keep (hb4.block _ (Nat.lt_succ_self _))
  have hB4 : Below w3.heap.size w3 w4 := hB3'.trans (hb4.mono (Nat.le_succ _))
  go_wp2
  go_loopw [35] (fun i wr => ∃ (s : Nat) (F : Nat → Bool), i = .int .i64 s ∧ s ≤ n4 ∧ B4 wr w3.heap.size F ∧ Hid (∀ j : Nat, (j : Int) ∈ X.take s → F j = true) ∧ OwnI wr (w3.heap.size + 1) 3 .i64 ao4 cap4 X ∧ Below w3.heap.size w3 wr) (fun i _ => n4 - (intOf i).toNat)
  case atStart => exact ⟨0, _, rfl, by omega, hG4, fun j hj => by simp at hj, ho4, hB4⟩
  case round =>
    obtain ⟨s, F, rfl, hs, hG, HF, hO, hbel⟩ := hrel
    rename World => wr
    by_cases hls : s < n4
    · have hsl : s < X.length := by have := HN4.out; omega
      obtain ⟨b, off, rfl, hbl, hcs⟩ := hO.rd.at hsl
      have k0 := hcs s hsl
      clear hcs
      have hx : X[s] ∈ rlI (q0 ++ q1) a2 := by rw [HX.out]; exact List.getElem_mem hsl
      have he : X[s]? = some X[s] := List.getElem?_eq_getElem hsl
      obtain ⟨j, hj, hxj⟩ := rlI_nat hx
      rw [hxj] at k0 he
      have HE : Hid (X[s]? = some (j : Int)) := he
      clear hx he hxj
      have f0 := hG.fz j
      have g0 := hG.cell j hj
      have hlt3 := hG.lt
      have e6 : decide ((s : Int) < (n4 : Int)) = true := by simp; omega
      go_wp2
      go_roundw
      case rel =>
        refine ⟨s + 1, putB F j true, by go_num, by omega, hG.put j true hj, fun i hi => ?_, OwnI.beside hO _ (Nat.lt_succ_self _), below_set hbel (Nat.le_refl _) _⟩
        rw [take_get HE.out, List.mem_append] at hi
        unfold putB
        rcases hi with hi | hi
        · split
          · rfl
          · exact HF.out i hi
        · rw [if_pos (by simp at hi; omega)]
      case measure => simp [intOf]; omega
    · obtain rfl : s = n4 := by omega
      have e6 : decide ((s : Int) < (s : Int)) = false := by simp
      have HF2 : Hid (∀ j : Nat, (j : Int) ∈ rlI (q0 ++ q1) a2 → F j = true) := fun j hj => HF.out j (by rw [HX.out] at hj; rw [List.take_of_length_le (by have := HN4.out; omega)]; exact hj)
      obtain ⟨wA, hwA⟩ : ∃ x, x = wr := ⟨_, rfl⟩
      subst hwA
      have hBA := hB3.trans (hbel.mono hs3)
      have hRA := r0.below hBA
      have hTA := H.on hBA
      have hre2 := reach_any wA a0 n0 c0 q0 hRA HL0.out hTA a2
      obtain ⟨Y, hY⟩ : ∃ Y, rlI q0 a2 = Y := ⟨_, rfl⟩
      rw [hY] at hre2
      have HY : Hid (rlI q0 a2 = Y) := hY
      have hl5 := rlI_len q0 a2
      rw [hY] at hl5
      clear hY
      go_wp2_with (go_at_call 11; (with_reducible refine hre2.mono ?_); rintro e w5 ⟨ao5, n5, cap5, rfl, ho5, hn5, hb5⟩; have HN5 : Hid (Y.length = n5) := hn5; rw [hn5] at hl5; clear hn5; have hr5 := ho5.rd; have hG5 := hG.below hb5)
      go_loopw [46] (fun i wr => ∃ s : Nat, i = .int .i64 s ∧ s ≤ n5 ∧ Below w5.heap.size w5 wr) (fun i _ => n5 - (intOf i).toNat)
      case atStart => exact ⟨0, rfl, by omega, Below.refl _ _⟩
      case round =>
        obtain ⟨s5, rfl, hs5, hb6⟩ := hrel
        rename World => wi
        obtain ⟨wB, hwB⟩ : ∃ x, x = wi := ⟨_, rfl⟩
        subst hwB
        by_cases hls5 : s5 < n5
        · have hsl : s5 < Y.length := by have := HN5.out; omega
          obtain ⟨b, off, rfl, hbl, hcs⟩ := (hr5.below hb6).at hsl
          have k0 := hcs s5 hsl
          clear hcs
          have hx : Y[s5] ∈ rlI q0 a2 := by rw [HY.out]; exact List.getElem_mem hsl
          obtain ⟨j, hj, hxj⟩ := rlI_nat hx
          rw [hxj] at k0 hx
          have HM : Hid ((j : Int) ∈ rlI q0 a2) := hx
          clear hx hxj
          have g0 := (hG5.below hb6).cell j hj
          rw [HF2.out j (more_one HM.out)] at g0
          have hB6 := below_step (below_step hBA hb5) hb6
          have hre3 := reach_any wB a0 n0 c0 q0 (r0.below hB6) HL0.out (H.on hB6) (j : Int)
          obtain ⟨Z, hZ⟩ : ∃ Z, rlI q0 (j : Int) = Z := ⟨_, rfl⟩
          rw [hZ] at hre3
          have HZ : Hid (rlI q0 (j : Int) = Z) := hZ
          have hl7 := rlI_len q0 (j : Int)
          rw [hZ] at hl7
          clear hZ
          have e7 : decide ((s5 : Int) < (n5 : Int)) = true := by simp; omega
          go_wp2_with (go_at_call 11; (with_reducible refine hre3.mono ?_); rintro e w7 ⟨ao7, n7, cap7, rfl, ho7, hn7, hb7⟩; have HN7 : Hid (Z.length = n7) := hn7; rw [hn7] at hl7; clear hn7; have hr7 := ho7.rd)
          go_loopw [58] (fun i wr => ∃ s : Nat, i = .int .i64 s ∧ s ≤ n7 ∧ Below w7.heap.size w7 wr) (fun i _ => n7 - (intOf i).toNat)
          case atStart => exact ⟨0, rfl, by omega, Below.refl _ _⟩
          case round =>
            obtain ⟨s7, rfl, hs7, hb8⟩ := hrel
            rename World => wj
            by_cases hls7 : s7 < n7
            · have hsl : s7 < Z.length := by have := HN7.out; omega
              obtain ⟨b, off, rfl, hbl, hcs⟩ := (hr7.below hb8).at hsl
              have k1 := hcs s7 hsl
              clear hcs
              have hx : Z[s7] ∈ rlI q0 (j : Int) := by rw [HZ.out]; exact List.getElem_mem hsl
              obtain ⟨i, hi, hxi⟩ := rlI_nat hx
              rw [hxi] at k1 hx
              have hfar := more_far (F := q1) HM.out hx
              have g1 := (((hG5.below hb6).below hb7).below hb8).cell i hi
              rw [HF2.out i hfar] at g1
              clear hx hxi hfar
              have e8 : decide ((s7 : Int) < (n7 : Int)) = true := by simp; omega
              go_wp2
              go_roundw
              case rel => exact ⟨s7 + 1, by go_num, by omega, hb8⟩
              case measure => simp [intOf]; omega
            · obtain rfl : s7 = n7 := by omega
              have e8 : decide ((s7 : Int) < (s7 : Int)) = false := by simp
              go_wp2
              go_roundw
              case rel => exact ⟨s5 + 1, by go_num, by omega, below_step (below_step hb6 hb7) hb8⟩
              case measure => simp [intOf]; omega
        · obtain rfl : s5 = n5 := by omega
          have e7 : decide ((s5 : Int) < (s5 : Int)) = false := by simp
          go_wp2
          go_ret
          exact ⟨rfl, below_step (below_step hBA hb5) hb6⟩

theorem reads (os : Os) {H : Type} (enc : TypeId × Value → H) : ∃ places, DataW.whole enc Tryd.prog ((laidWorld os).forCall (fun _ _ => 0) ⟨#[], #[.slice none 0 0, .slice none 0 0, .int .i64 0], []⟩).memory Tryd.f6.params.toList Rows.waitsMoreSpec.vars false (#[.slice none 0 0, .slice none 0 0, .int .i64 0] : Array Value).toList 8 = some ([.nil, .nil, .lit (.int .i64 0)], [], places) :=
  ⟨[], by kernel_rfl⟩

set_option maxRecDepth 100000 in
theorem lifted (os : Os) (started : os.Started) (H : Type) (enc : TypeId × Value → H) (F : Stop.Interp) :
    ReturnsInHanded {} Tryd.checked os 6 .any ((OpenSpec.ofChange Rows.waitsMoreSpec).preRow enc Tryd.prog Tryd.f6 Rows.waitsMoreRow.domain false Rows.waitsMoreRow.laid) (((OpenSpec.ofChange Rows.waitsMoreSpec).at F).post enc Tryd.prog Tryd.f6 false true false false) := by
  obtain ⟨places, hx⟩ := reads os enc
  refine returnsInHanded_of_row (C := Tryd.checked) (s := OpenSpec.ofChange Rows.waitsMoreSpec) own started (by kernel_rfl) Tryd.func6
    (witness_row_at (enc := enc) (C := Tryd.checked) false (laidWorld os) #[.slice none 0 0, .slice none 0 0, .int .i64 0] rfl (by kernel_rfl) (by kernel_rfl) (by kernel_rfl)
      (OpenSpec.preRow_of_cond 8 hx (by kernel_rfl) (fun k hk => by cases hk) (by kernel_rfl) (laid_met os _))) ?_
  intro W base args ds gs before hval0 hW _ _ hsz0 hL _ _
  have HT : Tz W := tz_of_laid hL
  have hval : ∀ (j : Nat) t v, Tryd.f6.params[j]? = some t → args[j]? = some v → Value.okWide Tryd.prog W .any base t v := hval0
  have hsz : (DataW.weightsEach Tryd.prog (Tryd.f6.params.toList ++ Rows.waitsMoreSpec.plain.varTypes Tryd.prog) (ds ++ gs)).all (· ≤ reachBytes) = true := hsz0
  have hW' := hW
  obtain ⟨p, q, hA0, hV, rfl, hfz, hnd⟩ := hW
  have hA : DataW.TrodAll enc Tryd.prog W 0 (fun _ => true) true Tryd.f6.params.toList args.toList ds p := hA0
  rw [Tryd.params6] at hA hval hsz
  obtain ⟨v0, vs0, d0, ds0, p0, q0, hargs, rfl, rfl, h0, r0⟩ := trodAll_cons hA
  obtain ⟨v1, vs1, d1, ds1, p1, q1, rfl, rfl, rfl, h1, r1⟩ := trodAll_cons r0
  obtain ⟨v2, vs2, d2, ds2, p2, q2, rfl, rfl, rfl, h2, r2⟩ := trodAll_cons r1
  obtain ⟨rfl, rfl, rfl⟩ := trodAll_nil r2
  obtain rfl : args = #[v0, v1, v2] := by cases args; simp_all
  obtain ⟨rfl, rfl⟩ := trodVars_none hV
  obtain ⟨a0, n0, c0, rfl⟩ := okWide_slice Tryd.underlying30 (hval 0 30 v0 rfl rfl)
  have k0 := h0
  have lt0 : ∀ x ∈ p0, x.block < W.heap.size := by obtain ⟨m, hm⟩ := k0; exact DataW.trod_lt m _ _ _ hm
  obtain ⟨q0', r0', l0⟩ : ∃ A : List (Int × Int), RdE W a0 c0 A ∧ A.length = n0 := by
    obtain ⟨fuel, hf⟩ := h0
    obtain ⟨a, l, c, A, hcs, h1, h2⟩ := edges_of hf
    simp [Value.cells] at hcs
    obtain ⟨rfl, rfl, rfl⟩ := hcs
    exact ⟨A, h1, h2⟩
  obtain ⟨a1, n1, c1, rfl⟩ := okWide_slice Tryd.underlying30 (hval 1 30 v1 rfl rfl)
  have k1 := h1
  have lt1 : ∀ x ∈ p1, x.block < W.heap.size := by obtain ⟨m, hm⟩ := k1; exact DataW.trod_lt m _ _ _ hm
  obtain ⟨q1', r1', l1⟩ : ∃ A : List (Int × Int), RdE W a1 c1 A ∧ A.length = n1 := by
    obtain ⟨fuel, hf⟩ := h1
    obtain ⟨a, l, c, A, hcs, h1, h2⟩ := edges_of hf
    simp [Value.cells] at hcs
    obtain ⟨rfl, rfl, rfl⟩ := hcs
    exact ⟨A, h1, h2⟩
  obtain ⟨a2, rfl, rfl, rfl, w2⟩ := open_int Tryd.underlying3 (hval 2 3 v2 rfl rfl) h2
  clear hA0 hval0 hsz0
  refine (walk a0 c0 n0 q0' a1 c1 n1 q1' a2 W r0' l0 r1' l1 w2 HT).mono fun e W' ⟨he, bel⟩ => ?_
  subst he
  exact ⟨_, rfl, _, _, _, [], _, [], hW', trodAll_mk1 (shut_bool Tryd.underlying4 _), (trodAll_cons_mk (Below.trod laidOut (by kernel_rfl) (of_decide_eq_true (by kernel_rfl)) k0 bel lt0) (trodAll_cons_mk (Below.trod laidOut (by kernel_rfl) (of_decide_eq_true (by kernel_rfl)) k1 bel lt1) (trodAll_cons_mk (shut_int Tryd.underlying3 w2) trodAll_mk0))), rfl, bel.frame _, fun h => by cases h⟩

theorem said : Rows.WaitsMoreSaid :=
  OpenClaim.holds_of_cond 6 Tryd.f6 rfl rfl rfl rfl rfl rfl rfl ⟨rfl, rfl, rfl, rfl, rfl⟩ rfl rfl rfl rfl rfl (by kernel_rfl) Tryd.func6 (by kernel_rfl)
    (of_decide_eq_true (by kernel_rfl)) (by unfold Func.isWrapper; first | (rw [if_pos (by decide +kernel)]; kernel_rfl) | (rw [if_neg (by decide +kernel)]; exact ⟨rfl, rfl⟩))
    (fun os started H enc _ F => by rw [OpenClaim.pre_eq_preRow]; exact lifted os started H enc F)

theorem plain (f : FuncId) (fn : Func) (hf : Tryd.pinned.checked.prog.funcNamed "cloakroom/cloakroomlaw13.WaitsMore" = some f) (hfn : Tryd.pinned.checked.prog.funcs[f]? = some fn) :
    false = Tryd.pinned.checked.prog.looks [] ∧ ∀ (j : Nat) t, fn.params[j]? = some t → Tryd.pinned.checked.prog.wantsStandIn t = false := by
  obtain rfl : f = 6 := Option.some.inj ((show Tryd.prog.funcNamed "cloakroom/cloakroomlaw13.WaitsMore" = some 6 by kernel_rfl).symm.trans hf) |>.symm
  obtain rfl : fn = Tryd.f6 := (Option.some.inj (Tryd.func6.symm.trans hfn)).symm
  refine ⟨by kernel_rfl, fun j t ht => ?_⟩
  rw [Tryd.params6] at ht
  have hm : t = 30 ∨ t = 3 := by
    have := Array.mem_of_getElem? ht
    simpa using this
  rcases hm with rfl | rfl
  · exact (show Tryd.prog.wantsStandIn 30 = false by kernel_rfl)
  · exact (show Tryd.prog.wantsStandIn 3 = false by kernel_rfl)

theorem proved : Rows.WaitsMoreCardSaid :=
  Claim7.holds_tied_plain_at .later [] _ _ _ _ said (fun _ h => by cases h) (by kernel_rfl) (fun _ h => by cases h) waitsMore_row_tie rfl ⟨rfl, rfl⟩ (by kernel_rfl) rfl plain (by kernel_rfl)
#print axioms proved
end Go.Proofs.YteofipheoipeoaaDoor.waitsMore
