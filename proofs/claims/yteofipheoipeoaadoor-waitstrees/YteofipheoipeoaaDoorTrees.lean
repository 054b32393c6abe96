/- Proved: WaitsTrees, that is: where each waits for lesser ones alone, nobody must give way, and only lesser ones can be come to. Conditions: the two tables of package math/bits hold what the program's text lays (tied by the card). -/
import Derived.Test.YteofipheoipeoaaDoorRows
import Derived.Test.YteofipheoipeoaaDoorCards
import Derived.Test.YteofipheoipeoaaDoorTie
import Derived.Test.YteofipheoipeoaaDoorW5
import Derived.Test.YteofipheoipeoaaDoorOe
import Derived.WalkKit
import Derived.ProofKit
import Derived.OpenShut
import Derived.ShutString
import Derived.ChangeOld
import Derived.SizedLaws
import Derived.Below
import Derived.Deep.QuietTactic
import Derived.BigQuiet
import Derived.Deep.RegionWith
import Derived.Deep.RegionHeld
import Derived.Deep.RegionHeldLaw
import Derived.RegionTactic
import Derived.Deep.DeepHandedRow
import Derived.Lib.LaidTab
namespace Go.Proofs.YteofipheoipeoaaDoor.waitsTrees
open Go.ChangeShapes Go.WideShapes Go.ChangeAt Go.RowKit
set_option linter.unusedVariables false


/-- The edges to lesser ones. -/
def dn (E : List (Int × Int)) : List (Int × Int) := E.filter (fun e => decide (e.2 < e.1))
theorem dn_no {E : List (Int × Int)} {k : Nat} {e : Int × Int} (h : E[k]? = some e) (hc : decide (e.2 < e.1) = false) : dn (E.take (k + 1)) = dn (E.take k) := by
  unfold dn
  rw [List.take_add_one, h, List.filter_append]
  simp [hc]
theorem dn_yes {E : List (Int × Int)} {k : Nat} {e : Int × Int} (h : E[k]? = some e) (hc : decide (e.2 < e.1) = true) : dn (E.take (k + 1)) = dn (E.take k) ++ [e] := by
  unfold dn
  rw [List.take_add_one, h, List.filter_append]
  simp [hc]
theorem dn_len (E : List (Int × Int)) : (dn E).length ≤ E.length := List.length_filter_le _ _
theorem dn_lt {E : List (Int × Int)} {i k : Nat} (h : rB (dn E) i k = true) : k < i := by
  have ha : ∀ i k, adB (dn E) i k = true → k < i := fun i k hk => by
    have h1 := ((ad_iff _ _ _).1 hk).2.2
    have := (List.mem_filter.1 h1).2
    simp at this
    exact this
  exact r_ind h (fun k => k < i) (fun k hk => ha _ _ hk) (fun j k hj hk => Nat.lt_trans (ha _ _ hk) hj)
theorem dn_none (E : List (Int × Int)) : vcI (dn E) = 0 ∧ vcB (dn E) = false := vc_no fun j _ => by
  cases h : rB (dn E) j j
  · rfl
  · have := dn_lt h; omega

set_option maxHeartbeats 1600000 in
theorem walk (a0 : Option Addr) (c0 n0 : Nat) (q0 : List (Int × Int)) (w : World) (r0 : RdE w a0 c0 q0) (l0 : q0.length = n0) (H : Tz w) : Calls Tryd.prog 8 #[.slice a0 n0 c0] w fun e w' => e = .returned (.bool true) ∧ Below w.heap.size w w' := by
  have hal := alive_any w H
  by_cases hbig : 200 < n0
  · go_enter Tryd.func8, Tryd.ntmps8
    go_wp2_with (go_at_call 10; refine hal.mono ?_; rintro e w1 ⟨rfl, hb1⟩)
    go_ret
    exact ⟨rfl, hb1⟩
  · go_enter Tryd.func8, Tryd.ntmps8
    go_wp2_with (go_at_call 10; refine hal.mono ?_; rintro e w1 ⟨rfl, hb1⟩; have hs1 := hb1.size)
    go_loopw [3, 19] (fun v i wq => ∃ (t : Nat) (ao : Option Addr) (m cap : Nat), t ≤ n0 ∧ i = .int .i64 t ∧ v = .slice ao m cap ∧ Hid (OwnE wq w.heap.size ao cap (dn (q0.take t)) ∧ (dn (q0.take t)).length = m) ∧ m ≤ t ∧ Below w.heap.size w wq) (fun _ i _ => n0 - (intOf i).toNat)
    case atStart => exact ⟨0, _, 0, 0, by omega, rfl, rfl, ⟨by simpa [dn] using OwnE.fresh w1 w.heap.size hs1, rfl⟩, by omega, hb1.alloc hb1.size _⟩
    case round =>
      obtain ⟨t, ao, m, cap, ht, rfl, rfl, HI, hmt, hbel⟩ := hrel
      rename World => wq
      by_cases hlt : t < n0
      · obtain ⟨b, off, rfl, hbl, k0, k1⟩ := (r0.below hbel).at (t := t) (by omega)
        have he : q0[t]? = some q0[t] := List.getElem?_eq_getElem (by omega)
        generalize q0[t] = x at *
        obtain ⟨x, y⟩ := x
        have HE : Hid (q0[t]? = some (x, y)) := he
        clear he
        have e4 : decide ((t : Int) < n0) = true := by simp; omega
        by_cases hb : y < x
        · have HB : Hid (decide ((x, y).2 < (x, y).1) = true) := decide_eq_true hb
          go_wp2_with (at_builtin; refine wpList_append_rdE _ rfl _ _ rfl w.heap.size rfl rfl ((HI.out.1.alloc _).alloc _) (RdE.built2 _ _ #[.int .i64 x, .int .i64 y] [(x, y)] rfl (by simp [maxLen]) 1 rfl) HI.out.2 rfl (by omega) (by have := hbel.size; simp; omega) ?_; intro ao2 cap2 w3 ho3 hb3)
          go_roundw
          case rel => exact ⟨t + 1, ao2, m + 1, cap2, by omega, by go_num, rfl, by rw [dn_yes HE.out HB.out]; exact ⟨ho3, by simp [HI.out.2]⟩, by omega, hbel.trans ((((Below.refl _ _).alloc hbel.size _).alloc (by have := hbel.size; simp; omega) _).trans hb3)⟩
          case measure => simp [intOf]; omega
        · have HB : Hid (decide ((x, y).2 < (x, y).1) = false) := decide_eq_false hb
          go_wp2
          go_roundw
          case rel => exact ⟨t + 1, ao, m, cap, by omega, by go_num, rfl, by rw [dn_no HE.out HB.out]; exact ⟨HI.out.1.alloc _, HI.out.2⟩, by omega, hbel.alloc hbel.size _⟩
          case measure => simp [intOf]; omega
      · obtain rfl : t = n0 := by omega
        have hI : OwnE wq w.heap.size ao cap (dn q0) ∧ (dn q0).length = m := by
          have := HI.out
          rwa [List.take_of_length_le (by omega)] at this
        clear HI
        obtain ⟨hO, hL⟩ := hI
        have HL : Hid ((dn q0).length = m) := hL
        clear hL
        obtain ⟨wA, hwA⟩ : ∃ x, x = wq := ⟨_, rfl⟩
        subst hwA
        have hR := hO.rd
        have hT := H.on hbel
        have hvi := victim_any wA ao m cap (dn q0) hR HL.out hT
        rw [(dn_none q0).1, (dn_none q0).2] at hvi
        have e4 : decide ((t : Int) < (t : Int)) = false := by simp
        go_wp2_with (go_at_call 9; refine hvi.mono ?_; rintro e w2 ⟨rfl, hb2⟩)
        go_loopw [8] (fun i wr => ∃ c : Nat, i = .int .i64 c ∧ c ≤ 4 ∧ Below wA.heap.size wA wr) (fun i _ => 4 - (intOf i).toNat)
        case atStart => exact ⟨0, rfl, by omega, hb2⟩
        case round =>
          obtain ⟨c, rfl, hc4, hbi⟩ := hrel
          rename World => wi
          obtain ⟨wB, hwB⟩ : ∃ x, x = wi := ⟨_, rfl⟩
          subst hwB
          by_cases hlc : c < 4
          · have e5 : decide ((c : Int) < 4) = true := by simp; omega
            have hre := reach_any wB ao m cap (dn q0) (hR.below hbi) HL.out (hT.on hbi) (c : Int)
            have hl4 := rlI_len (dn q0) (c : Int)
            have HM : Hid (∀ x ∈ rlI (dn q0) (c : Int), x < (c : Int)) := fun x hx => by
              obtain ⟨i, j, _, _, h3, h4, h5⟩ := rlI_mem hx
              have := dn_lt h5
              omega
            obtain ⟨X, hX⟩ : ∃ X, rlI (dn q0) (c : Int) = X := ⟨_, rfl⟩
            rw [hX] at hre HM hl4
            have HX : Hid (rlI (dn q0) (c : Int) = X) := hX
            clear hX
            go_wp2_with (go_at_call 11; refine hre.mono ?_; rintro e w3 ⟨ao3, n3, cap3, rfl, ho3, hn3, hb3⟩; have HN3 : Hid (X.length = n3) := hn3; rw [hn3] at hl4; clear hn3; have hB3 := below_step hbi hb3; have hr3 := ho3.rd)
            go_loopw [46] (fun i wr => ∃ s : Nat, i = .int .i64 s ∧ s ≤ n3 ∧ Below w3.heap.size w3 wr) (fun i _ => n3 - (intOf i).toNat)
            case atStart => exact ⟨0, rfl, by omega, Below.refl _ _⟩
            case round =>
              obtain ⟨s, rfl, hs, hbs⟩ := hrel
              rename World => wj
              by_cases hls : s < n3
              · have hsl : s < X.length := by have := HN3.out; omega
                obtain ⟨b, off, rfl, hbl, hcs⟩ := (hr3.below hbs).at hsl
                have k0 := hcs s hsl
                clear hcs
                have hx := HM.out X[s] (List.getElem_mem hsl)
                generalize X[s] = x at *
                have e6 : decide ((s : Int) < (n3 : Int)) = true := by simp; omega
                have e7 : decide (x ≥ (c : Int)) = false := by simp; omega
                go_wp2
                go_roundw
                case rel => exact ⟨s + 1, by go_num, by omega, hbs⟩
                case measure => simp [intOf]; omega
              · obtain rfl : s = n3 := by omega
                have e6 : decide ((s : Int) < (s : Int)) = false := by simp
                go_wp2
                go_roundw
                case rel => exact ⟨c + 1, by go_num, by omega, below_step hB3 hbs⟩
                case measure => simp [intOf]; omega
          · obtain rfl : c = 4 := by omega
            have hwo := without_any wB ao m cap (dn q0) (hR.below hbi) HL.out (by omega) 0
            have hwl := wo_len (dn q0) 0
            have hl := HL.out
            rw [hl] at hwl
            clear hl
            go_wp2_with (go_at_call 18; refine hwo.mono ?_; rintro e w5 ⟨ao5, n5, cap5, rfl, ho5, hn5, hb5⟩; rw [hn5] at hwl; clear hn5; have e9 : decide ((n5 : Int) ≤ (m : Int)) = true := (by simp; omega))
            go_ret
            exact ⟨rfl, below_step (below_step hbel hbi) hb5⟩

theorem reads (os : Os) {H : Type} (enc : TypeId × Value → H) : ∃ places, DataW.whole enc Tryd.prog ((laidWorld os).forCall (fun _ _ => 0) ⟨#[], #[.slice none 0 0], []⟩).memory Tryd.f8.params.toList Rows.waitsTreesSpec.vars false (#[.slice none 0 0] : Array Value).toList 8 = some ([.nil], [], places) :=
  ⟨[], by kernel_rfl⟩

set_option maxRecDepth 100000 in
theorem lifted (os : Os) (started : os.Started) (H : Type) (enc : TypeId × Value → H) (F : Stop.Interp) :
    ReturnsInHanded {} Tryd.checked os 8 .any ((OpenSpec.ofChange Rows.waitsTreesSpec).preRow enc Tryd.prog Tryd.f8 Rows.waitsTreesRow.domain false Rows.waitsTreesRow.laid) (((OpenSpec.ofChange Rows.waitsTreesSpec).at F).post enc Tryd.prog Tryd.f8 false true false false) := by
  obtain ⟨places, hx⟩ := reads os enc
  refine returnsInHanded_of_row (C := Tryd.checked) (s := OpenSpec.ofChange Rows.waitsTreesSpec) own started (by kernel_rfl) Tryd.func8
    (witness_row_at (enc := enc) (C := Tryd.checked) false (laidWorld os) #[.slice none 0 0] rfl (by kernel_rfl) (by kernel_rfl) (by kernel_rfl)
      (OpenSpec.preRow_of_cond 8 hx (by kernel_rfl) (fun k hk => by cases hk) (by kernel_rfl) (laid_met os _))) ?_
  intro W base args ds gs before hval0 hW _ _ hsz0 hL _ _
  have HT : Tz W := tz_of_laid hL
  have hval : ∀ (j : Nat) t v, Tryd.f8.params[j]? = some t → args[j]? = some v → Value.okWide Tryd.prog W .any base t v := hval0
  have hsz : (DataW.weightsEach Tryd.prog (Tryd.f8.params.toList ++ Rows.waitsTreesSpec.plain.varTypes Tryd.prog) (ds ++ gs)).all (· ≤ reachBytes) = true := hsz0
  have hW' := hW
  obtain ⟨p, q, hA0, hV, rfl, hfz, hnd⟩ := hW
  have hA : DataW.TrodAll enc Tryd.prog W 0 (fun _ => true) true Tryd.f8.params.toList args.toList ds p := hA0
  rw [Tryd.params8] at hA hval hsz
  obtain ⟨v0, vs0, d0, ds0, p0, q0, hargs, rfl, rfl, h0, r0⟩ := trodAll_cons hA
  obtain ⟨rfl, rfl, rfl⟩ := trodAll_nil r0
  obtain rfl : args = #[v0] := by cases args; simp_all
  obtain ⟨rfl, rfl⟩ := trodVars_none hV
  obtain ⟨a0, n0, c0, rfl⟩ := okWide_slice Tryd.underlying30 (hval 0 30 v0 rfl rfl)
  have k0 := h0
  have lt0 : ∀ x ∈ p0, x.block < W.heap.size := by obtain ⟨m, hm⟩ := k0; exact DataW.trod_lt m _ _ _ hm
  obtain ⟨q0', r0', l0⟩ : ∃ A : List (Int × Int), RdE W a0 c0 A ∧ A.length = n0 := by
    obtain ⟨fuel, hf⟩ := h0
    obtain ⟨a, l, c, A, hcs, h1, h2⟩ := edges_of hf
    simp [Value.cells] at hcs
    obtain ⟨rfl, rfl, rfl⟩ := hcs
    exact ⟨A, h1, h2⟩
  clear hA0 hval0 hsz0
  refine (walk a0 c0 n0 q0' W r0' l0 HT).mono fun e W' ⟨he, bel⟩ => ?_
  subst he
  exact ⟨_, rfl, _, _, _, [], _, [], hW', trodAll_mk1 (shut_bool Tryd.underlying4 _), (trodAll_cons_mk (Below.trod laidOut (by kernel_rfl) (of_decide_eq_true (by kernel_rfl)) k0 bel lt0) trodAll_mk0), rfl, bel.frame _, fun h => by cases h⟩

theorem said : Rows.WaitsTreesSaid :=
  OpenClaim.holds_of_cond 8 Tryd.f8 rfl rfl rfl rfl rfl rfl rfl ⟨rfl, rfl, rfl, rfl, rfl⟩ rfl rfl rfl rfl rfl (by kernel_rfl) Tryd.func8 (by kernel_rfl)
    (of_decide_eq_true (by kernel_rfl)) (by unfold Func.isWrapper; first | (rw [if_pos (by decide +kernel)]; kernel_rfl) | (rw [if_neg (by decide +kernel)]; exact ⟨rfl, rfl⟩))
    (fun os started H enc _ F => by rw [OpenClaim.pre_eq_preRow]; exact lifted os started H enc F)

theorem plain (f : FuncId) (fn : Func) (hf : Tryd.pinned.checked.prog.funcNamed "cloakroom/cloakroomlaw13.WaitsTrees" = some f) (hfn : Tryd.pinned.checked.prog.funcs[f]? = some fn) :
    false = Tryd.pinned.checked.prog.looks [] ∧ ∀ (j : Nat) t, fn.params[j]? = some t → Tryd.pinned.checked.prog.wantsStandIn t = false := by
  obtain rfl : f = 8 := Option.some.inj ((show Tryd.prog.funcNamed "cloakroom/cloakroomlaw13.WaitsTrees" = some 8 by kernel_rfl).symm.trans hf) |>.symm
  obtain rfl : fn = Tryd.f8 := (Option.some.inj (Tryd.func8.symm.trans hfn)).symm
  refine ⟨by kernel_rfl, fun j t ht => ?_⟩
  rw [Tryd.params8] at ht
  obtain rfl : t = 30 := by simpa using Array.mem_of_getElem? ht
  exact (show Tryd.prog.wantsStandIn 30 = false by kernel_rfl)

theorem proved : Rows.WaitsTreesCardSaid :=
  Claim7.holds_tied_plain_at .later [] _ _ _ _ said (fun _ h => by cases h) (by kernel_rfl) (fun _ h => by cases h) waitsTrees_row_tie rfl ⟨rfl, rfl⟩ (by kernel_rfl) rfl plain (by kernel_rfl)
#print axioms proved
end Go.Proofs.YteofipheoipeoaaDoor.waitsTrees
