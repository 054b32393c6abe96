/- Two texts of one length that differ within two bytes side by side have unlike sums: for all bytes ahead and behind and any two bytes against any two, the law's function returns true. Conditions: none. -/
import Derived.Test.YtdnebhhmjmcfjaaRows
import Derived.Test.YtdnebhhmjmcfjaaSl
import Derived.Test.YtdnebhhmjmcfjaaCm
import Derived.Test.YtdnebhhmjmcfjaaCr1
import Derived.Test.YtdnebhhmjmcfjaaCr2
import Derived.Test.YtdnebhhmjmcfjaaCr3
import Derived.Test.YtdnebhhmjmcfjaaCr4
import Derived.Test.YtdnebhhmjmcfjaaCr5
import Derived.Test.YtdnebhhmjmcfjaaCr6
import Derived.Test.YtdnebhhmjmcfjaaCr7
import Derived.Test.YtdnebhhmjmcfjaaGr
import Derived.Test.YtdnebhhmjmcfjaaOn1
import Derived.WalkKit
import Derived.ProofKit
import Derived.OpenShut
import Derived.ShutString
import Derived.ChangeOld
import Derived.SizedLaws
import Derived.Below
import Derived.Deep.QuietTactic
import Derived.BigQuiet
import Derived.Deep.RegionWith
import Derived.Deep.RegionHeld
import Derived.Deep.RegionHeldLaw
import Derived.RegionTactic
namespace Go.Proofs.Ytdnebhhmjmcfjaa.crcOne
open Go.ChangeShapes Go.WideShapes Go.ChangeAt Go.RowKit
set_option linter.unusedVariables false

theorem own : ownKnob Try.prog.godebug = none := by kernel_rfl
theorem laidOut : laidOutB Try.prog = true := by kernel_rfl
theorem bytes5 : Try.prog.bytesOf 5 = 1 := by kernel_rfl

set_option maxHeartbeats 800000 in
theorem walkL (a0 : Option Addr) (c0 n0 : Nat) (a1 : Option Addr) (c1 n1 : Nat) (v0 v1 v2 v3 : Value) (w : World) (h0 : 3000 < n0 ∨ 3000 < n1) :
    Calls Try.prog 8 #[.slice a0 n0 c0, .slice a1 n1 c1, .agg #[v0, v1, v2, v3]] w fun e w' => e = .returned (.bool true) ∧ Below w.heap.size w w' := by
  by_cases h1 : 3000 < n0
  · clear h0
    go_enter Try.func8, Try.ntmps8
    go_wp2_with (go_at_call 10; refine (alive_any _).mono ?_; rintro e w1 ⟨rfl, hb1⟩)
    go_ret
    exact ⟨rfl, below_alloc (hb1.mono (by simp))⟩
  · have h2 : 3000 < n1 := by omega
    clear h0
    go_enter Try.func8, Try.ntmps8
    go_wp2_with (go_at_call 10; refine (alive_any _).mono ?_; rintro e w1 ⟨rfl, hb1⟩)
    go_ret
    exact ⟨rfl, below_alloc (hb1.mono (by simp))⟩

set_option maxHeartbeats 1600000 in
theorem walkO (a0 : Option Addr) (c0 n0 : Nat) (fr : List Nat) (a1 : Option Addr) (c1 n1 : Nat) (bk : List Nat) (x y z t : Nat) (w : World) (h : Rd8 w a0 n0 c0 fr) (g : Rd8 w a1 n1 c1 bk) (h0 : n0 ≤ 3000) (h1 : n1 ≤ 3000) (hx : x < 256) (hy : y < 256) (hz : z < 256) (ht : t < 256) :
    Calls Try.prog 8 #[.slice a0 n0 c0, .slice a1 n1 c1, .agg #[.int .u8 (x : Int), .int .u8 (y : Int), .int .u8 (z : Int), .int .u8 (t : Int)]] w fun e w' => e = .returned (.bool true) ∧ Below w.heap.size w w' := by
  have hsum : (((ofN (fr ++ x :: y :: bk) : Nat) : Int) == ((ofN (fr ++ z :: t :: bk) : Nat) : Int)) = decide (x = z ∧ y = t) := by
    have := ofN_two fr bk x y z t hx hy hz ht
    simp only [List.cons_append, List.nil_append] at this
    by_cases hh : x = z ∧ y = t
    · rw [this.2 hh]; simp [hh]
    · have hn : ofN (fr ++ x :: y :: bk) ≠ ofN (fr ++ z :: t :: bk) := fun e => hh (this.1 e)
      simp only [hh, decide_false, beq_eq_false_iff_ne, ne_eq]
      omega
  have HS : Hid ((((ofN (fr ++ x :: y :: bk) : Nat) : Int) == ((ofN (fr ++ z :: t :: bk) : Nat) : Int)) = decide (x = z ∧ y = t)) := hsum
  have HF : Hid (((((ofN (fr ++ x :: y :: bk) : Nat) : Int) == ((ofN (fr ++ z :: t :: bk) : Nat) : Int)) == (decide (x = z) && decide (y = t))) = true) := by
    rw [Hid, hsum]; simp
  clear hsum
  go_enter Try.func8, Try.ntmps8
  go_wp2_with (go_at_call 10; refine (alive_any _).mono ?_; rintro e w1 ⟨rfl, hb1⟩)
  have hcell : ∀ i, i < 4 → w1.cell? ⟨w.heap.size, i, none⟩ = #[Value.int .u8 (x : Int), .int .u8 (y : Int), .int .u8 (z : Int), .int .u8 (t : Int)][i]? := by
    intro i hi
    rw [hb1.cell (p := ⟨w.heap.size, i, none⟩) (by simp)]
    simp only [World.cell?, heap_alloc_new]
    rfl
  have hc0 := hcell 0 (by omega)
  have hc1 := hcell 1 (by omega)
  have hc2 := hcell 2 (by omega)
  have hc3 := hcell 3 (by omega)
  simp at hc0 hc1 hc2 hc3
  clear hcell
  have hlt : w.heap.size < w1.heap.size := by have := hb1.size; simp at this; omega
  have hne0 : w.heap.size ≠ w1.heap.size := by omega
  have hne1 : w.heap.size ≠ w1.heap.size + 1 := by omega
  go_region_held (fun w' => w'.cell? ⟨w.heap.size, 0, none⟩ = some (.int .u8 (x : Int)) ∧ w'.cell? ⟨w.heap.size, 1, none⟩ = some (.int .u8 (y : Int)) ∧ w'.cell? ⟨w.heap.size, 2, none⟩ = some (.int .u8 (z : Int)) ∧ w'.cell? ⟨w.heap.size, 3, none⟩ = some (.int .u8 (t : Int))) (go_keep) (fail)
  · obtain ⟨W, hW⟩ : ∃ W, W = ((w1.alloc (Obj.cells #[Value.int IntKind.u8 (x : Int), Value.int IntKind.u8 (y : Int)] 38)).alloc (Obj.cells #[Value.int IntKind.u8 (z : Int), Value.int IntKind.u8 (t : Int)] 38)).drew := ⟨_, rfl⟩
    have hA0 : W.cell? ⟨w1.heap.size, 0, none⟩ = some (.int .u8 (x : Int)) := by rw [hW]; exact cell_first _ _ _ _ 0
    have hA1 : W.cell? ⟨w1.heap.size, 1, none⟩ = some (.int .u8 (y : Int)) := by rw [hW]; exact cell_first _ _ _ _ 1
    have hB0 : W.cell? ⟨w1.heap.size + 1, 0, none⟩ = some (.int .u8 (z : Int)) := by rw [hW]; exact cell_second _ _ _ _ 0
    have hB1 : W.cell? ⟨w1.heap.size + 1, 1, none⟩ = some (.int .u8 (t : Int)) := by rw [hW]; exact cell_second _ _ _ _ 1
    have hBW : Below w.heap.size w W := by
      rw [hW]
      exact ((below_alloc (hb1.mono (by simp))).alloc (by omega) _ |>.alloc (by simp; omega) _).drew
    rw [← hW]
    generalize w1.heap.size + 1 = gB at *
    generalize w1.heap.size = gA at *
    clear hb1 hc0 hc1 hc2 hc3 hlt hne0 hne1 hW
    have hE := fun w => eq38 w x y z t
    have hRA : Rd8 W (some ⟨gA, 0, none⟩) 2 2 [x, y] := Rd8.two hA0 hA1 hx hy
    have hRB : Rd8 W (some ⟨gB, 0, none⟩) 2 2 [z, t] := Rd8.two hB0 hB1 hz ht
    have hRf : Rd8 W a0 n0 c0 fr := h.below hBW
    have hRb : Rd8 W a1 n1 c1 bk := g.below hBW
    go_wp2
    go_region_held (fun w' => w'.cell? ⟨gA, 0, none⟩ = some (.int .u8 (x : Int)) ∧ w'.cell? ⟨gA, 1, none⟩ = some (.int .u8 (y : Int)) ∧ w'.cell? ⟨gB, 0, none⟩ = some (.int .u8 (z : Int)) ∧ w'.cell? ⟨gB, 1, none⟩ = some (.int .u8 (t : Int))) (go_keep)
      ((go_at_call 13; first
        | (with_reducible refine (of3_firstD W _ hRf hRA hRb).mono ?_; rintro e w' ⟨rfl, hw⟩; subst w')
        | (with_reducible refine (of3_secondD W _ hRf hRA hRb).mono ?_; rintro e w' ⟨rfl, hw⟩; subst w')
        | (with_reducible refine (of3_lastD W hRf hRA hRb).mono ?_; rintro e w' ⟨rfl, hw⟩; subst w')
        | (with_reducible refine (of3_secondD W _ hRf hRB hRb).mono ?_; rintro e w' ⟨rfl, hw⟩; subst w')
        | (with_reducible refine (of3_firstD W _ hRf hRB hRb).mono ?_; rintro e w' ⟨rfl, hw⟩; subst w')))
    all_goals go_wp2
    all_goals go_ret
    all_goals rw [HF.out]
    all_goals exact ⟨rfl, ((hBW.alloc hBW.size _).alloc (by simp; exact Nat.le_succ_of_le hBW.size) _).drew⟩
  · obtain ⟨W, hW⟩ : ∃ W, W = ((w1.alloc (Obj.cells #[Value.int IntKind.u8 (z : Int), Value.int IntKind.u8 (t : Int)] 38)).alloc (Obj.cells #[Value.int IntKind.u8 (x : Int), Value.int IntKind.u8 (y : Int)] 38)).drew := ⟨_, rfl⟩
    have hA0 : W.cell? ⟨w1.heap.size + 1, 0, none⟩ = some (.int .u8 (x : Int)) := by rw [hW]; exact cell_second _ _ _ _ 0
    have hA1 : W.cell? ⟨w1.heap.size + 1, 1, none⟩ = some (.int .u8 (y : Int)) := by rw [hW]; exact cell_second _ _ _ _ 1
    have hB0 : W.cell? ⟨w1.heap.size, 0, none⟩ = some (.int .u8 (z : Int)) := by rw [hW]; exact cell_first _ _ _ _ 0
    have hB1 : W.cell? ⟨w1.heap.size, 1, none⟩ = some (.int .u8 (t : Int)) := by rw [hW]; exact cell_first _ _ _ _ 1
    have hBW : Below w.heap.size w W := by
      rw [hW]
      exact ((below_alloc (hb1.mono (by simp))).alloc (by omega) _ |>.alloc (by simp; omega) _).drew
    rw [← hW]
    generalize w1.heap.size + 1 = gA at *
    generalize w1.heap.size = gB at *
    clear hb1 hc0 hc1 hc2 hc3 hlt hne0 hne1 hW
    have hE := fun w => eq38 w x y z t
    have hRA : Rd8 W (some ⟨gA, 0, none⟩) 2 2 [x, y] := Rd8.two hA0 hA1 hx hy
    have hRB : Rd8 W (some ⟨gB, 0, none⟩) 2 2 [z, t] := Rd8.two hB0 hB1 hz ht
    have hRf : Rd8 W a0 n0 c0 fr := h.below hBW
    have hRb : Rd8 W a1 n1 c1 bk := g.below hBW
    go_wp2
    go_region_held (fun w' => w'.cell? ⟨gA, 0, none⟩ = some (.int .u8 (x : Int)) ∧ w'.cell? ⟨gA, 1, none⟩ = some (.int .u8 (y : Int)) ∧ w'.cell? ⟨gB, 0, none⟩ = some (.int .u8 (z : Int)) ∧ w'.cell? ⟨gB, 1, none⟩ = some (.int .u8 (t : Int))) (go_keep)
      ((go_at_call 13; first
        | (with_reducible refine (of3_firstD W _ hRf hRA hRb).mono ?_; rintro e w' ⟨rfl, hw⟩; subst w')
        | (with_reducible refine (of3_secondD W _ hRf hRA hRb).mono ?_; rintro e w' ⟨rfl, hw⟩; subst w')
        | (with_reducible refine (of3_lastD W hRf hRA hRb).mono ?_; rintro e w' ⟨rfl, hw⟩; subst w')
        | (with_reducible refine (of3_secondD W _ hRf hRB hRb).mono ?_; rintro e w' ⟨rfl, hw⟩; subst w')
        | (with_reducible refine (of3_firstD W _ hRf hRB hRb).mono ?_; rintro e w' ⟨rfl, hw⟩; subst w')))
    all_goals go_wp2
    all_goals go_ret
    all_goals rw [HF.out]
    all_goals exact ⟨rfl, ((hBW.alloc hBW.size _).alloc (by simp; exact Nat.le_succ_of_le hBW.size) _).drew⟩

theorem walk (a0 : Option Addr) (c0 n0 : Nat) (z0 : List Int) (a1 : Option Addr) (c1 n1 : Nat) (z1 : List Int) (x y z t : Nat) (w : World) (r0 : RdI w .u8 a0 c0 z0) (l0 : z0.length = n0) (b0 : ∀ z ∈ z0, (Lit.int .u8 z).wf = true) (s0 : n0 * 1 ≤ 140737488351232) (r1 : RdI w .u8 a1 c1 z1) (l1 : z1.length = n1) (b1 : ∀ z ∈ z1, (Lit.int .u8 z).wf = true) (s1 : n1 * 1 ≤ 140737488351232) (hx : x < 256) (hy : y < 256) (hz : z < 256) (ht : t < 256) :
    Calls Try.prog 8 #[.slice a0 n0 c0, .slice a1 n1 c1, .agg #[.int .u8 (x : Int), .int .u8 (y : Int), .int .u8 (z : Int), .int .u8 (t : Int)]] w fun e w' => e = .returned (.bool true) ∧ Below w.heap.size w w' := by
  obtain ⟨bs, h⟩ := rd8_of r0 l0 b0
  obtain ⟨fs, g⟩ := rd8_of r1 l1 b1
  by_cases h2 : 3000 < n0 ∨ 3000 < n1
  · exact walkL a0 c0 n0 a1 c1 n1 _ _ _ _ w h2
  · exact walkO a0 c0 n0 bs a1 c1 n1 fs x y z t w h g (by omega) (by omega) hx hy hz ht

set_option maxRecDepth 100000 in
theorem lifted (os : Os) (started : os.Started) (H : Type) (enc : TypeId × Value → H) :
    ReturnsInHanded {} Try.checked os 8 .any (Rows.crcOneSpec.pre6 enc Try.prog Try.f8 Rows.crcOneRow.domain false) (Rows.crcOneSpec.post enc Try.prog Try.f8 false true false false) := by
  refine returnsInHanded_of_change_sized (C := Try.checked) own started (by kernel_rfl) Try.func8
    (ChangeSpec.witness6 (enc := enc) (C := Try.checked) false ⟨#[], #[.slice none 0 0, .slice none 0 0, .agg #[.int .u8 0, .int .u8 0, .int .u8 0, .int .u8 0]], []⟩ 8 (by kernel_rfl) (by kernel_rfl) (by kernel_rfl) (by kernel_rfl)) ?_
  intro W base args ds gs before hval0 hW hcnd hsz0 _
  have hval : ∀ (j : Nat) t v, Try.f8.params[j]? = some t → args[j]? = some v → Value.okWide Try.prog W .any base t v := hval0
  have hsz : (DataW.weightsEach Try.prog (Try.f8.params.toList ++ Rows.crcOneSpec.plain.varTypes Try.prog) (ds ++ gs)).all (· ≤ reachBytes) = true := hsz0
  have hW' := hW
  obtain ⟨p, q, hA0, hV, rfl, hfz, hnd⟩ := hW
  have hA : DataW.TrodAll enc Try.prog W 0 (fun _ => true) true Try.f8.params.toList args.toList ds p := hA0
  rw [Try.params8] at hA hval hsz
  obtain ⟨v0, vs0, d0, ds0, p0, q0, hargs, rfl, rfl, h0, r0⟩ := trodAll_cons hA
  obtain ⟨v1, vs1, d1, ds1, p1, q1, rfl, rfl, rfl, h1, r1⟩ := trodAll_cons r0
  obtain ⟨v2, vs2, d2, ds2, p2, q2, rfl, rfl, rfl, h2, r2⟩ := trodAll_cons r1
  obtain ⟨rfl, rfl, rfl⟩ := trodAll_nil r2
  obtain rfl : args = #[v0, v1, v2] := by cases args; simp_all
  obtain ⟨rfl, rfl⟩ := trodVars_none hV
  obtain ⟨a0, n0, c0, rfl⟩ := okWide_slice Try.underlying22 (hval 0 22 v0 rfl rfl)
  have k0 := h0
  have lt0 : ∀ x ∈ p0, x.block < W.heap.size := by obtain ⟨m, hm⟩ := k0; exact DataW.trod_lt m _ _ _ hm
  obtain ⟨z0, r0', l0, b0, s0⟩ : ∃ zs, RdI W .u8 a0 c0 zs ∧ zs.length = n0 ∧ (∀ z ∈ zs, (Lit.int .u8 z).wf = true) ∧ n0 * 1 ≤ 140737488351232 := by
    obtain ⟨fuel, hf⟩ := h0
    rcases open_ints Try.underlying22 Try.underlying5 (by kernel_rfl) hf with ⟨hcs, _⟩ | ⟨x, l, c, zs, hcs, _, hl, hm, hz, hx, hcell, hwz⟩
    · simp [Value.cells] at hcs
      obtain ⟨rfl, rfl, rfl⟩ := hcs
      exact ⟨[], RdI.empty W .u8, rfl, by simp, by omega⟩
    · simp [Value.cells] at hcs
      obtain ⟨rfl, rfl, rfl⟩ := hcs
      have hd : d0 = .slice (lits .u8 (zs.take n0)) (lits .u8 (zs.drop n0)) := (Prod.mk.inj hx).1
      have hs := sized_slice hsz (j := 0) (t := 22) (e := 5) rfl (by rw [hd]; rfl) Try.underlying22
      have hz2 : zs.length = c0 := by simpa using hz
      rw [bytes5] at hs
      simp only [lits, List.length_map, List.length_take, List.length_drop, reachBytes] at hs
      exact ⟨zs.take n0, rdI_of_row hl hm hz2 hcell, by simp; omega, fun z h => hwz z (List.mem_of_mem_take h), by omega⟩
  obtain ⟨a1, n1, c1, rfl⟩ := okWide_slice Try.underlying22 (hval 1 22 v1 rfl rfl)
  have k1 := h1
  have lt1 : ∀ x ∈ p1, x.block < W.heap.size := by obtain ⟨m, hm⟩ := k1; exact DataW.trod_lt m _ _ _ hm
  obtain ⟨z1, r1', l1, b1, s1⟩ : ∃ zs, RdI W .u8 a1 c1 zs ∧ zs.length = n1 ∧ (∀ z ∈ zs, (Lit.int .u8 z).wf = true) ∧ n1 * 1 ≤ 140737488351232 := by
    obtain ⟨fuel, hf⟩ := h1
    rcases open_ints Try.underlying22 Try.underlying5 (by kernel_rfl) hf with ⟨hcs, _⟩ | ⟨x, l, c, zs, hcs, _, hl, hm, hz, hx, hcell, hwz⟩
    · simp [Value.cells] at hcs
      obtain ⟨rfl, rfl, rfl⟩ := hcs
      exact ⟨[], RdI.empty W .u8, rfl, by simp, by omega⟩
    · simp [Value.cells] at hcs
      obtain ⟨rfl, rfl, rfl⟩ := hcs
      have hd : d1 = .slice (lits .u8 (zs.take n1)) (lits .u8 (zs.drop n1)) := (Prod.mk.inj hx).1
      have hs := sized_slice hsz (j := 1) (t := 22) (e := 5) rfl (by rw [hd]; rfl) Try.underlying22
      have hz2 : zs.length = c1 := by simpa using hz
      rw [bytes5] at hs
      simp only [lits, List.length_map, List.length_take, List.length_drop, reachBytes] at hs
      exact ⟨zs.take n1, rdI_of_row hl hm hz2 hcell, by simp; omega, fun z h => hwz z (List.mem_of_mem_take h), by omega⟩
  have k2 := h2
  have lt2 : ∀ x ∈ p2, x.block < W.heap.size := by obtain ⟨m, hm⟩ := k2; exact DataW.trod_lt m _ _ _ hm
  obtain ⟨x2, y2, z2, t2, rfl, ex2, ey2, ez2, et2⟩ := open_grid (hval 2 39 v2 rfl rfl) h2
  clear hA0 hval0
  refine (walk a0 c0 n0 z0 a1 c1 n1 z1 x2 y2 z2 t2 W r0' l0 b0 s0 r1' l1 b1 s1 ex2 ey2 ez2 et2).mono fun e W' ⟨he, bel⟩ => ?_
  subst he
  exact ⟨_, rfl, _, _, _, [], _, [], hW', trodAll_mk1 (shut_bool Try.underlying4 _), (trodAll_cons_mk (Below.trod laidOut (by kernel_rfl) (of_decide_eq_true (by kernel_rfl)) k0 bel lt0) (trodAll_cons_mk (Below.trod laidOut (by kernel_rfl) (of_decide_eq_true (by kernel_rfl)) k1 bel lt1) (trodAll_cons_mk (Below.trod laidOut (by kernel_rfl) (of_decide_eq_true (by kernel_rfl)) k2 bel lt2) trodAll_mk0))), rfl, bel.frame _, fun h => by cases h⟩

theorem over : Rows.crcOneRow.holds Try.pinned (OpenSpec.ofChange Rows.crcOneSpec) :=
  OpenClaim.holds_of_wide 8 Try.f8 rfl rfl rfl rfl rfl rfl rfl ⟨rfl, rfl, rfl, rfl, rfl⟩ rfl rfl rfl rfl rfl (by kernel_rfl) Try.func8 (by kernel_rfl)
    (of_decide_eq_true (by kernel_rfl)) (by unfold Func.isWrapper; first | (rw [if_pos (by decide +kernel)]; kernel_rfl) | (rw [if_neg (by decide +kernel)]; exact ⟨rfl, rfl⟩))
    (fun os started H enc _ => lifted os started H enc)

theorem proved : Rows.CrcOneSaid := over
#print axioms proved
end Go.Proofs.Ytdnebhhmjmcfjaa.crcOne
