/- The walk of NetSpoils. -/
import Derived.Test.YtfllkhimlambhaaSp
import Derived.Test.YtfllkhimlambhaaOr
namespace Go.Proofs.Ytfllkhimlambhaa
open Go.RowKit
set_option linter.unusedVariables false
set_option maxRecDepth 8000

section
variable {P : Program} {ops : Array Oper} {Q : Exit → Act → World → Prop} {md : Region.Mode} {S : World → Prop}
/-- An operation whose guard says no. -/
theorem held_skip {i : Nat} {oi : Oper} (d : Nat) {fuel : Nat} {listed : Array Bool} {a : Act} {w : World} (hi : ops[i]? = some oi) (hd : oi.dst = some d) (hs : Region.noSelect ops = true) (hf : Region.free md ops listed i = true) (hr : (Region.ready md ops listed).contains i = true)
    (hw : Region.wanted oi (yielded ops a.tmps) = false) (hQ : ∀ c a w, Q (.panic c) (a.put oi.dst undef) w → Q (.panic c) a w) (hS : S w) (h : wpAnyH P md ops Q S fuel (listed.setIfInBounds i true) (a.put (some d) undef) w) : wpAnyH P md ops Q S (fuel + 1) listed a w :=
  wpAnyH_take hi hs hf hr hQ (.inr ⟨hw, rfl⟩) hS (hd ▸ h)
end

theorem good_seal {ps : List Pt} {k : Nat} {p : Pt} (h : ps[k]? = some p) (hb : ∀ b ∈ p.bs, b < 256) : Good ps (k % 8) (sealN p.bs, false) :=
  ⟨sealN_bytes hb, by show 2 ≤ (sealN p.bs).length; rw [sealN_length]; omega, fun _ => ⟨k, p, h, rfl, rfl⟩, fun h => by cases h⟩

abbrev acO (x : ActG) : Obj := .cells #[.int .i64 x.k, .int .i64 x.l, .int .i64 x.n, .int .i64 x.a, .int .u16 (x.m : Int), .slice x.ao x.len x.cap] 35
theorem acCells {w : World} {g : Nat} {x : ActG} (h : w.heap[g]? = some (acO x)) : w.cell? ⟨g, 0, none⟩ = some (.int .i64 x.k) ∧ w.cell? ⟨g, 1, none⟩ = some (.int .i64 x.l) ∧ w.cell? ⟨g, 2, none⟩ = some (.int .i64 x.n) ∧ w.cell? ⟨g, 3, none⟩ = some (.int .i64 x.a) ∧ w.cell? ⟨g, 4, none⟩ = some (.int .u16 (x.m : Int)) ∧ w.cell? ⟨g, 5, none⟩ = some (.slice x.ao x.len x.cap) := by
  refine ⟨?_, ?_, ?_, ?_, ?_, ?_⟩
  all_goals rw [cell_of_row _ _ _ _ _ _ h]; rfl

theorem step_le {I i0 t l er : Nat} {ps : List Pt} {bs : List Nat} {pq : Pt} (hI : I = l + 8 * t) (h : er = 0 ∧ I ≤ i0) (h0 : er = 0 → ∃ p : Pt, ps[i0]? = some p ∧ i0 % 8 = l ∧ bs = p.bs) (hq : ps[I]? = some pq) (hne : ¬ pq.bs = bs) : I + 8 ≤ i0 := by
  obtain ⟨p, h1, h2, h3⟩ := h0 h.1
  have : I ≠ i0 := by
    rintro rfl
    rw [hq] at h1
    cases h1
    exact hne h3.symm
  omega

set_option maxHeartbeats 3200000 in
theorem spoils_main (a0 : Option Addr) (c0 n : Nat) (ps : List Pt) (a1 : Option Addr) (c1 m : Nat) (A : List ActG) (w : World) (hr : RdS w a0 c0 (ps.map Pt.val)) (hn : ps.length = n) (hp : ∀ p ∈ ps, Rd8 w p.ao p.n p.cap p.bs ∧ p.n ≤ 140737488351232) (hA : ActsAt w a1 A) (hm : A.length = m) (h40 : n ≤ 40) (h200 : m ≤ 200) : Calls Try.prog 5 #[.slice a0 n c0, .slice a1 m c1] w fun e w' => e = .returned (.bool true) ∧ Below w.heap.size w w' := by
  have hn2 : ¬ (40 : Int) < (n : Int) := by omega
  have hm2 : ¬ (200 : Int) < (m : Int) := by omega
  obtain ⟨B, hB⟩ : ∃ B, w.heap.size = B := ⟨_, rfl⟩
  have HI : Hid (RdR ptC w a0 c0 ps ∧ ps.length = n ∧ (∀ p ∈ ps, Rd8 w p.ao p.n p.cap p.bs ∧ p.n ≤ 140737488351232) ∧ w.heap.size = B ∧ n ≤ 40 ∧ ActsAt w a1 A ∧ A.length = m) := ⟨rdP hr, hn, hp, hB, h40, hA, hm⟩
  have HA : Hid (Calls Try.prog 9 #[] w fun e w' => e = .returned (.bool true) ∧ Hid (Below B w w')) := hB ▸ alive_any w
  have HNew : Hid (∀ W, Below B w W → Calls Try.prog 8 #[] W fun e w' => e = .returned (np W.heap.size) ∧ Hid (Gd B W.heap.size w w' ps)) := fun W hW => g_new w W hB hW
  clear hr hn hp hB h40 hA hm h200
  go_enter Try.func5, Try.ntmps5
  go_wp2_with (first
    | (go_at_call 8; refine (HNew.out _ HA1.out).mono ?_; rintro e w2 ⟨rfl, HN0⟩)
    | (go_at_call 9; refine HA.out.mono ?_; rintro e w1 ⟨rfl, HA1⟩))
  generalize w1.heap.size = g at *
  clear HA HNew HA1
  go_loopw [31] (fun i wr => ∃ k : Nat, k ≤ n ∧ i = .int .i64 k ∧ Hid (Gd B g w wr ps)) (fun i _ => n - (intOf i).toNat)
  case atStart => exact ⟨0, Nat.zero_le _, rfl, HN0⟩
  case round =>
    obtain ⟨k, hk, rfl, HN⟩ := hrel
    clear HN0
    by_cases hlt : k < n
    · obtain ⟨p, hpk⟩ : ∃ p, ps[k]? = some p := ⟨ps[k]'(by rw [HI.out.2.1]; exact hlt), List.getElem?_eq_getElem _⟩
      obtain ⟨hkl, hpe⟩ := List.getElem?_eq_some_iff.1 hpk
      obtain ⟨b, off, rfl, hbl, hcell⟩ := (HI.out.1.below (HI.out.2.2.2.1 ▸ HN.out.2.1)).one hkl
      rw [hpe] at hcell
      have hpp := HI.out.2.2.1 p (List.mem_of_getElem? hpk)
      have HR : Hid (Rd8 wr p.ao p.n p.cap p.bs ∧ ps[k]? = some p) := ⟨hpp.1.below (HI.out.2.2.2.1 ▸ HN.out.2.1), hpk⟩
      clear hpp hpe hkl hpk
      by_cases h500 : p.n ≤ 500
      · have h500' : ¬ (500 : Int) < (p.n : Int) := by omega
        have HS : Hid (Calls Try.prog 22 #[.slice p.ao p.n p.cap] wr fun e w' => ∃ ao' cap', e = .returned (.slice ao' (p.n + 2) cap') ∧ Hid (Own8 w' wr.heap.size ao' (p.n + 2) cap' (sealN p.bs) ∧ Below wr.heap.size wr w')) := seal_any p.ao p.n p.cap p.bs wr HR.out.1 (by omega)
        have HP : Hid (∀ (W : World) (ao' : Option Addr) (cap' : Nat) (z : Int), Own8 W wr.heap.size ao' (p.n + 2) cap' (sealN p.bs) ∧ Below wr.heap.size wr W → z = ((k % 8 : Nat) : Int) → Calls Try.prog 11 #[np g, .int .i64 z, .slice ao' (p.n + 2) cap'] W fun e w' => ∃ b, e = .returned (.bool b) ∧ Hid (Gd B g w w' ps)) := fun W ao' cap' z h hz => g_put (HN.out.below h.2) (Nat.mod_lt _ (by decide)) h.1.rd (by omega) (good_seal HR.out.2 HR.out.1.byte) hz
        clear h500
        go_wp2_with (first
          | (go_at_call 11; refine (HP.out _ _ _ _ HW5.out (by omega)).mono ?_; rintro e w6 ⟨b6, rfl, HN6⟩)
          | (go_at_call 22; refine HS.out.mono ?_; rintro e w5 ⟨ao5, cap5, rfl, HW5⟩))
        go_roundw
        case rel => exact ⟨k + 1, by omega, by go_num, HN6⟩
        case measure => simp [intOf]; omega
      · have h500' : (500 : Int) < (p.n : Int) := by omega
        go_wp2
        go_ret
        exact ⟨rfl, by rw [HI.out.2.2.2.1]; exact HN.out.2.1⟩
    · obtain rfl : n = k := by omega
      clear hlt hk
      go_wp2
      go_loopw [48] (fun i wr => ∃ j : Nat, j ≤ m ∧ i = .int .i64 j ∧ Hid (Gd B g w wr ps)) (fun i _ => m - (intOf i).toNat)
      case atStart => exact ⟨0, Nat.zero_le _, rfl, HN⟩
      case round =>
        obtain ⟨j, hj, rfl, HJ⟩ := hrel
        rename World => wz
        clear HN
        by_cases hlt : j < m
        · have hjA : j < A.length := by rw [HI.out.2.2.2.2.2.2]; exact hlt
          have hAz := HI.out.2.2.2.2.2.1.below (HI.out.2.2.2.1 ▸ HJ.out.2.1)
          obtain ⟨b1, off1, hb1, hbl1, hcl1⟩ := hAz.cell (by intro e; rw [e] at hjA; simp at hjA)
          obtain ⟨d0, d1, d2, d3, d4, d5⟩ := hcl1 j hjA
          have HK : Hid (ActOk wz A[j]) := hAz.ok _ (List.getElem_mem hjA)
          clear hcl1 hAz
          generalize A[j] = x at *
          rw [hb1]
          have hal : Below wz.heap.size wz (wz.alloc (acO x)) := (Below.refl _ _).alloc (Nat.le_refl _) _
          obtain ⟨y0, y1, y2, y3, y4, y5⟩ := acCells (heap_alloc_new wz (acO x))
          have HG : Hid (Gd B g w (wz.alloc (acO x)) ps) := HJ.out.below hal
          have HD : Hid (Calls Try.prog 16 #[np g, .int .i64 x.l, .int .i64 x.n] (wz.alloc (acO x)) fun e w' => ∃ b, e = .returned (.bool b) ∧ Hid (Gd B g w w' ps)) := g_double HG.out x.l x.n
          have HL : Hid (Calls Try.prog 18 #[np g, .int .i64 x.l, .int .i64 x.n] (wz.alloc (acO x)) fun e w' => ∃ b, e = .returned (.bool b) ∧ Hid (Gd B g w w' ps)) := g_late HG.out x.l x.n
          have HS : Hid (Calls Try.prog 20 #[np g, .int .i64 x.l, .int .i64 x.n, .int .i64 x.a, .int .u16 (x.m : Int)] (wz.alloc (acO x)) fun e w' => ∃ b, e = .returned (.bool b) ∧ Hid (Gd B g w w' ps)) := g_spoil HG.out x.l x.n x.a x.m HK.out.m16 HK.out.alo HK.out.ahi
          clear hal
          by_cases hk2 : x.k = 2
          · have e2 : (x.k == 2) = true := by simp [hk2]
            clear hk2
            go_wp2_with (go_at_call 16; refine HD.out.mono ?_; rintro e w8 ⟨b8, rfl, HN8⟩)
            go_roundw
            case rel => exact ⟨j + 1, by omega, by go_num, HN8⟩
            case measure => simp [intOf]; omega
          · have e2 : (x.k == 2) = false := by simp [hk2]
            by_cases hk3 : x.k = 3
            · have e3 : (x.k == 3) = true := by simp [hk3]
              clear hk3
              go_wp2_with (go_at_call 18; refine HL.out.mono ?_; rintro e w8 ⟨b8, rfl, HN8⟩)
              go_roundw
              case rel => exact ⟨j + 1, by omega, by go_num, HN8⟩
              case measure => simp [intOf]; omega
            · have e3 : (x.k == 3) = false := by simp [hk3]
              by_cases hk4 : x.k = 4
              · have e4 : (x.k == 4) = true := by simp [hk4]
                clear hk4
                go_wp2_with (go_at_call 20; refine HS.out.mono ?_; rintro e w8 ⟨b8, rfl, HN8⟩)
                go_roundw
                case rel => exact ⟨j + 1, by omega, by go_num, HN8⟩
                case measure => simp [intOf]; omega
              · have e4 : (x.k == 4) = false := by simp [hk4]
                go_wp2
                go_roundw
                case rel => exact ⟨j + 1, by omega, by go_num, HG⟩
                case measure => simp [intOf]; omega
        · obtain rfl : m = j := by omega
          clear hlt hj
          go_wp2
          go_loopw [10] (fun i wr => ∃ l : Nat, l ≤ 8 ∧ i = .int .i64 l ∧ Hid (Gd B g w wr ps)) (fun i _ => 8 - (intOf i).toNat)
          case atStart => exact ⟨0, Nat.zero_le _, rfl, HJ⟩
          case round =>
            obtain ⟨l, hl, rfl, HQ⟩ := hrel
            rename World => wu
            clear HJ
            by_cases hl8 : l < 8
            · go_wp2
              go_loopw [11] (fun i wr => ∃ k : Nat, k ≤ 250 ∧ i = .int .i64 k ∧ Hid (Gd B g w wr ps)) (fun i _ => 250 - (intOf i).toNat)
              case atStart => exact ⟨0, Nat.zero_le _, rfl, HQ⟩
              case round =>
                obtain ⟨k, hk, rfl, HK⟩ := hrel
                rename World => wv
                clear HQ
                by_cases hk250 : k < 250
                · rcases g_take HK.out hl8 with HT | HT
                  · have HT2 := hid_of HT
                    clear HT
                    go_wp2_with (go_at_call 14; refine HT2.out.mono ?_; rintro e w9 ⟨rfl, hw9⟩; subst w9)
                    go_roundw
                    case rel => exact ⟨l + 1, by omega, by go_num, HK⟩
                    case measure => simp [intOf]; omega
                  · have HT2 := hid_of HT
                    clear HT
                    have HOp : Hid (∀ (W : World) (y : Fv), Good ps l y.it ∧ Fb W (fun k => B ≤ k) y ∧ Gd B g w W ps → Calls Try.prog 23 #[.slice y.ao y.n y.cap] W fun e w' => ∃ ao' n' cap' bs, ∃ er : Nat, e = .returned (.tuple #[.slice ao' n' cap', .int .i64 (er : Int)]) ∧ Hid (Rd8 w' ao' n' cap' bs ∧ Gd B g w w' ps ∧ (er = 0 → ∃ (i : Nat) (p : Pt), ps[i]? = some p ∧ i % 8 = l ∧ bs = p.bs))) := fun W y h => g_open h.2.2 h.1 h.2.1
                    go_upto_region 33 with (first
                      | (go_at_call 23; refine (HOp.out _ _ HY.out).mono ?_; rintro e w9 ⟨ao9, n9, cap9, bs9, er, rfl, HO9⟩)
                      | (go_at_call 14; refine HT2.out.mono ?_; rintro e w8 ⟨y, rfl, HY⟩)
                      | fail)
                    obtain ⟨i0, hi0⟩ : ∃ i0 : Nat, er = 0 → ∃ p : Pt, ps[i0]? = some p ∧ i0 % 8 = l ∧ bs9 = p.bs := by
                      by_cases h : er = 0
                      · obtain ⟨i, p, h1⟩ := HO9.out.2.2 h
                        exact ⟨i, fun _ => ⟨p, h1⟩⟩
                      · exact ⟨0, fun h' => absurd h' h⟩
                    have HI0 : Hid (er = 0 → ∃ p : Pt, ps[i0]? = some p ∧ i0 % 8 = l ∧ bs9 = p.bs) := hi0
                    clear hi0 HOp HT2
                    by_cases her : er = 0
                    · have he1 : (((er : Nat) : Int) == 0) = true := by simp [her]
                      have he2 : (((er : Nat) : Int) != 0) = false := by simp [her]
                      have HER : Hid (er = 0) := her
                      have HL0 : Hid (l ≤ i0) := by
                        obtain ⟨p, _, h, _⟩ := HI0.out her
                        unfold Hid
                        omega
                      clear her
                      go_wp2
                      go_loopw [16, 17] (fun f i wr => ∃ (I t : Nat) (fb : Bool), i = .int .i64 I ∧ f = .bool fb ∧ Hid (I = l + 8 * t) ∧ Hid (fb = true ∨ (er = 0 ∧ I ≤ i0)) ∧ Hid (Rd8 wr ao9 n9 cap9 bs9 ∧ Gd B g w wr ps)) (fun _ i _ => n + 8 - (intOf i).toNat)
                      case atStart => exact ⟨l, 0, false, rfl, by (first | rfl | trivial), by (unfold Hid; omega), .inr ⟨HER.out, HL0.out⟩, HO9.out.1, HO9.out.2.1⟩
                      case round =>
                        obtain ⟨I, t, fb, rfl, rfl, HIt, HF, HS⟩ := hrel
                        rename World => wq
                        by_cases hIn : I < n
                        · have hI40 : I ≤ 40 := by have := HI.out.2.2.2.2.1; omega
                          have HIt8 : Hid (Hid (I + 8 = l + 8 * (t + 1))) := by have := HIt.out; unfold Hid; omega
                          have HS8 : Hid (Rd8 wq.drew ao9 n9 cap9 bs9 ∧ Gd B g w wq.drew ps) := ⟨HS.out.1.heap rfl, HS.out.2.below (bel0 wq)⟩
                          cases fb with
                          | true =>
                            go_upto_region 37 with fail
                            refine wp_region_held (S := fun U => U = wq.drew) (by kernel_rfl) ?_
                            refine held_val (i := 0) ?_ 113 rfl rfl (by kernel_rfl) (by kernel_rfl) (by kernel_rfl) (by rfl) (fun _ _ _ h => h) rfl ?_ ?_
                            rotate_left
                            · (intro w hSw; subst hSw; go_simp; first | done | with_reducible rfl)
                            simp only [Act.put, List.setIfInBounds_toArray, List.set_cons_zero, List.set_cons_succ]
                            refine held_val (i := 1) ?_ 114 rfl rfl (by kernel_rfl) (by kernel_rfl) (by kernel_rfl) (by rfl) (fun _ _ _ h => h) rfl ?_ ?_
                            rotate_left
                            · (intro w hSw; subst hSw; go_simp; first | done | with_reducible rfl)
                            simp only [Act.put, List.setIfInBounds_toArray, List.set_cons_zero, List.set_cons_succ]
                            refine held_skip (i := 2) 115 rfl rfl (by kernel_rfl) (by kernel_rfl) (by kernel_rfl) (by rfl) (fun _ _ _ h => h) rfl ?_
                            simp only [Act.put, List.setIfInBounds_toArray, List.set_cons_zero, List.set_cons_succ]
                            refine held_skip (i := 3) 116 rfl rfl (by kernel_rfl) (by kernel_rfl) (by kernel_rfl) (by rfl) (fun _ _ _ h => h) rfl ?_
                            simp only [Act.put, List.setIfInBounds_toArray, List.set_cons_zero, List.set_cons_succ]
                            refine held_skip (i := 4) 117 rfl rfl (by kernel_rfl) (by kernel_rfl) (by kernel_rfl) (by rfl) (fun _ _ _ h => h) rfl ?_
                            simp only [Act.put, List.setIfInBounds_toArray, List.set_cons_zero, List.set_cons_succ]
                            refine held_skip (i := 5) 118 rfl rfl (by kernel_rfl) (by kernel_rfl) (by kernel_rfl) (by rfl) (fun _ _ _ h => h) rfl ?_
                            simp only [Act.put, List.setIfInBounds_toArray, List.set_cons_zero, List.set_cons_succ]
                            refine held_skip (i := 6) 119 rfl rfl (by kernel_rfl) (by kernel_rfl) (by kernel_rfl) (by rfl) (fun _ _ _ h => h) rfl ?_
                            simp only [Act.put, List.setIfInBounds_toArray, List.set_cons_zero, List.set_cons_succ]
                            refine held_skip (i := 7) 120 rfl rfl (by kernel_rfl) (by kernel_rfl) (by kernel_rfl) (by rfl) (fun _ _ _ h => h) rfl ?_
                            simp only [Act.put, List.setIfInBounds_toArray, List.set_cons_zero, List.set_cons_succ]
                            refine held_skip (i := 8) 121 rfl rfl (by kernel_rfl) (by kernel_rfl) (by kernel_rfl) (by rfl) (fun _ _ _ h => h) rfl ?_
                            simp only [Act.put, List.setIfInBounds_toArray, List.set_cons_zero, List.set_cons_succ]
                            refine held_skip (i := 9) 122 rfl rfl (by kernel_rfl) (by kernel_rfl) (by kernel_rfl) (by rfl) (fun _ _ _ h => h) rfl ?_
                            simp only [Act.put, List.setIfInBounds_toArray, List.set_cons_zero, List.set_cons_succ]
                            refine held_val (i := 10) ?_ 123 rfl rfl (by kernel_rfl) (by kernel_rfl) (by kernel_rfl) (by rfl) (fun _ _ _ h => h) rfl ?_ ?_
                            rotate_left
                            · (intro w hSw; subst hSw; go_simp; first | done | with_reducible rfl)
                            simp only [Act.put, List.setIfInBounds_toArray, List.set_cons_zero, List.set_cons_succ]
                            refine held_val (i := 11) ?_ 16 rfl rfl (by kernel_rfl) (by kernel_rfl) (by kernel_rfl) (by rfl) (fun _ _ _ h => h) rfl ?_ ?_
                            rotate_left
                            · (intro w hSw; subst hSw; go_simp; first | done | with_reducible rfl)
                            simp only [Act.put, List.setIfInBounds_toArray, List.set_cons_zero, List.set_cons_succ]
                            refine wpAnyH_done (by kernel_rfl) ?_ _
                            go_wp2
                            go_roundw
                            case rel => exact ⟨I + 8, t + 1, true, by go_num, by (try trivial), HIt8.out, .inl rfl, HS8⟩
                            case measure => simp [intOf]; omega
                          | false =>
                            have hF2 : er = 0 ∧ I ≤ i0 := by rcases HF.out with h | h; cases h; exact h
                            have HF2 : Hid (er = 0 ∧ I ≤ i0) := hF2
                            clear hF2 HF
                            have hIp : I < ps.length := by rw [HI.out.2.1]; exact hIn
                            obtain ⟨bq, offq, hbq, hblq, hcq⟩ := (HI.out.1.below (HI.out.2.2.2.1 ▸ HS8.out.2.2.1)).one hIp
                            obtain ⟨pq, hpq⟩ : ∃ p, ps[I]? = some p := ⟨ps[I], List.getElem?_eq_getElem _⟩
                            have hpe : ps[I] = pq := (List.getElem?_eq_some_iff.1 hpq).2
                            rw [hpe] at hcq
                            have hr1 := ((HI.out.2.2.1 pq (List.mem_of_getElem? hpq)).1.below (HI.out.2.2.2.1 ▸ HS8.out.2.2.1)).str
                            have hr2 := HS8.out.1.str
                            have HPQ : Hid (ps[I]? = some pq ∧ (∀ b ∈ pq.bs, b < 256) ∧ ∀ b ∈ bs9, b < 256) := ⟨hpq, (HI.out.2.2.1 pq (List.mem_of_getElem? hpq)).1.byte, HS8.out.1.byte⟩
                            clear hpe hpq hIp
                            rw [hbq]
                            by_cases hbe : pq.bs = bs9
                            · rw [hbe] at hr1
                              go_upto_region 37 with fail
                              refine wp_region_held (S := fun U => U = wq.drew) (by kernel_rfl) ?_
                              refine held_val (i := 0) ?_ 113 rfl rfl (by kernel_rfl) (by kernel_rfl) (by kernel_rfl) (by rfl) (fun _ _ _ h => h) rfl ?_ ?_
                              rotate_left
                              · (intro w hSw; subst hSw; go_simp; first | done | with_reducible rfl)
                              simp only [Act.put, List.setIfInBounds_toArray, List.set_cons_zero, List.set_cons_succ]
                              refine held_val (i := 1) ?_ 114 rfl rfl (by kernel_rfl) (by kernel_rfl) (by kernel_rfl) (by rfl) (fun _ _ _ h => h) rfl ?_ ?_
                              rotate_left
                              · (intro w hSw; subst hSw; go_simp; first | done | with_reducible rfl)
                              simp only [Act.put, List.setIfInBounds_toArray, List.set_cons_zero, List.set_cons_succ]
                              refine held_val (i := 2) ?_ 115 rfl rfl (by kernel_rfl) (by kernel_rfl) (by kernel_rfl) (by rfl) (fun _ _ _ h => h) rfl ?_ ?_
                              rotate_left
                              · (intro w hSw; subst hSw; go_simp; first | done | with_reducible rfl)
                              simp only [Act.put, List.setIfInBounds_toArray, List.set_cons_zero, List.set_cons_succ]
                              refine held_val (i := 3) ?_ 116 rfl rfl (by kernel_rfl) (by kernel_rfl) (by kernel_rfl) (by rfl) (fun _ _ _ h => h) rfl ?_ ?_
                              rotate_left
                              · (intro w hSw; subst hSw; go_simp; first | done | with_reducible rfl)
                              simp only [Act.put, List.setIfInBounds_toArray, List.set_cons_zero, List.set_cons_succ]
                              refine held_val (i := 4) ?_ 117 rfl rfl (by kernel_rfl) (by kernel_rfl) (by kernel_rfl) (by rfl) (fun _ _ _ h => h) rfl ?_ ?_
                              rotate_left
                              · (intro w hSw; subst hSw; go_simp; first | done | with_reducible rfl)
                              simp only [Act.put, List.setIfInBounds_toArray, List.set_cons_zero, List.set_cons_succ]
                              refine held_val (i := 5) ?_ 118 rfl rfl (by kernel_rfl) (by kernel_rfl) (by kernel_rfl) (by rfl) (fun _ _ _ h => h) rfl ?_ ?_
                              rotate_left
                              · (intro w hSw; subst hSw; go_simp; first | done | with_reducible rfl)
                              simp only [Act.put, List.setIfInBounds_toArray, List.set_cons_zero, List.set_cons_succ]
                              refine held_val (i := 6) ?_ 119 rfl rfl (by kernel_rfl) (by kernel_rfl) (by kernel_rfl) (by rfl) (fun _ _ _ h => h) rfl ?_ ?_
                              rotate_left
                              · (intro w hSw; subst hSw; go_simp; first | done | with_reducible rfl)
                              simp only [Act.put, List.setIfInBounds_toArray, List.set_cons_zero, List.set_cons_succ]
                              refine held_val (i := 7) ?_ 120 rfl rfl (by kernel_rfl) (by kernel_rfl) (by kernel_rfl) (by rfl) (fun _ _ _ h => h) rfl ?_ ?_
                              rotate_left
                              · (intro w hSw; subst hSw; go_simp; first | done | with_reducible rfl)
                              simp only [Act.put, List.setIfInBounds_toArray, List.set_cons_zero, List.set_cons_succ]
                              refine held_val (i := 8) ?_ 121 rfl rfl (by kernel_rfl) (by kernel_rfl) (by kernel_rfl) (by rfl) (fun _ _ _ h => h) rfl ?_ ?_
                              rotate_left
                              · (intro w hSw; subst hSw; go_simp; first | done | with_reducible rfl)
                              simp only [Act.put, List.setIfInBounds_toArray, List.set_cons_zero, List.set_cons_succ]
                              refine held_val (i := 9) ?_ 122 rfl rfl (by kernel_rfl) (by kernel_rfl) (by kernel_rfl) (by rfl) (fun _ _ _ h => h) rfl ?_ ?_
                              rotate_left
                              · (intro w hSw; subst hSw; go_simp; first | done | with_reducible rfl)
                              simp only [Act.put, List.setIfInBounds_toArray, List.set_cons_zero, List.set_cons_succ]
                              refine held_val (i := 10) ?_ 123 rfl rfl (by kernel_rfl) (by kernel_rfl) (by kernel_rfl) (by rfl) (fun _ _ _ h => h) rfl ?_ ?_
                              rotate_left
                              · (intro w hSw; subst hSw; go_simp; first | done | with_reducible rfl)
                              simp only [Act.put, List.setIfInBounds_toArray, List.set_cons_zero, List.set_cons_succ]
                              refine held_val (i := 11) ?_ 16 rfl rfl (by kernel_rfl) (by kernel_rfl) (by kernel_rfl) (by rfl) (fun _ _ _ h => h) rfl ?_ ?_
                              rotate_left
                              · (intro w hSw; subst hSw; go_simp; first | done | with_reducible rfl)
                              simp only [Act.put, List.setIfInBounds_toArray, List.set_cons_zero, List.set_cons_succ]
                              refine wpAnyH_done (by kernel_rfl) ?_ _
                              go_wp2
                              go_roundw
                              case rel => exact ⟨I + 8, t + 1, true, by go_num, by (try trivial), HIt8.out, .inl rfl, HS8⟩
                              case measure => simp [intOf]; omega
                            · have hs1 : ((strOfNums (ci pq.bs)).toList == (strOfNums (ci bs9)).toList) = false := str_ne HPQ.out.2.1 HPQ.out.2.2 hbe
                              have hs2 : ¬ (strOfNums (ci pq.bs)).toList = (strOfNums (ci bs9)).toList := by simpa using hs1
                              have HNE : Hid (¬ pq.bs = bs9) := hbe
                              clear hbe
                              go_upto_region 37 with fail
                              refine wp_region_held (S := fun U => U = wq.drew) (by kernel_rfl) ?_
                              refine held_val (i := 0) ?_ 113 rfl rfl (by kernel_rfl) (by kernel_rfl) (by kernel_rfl) (by rfl) (fun _ _ _ h => h) rfl ?_ ?_
                              rotate_left
                              · (intro w hSw; subst hSw; go_simp; first | done | with_reducible rfl)
                              simp only [Act.put, List.setIfInBounds_toArray, List.set_cons_zero, List.set_cons_succ]
                              refine held_val (i := 1) ?_ 114 rfl rfl (by kernel_rfl) (by kernel_rfl) (by kernel_rfl) (by rfl) (fun _ _ _ h => h) rfl ?_ ?_
                              rotate_left
                              · (intro w hSw; subst hSw; go_simp; first | done | with_reducible rfl)
                              simp only [Act.put, List.setIfInBounds_toArray, List.set_cons_zero, List.set_cons_succ]
                              refine held_val (i := 2) ?_ 115 rfl rfl (by kernel_rfl) (by kernel_rfl) (by kernel_rfl) (by rfl) (fun _ _ _ h => h) rfl ?_ ?_
                              rotate_left
                              · (intro w hSw; subst hSw; go_simp; first | done | with_reducible rfl)
                              simp only [Act.put, List.setIfInBounds_toArray, List.set_cons_zero, List.set_cons_succ]
                              refine held_val (i := 3) ?_ 116 rfl rfl (by kernel_rfl) (by kernel_rfl) (by kernel_rfl) (by rfl) (fun _ _ _ h => h) rfl ?_ ?_
                              rotate_left
                              · (intro w hSw; subst hSw; go_simp; first | done | with_reducible rfl)
                              simp only [Act.put, List.setIfInBounds_toArray, List.set_cons_zero, List.set_cons_succ]
                              refine held_val (i := 4) ?_ 117 rfl rfl (by kernel_rfl) (by kernel_rfl) (by kernel_rfl) (by rfl) (fun _ _ _ h => h) rfl ?_ ?_
                              rotate_left
                              · (intro w hSw; subst hSw; go_simp; first | done | with_reducible rfl)
                              simp only [Act.put, List.setIfInBounds_toArray, List.set_cons_zero, List.set_cons_succ]
                              refine held_val (i := 5) ?_ 118 rfl rfl (by kernel_rfl) (by kernel_rfl) (by kernel_rfl) (by rfl) (fun _ _ _ h => h) rfl ?_ ?_
                              rotate_left
                              · (intro w hSw; subst hSw; go_simp; first | done | with_reducible rfl)
                              simp only [Act.put, List.setIfInBounds_toArray, List.set_cons_zero, List.set_cons_succ]
                              refine held_val (i := 6) ?_ 119 rfl rfl (by kernel_rfl) (by kernel_rfl) (by kernel_rfl) (by rfl) (fun _ _ _ h => h) rfl ?_ ?_
                              rotate_left
                              · (intro w hSw; subst hSw; go_simp; first | done | with_reducible rfl)
                              simp only [Act.put, List.setIfInBounds_toArray, List.set_cons_zero, List.set_cons_succ]
                              refine held_val (i := 7) ?_ 120 rfl rfl (by kernel_rfl) (by kernel_rfl) (by kernel_rfl) (by rfl) (fun _ _ _ h => h) rfl ?_ ?_
                              rotate_left
                              · (intro w hSw; subst hSw; go_simp; first | done | with_reducible rfl)
                              simp only [Act.put, List.setIfInBounds_toArray, List.set_cons_zero, List.set_cons_succ]
                              refine held_val (i := 8) ?_ 121 rfl rfl (by kernel_rfl) (by kernel_rfl) (by kernel_rfl) (by rfl) (fun _ _ _ h => h) rfl ?_ ?_
                              rotate_left
                              · (intro w hSw; subst hSw; go_simp; first | done | with_reducible rfl)
                              simp only [Act.put, List.setIfInBounds_toArray, List.set_cons_zero, List.set_cons_succ]
                              refine held_val (i := 9) ?_ 122 rfl rfl (by kernel_rfl) (by kernel_rfl) (by kernel_rfl) (by rfl) (fun _ _ _ h => h) rfl ?_ ?_
                              rotate_left
                              · (intro w hSw; subst hSw; go_simp; first | done | with_reducible rfl)
                              simp only [Act.put, List.setIfInBounds_toArray, List.set_cons_zero, List.set_cons_succ]
                              refine held_val (i := 10) ?_ 123 rfl rfl (by kernel_rfl) (by kernel_rfl) (by kernel_rfl) (by rfl) (fun _ _ _ h => h) rfl ?_ ?_
                              rotate_left
                              · (intro w hSw; subst hSw; go_simp; first | done | with_reducible rfl)
                              simp only [Act.put, List.setIfInBounds_toArray, List.set_cons_zero, List.set_cons_succ]
                              refine held_val (i := 11) ?_ 16 rfl rfl (by kernel_rfl) (by kernel_rfl) (by kernel_rfl) (by rfl) (fun _ _ _ h => h) rfl ?_ ?_
                              rotate_left
                              · (intro w hSw; subst hSw; go_simp; first | done | with_reducible rfl)
                              simp only [Act.put, List.setIfInBounds_toArray, List.set_cons_zero, List.set_cons_succ]
                              refine wpAnyH_done (by kernel_rfl) ?_ _
                              go_wp2
                              go_roundw
                              case rel => exact ⟨I + 8, t + 1, false, by go_num, by (try trivial), HIt8.out, .inr ⟨HF2.out.1, step_le HIt.out HF2.out HI0.out HPQ.out.1 HNE.out⟩, HS8⟩
                              case measure => simp [intOf]; omega
                        · have hfb : fb = true := by
                            rcases HF.out with h | h
                            · exact h
                            · obtain ⟨p, hp, _⟩ := HI0.out h.1
                              have h1 := (List.getElem?_eq_some_iff.1 hp).1
                              rw [HI.out.2.1] at h1
                              exact absurd (Nat.lt_of_le_of_lt h.2 h1) hIn
                          subst hfb
                          go_wp2
                          go_roundw
                          case rel => exact ⟨k + 1, by omega, by go_num, HS.out.2⟩
                          case measure => simp [intOf]; omega
                    · have he1 : (((er : Nat) : Int) == 0) = false := by simp [her]
                      have he2 : (((er : Nat) : Int) != 0) = true := by simp [her]
                      clear her
                      go_wp2
                      go_loopw [16, 17] (fun f i wr => ∃ (I t : Nat) (fb : Bool), i = .int .i64 I ∧ f = .bool fb ∧ Hid (I = l + 8 * t) ∧ Hid (fb = true ∨ (er = 0 ∧ I ≤ i0)) ∧ Hid (Rd8 wr ao9 n9 cap9 bs9 ∧ Gd B g w wr ps)) (fun _ i _ => n + 8 - (intOf i).toNat)
                      case atStart => exact ⟨l, 0, true, rfl, by (first | rfl | trivial), by (unfold Hid; omega), .inl rfl, HO9.out.1, HO9.out.2.1⟩
                      case round =>
                        obtain ⟨I, t, fb, rfl, rfl, HIt, HF, HS⟩ := hrel
                        rename World => wq
                        by_cases hIn : I < n
                        · have hI40 : I ≤ 40 := by have := HI.out.2.2.2.2.1; omega
                          have HIt8 : Hid (Hid (I + 8 = l + 8 * (t + 1))) := by have := HIt.out; unfold Hid; omega
                          have HS8 : Hid (Rd8 wq.drew ao9 n9 cap9 bs9 ∧ Gd B g w wq.drew ps) := ⟨HS.out.1.heap rfl, HS.out.2.below (bel0 wq)⟩
                          cases fb with
                          | true =>
                            go_upto_region 37 with fail
                            refine wp_region_held (S := fun U => U = wq.drew) (by kernel_rfl) ?_
                            refine held_val (i := 0) ?_ 113 rfl rfl (by kernel_rfl) (by kernel_rfl) (by kernel_rfl) (by rfl) (fun _ _ _ h => h) rfl ?_ ?_
                            rotate_left
                            · (intro w hSw; subst hSw; go_simp; first | done | with_reducible rfl)
                            simp only [Act.put, List.setIfInBounds_toArray, List.set_cons_zero, List.set_cons_succ]
                            refine held_val (i := 1) ?_ 114 rfl rfl (by kernel_rfl) (by kernel_rfl) (by kernel_rfl) (by rfl) (fun _ _ _ h => h) rfl ?_ ?_
                            rotate_left
                            · (intro w hSw; subst hSw; go_simp; first | done | with_reducible rfl)
                            simp only [Act.put, List.setIfInBounds_toArray, List.set_cons_zero, List.set_cons_succ]
                            refine held_skip (i := 2) 115 rfl rfl (by kernel_rfl) (by kernel_rfl) (by kernel_rfl) (by rfl) (fun _ _ _ h => h) rfl ?_
                            simp only [Act.put, List.setIfInBounds_toArray, List.set_cons_zero, List.set_cons_succ]
                            refine held_skip (i := 3) 116 rfl rfl (by kernel_rfl) (by kernel_rfl) (by kernel_rfl) (by rfl) (fun _ _ _ h => h) rfl ?_
                            simp only [Act.put, List.setIfInBounds_toArray, List.set_cons_zero, List.set_cons_succ]
                            refine held_skip (i := 4) 117 rfl rfl (by kernel_rfl) (by kernel_rfl) (by kernel_rfl) (by rfl) (fun _ _ _ h => h) rfl ?_
                            simp only [Act.put, List.setIfInBounds_toArray, List.set_cons_zero, List.set_cons_succ]
                            refine held_skip (i := 5) 118 rfl rfl (by kernel_rfl) (by kernel_rfl) (by kernel_rfl) (by rfl) (fun _ _ _ h => h) rfl ?_
                            simp only [Act.put, List.setIfInBounds_toArray, List.set_cons_zero, List.set_cons_succ]
                            refine held_skip (i := 6) 119 rfl rfl (by kernel_rfl) (by kernel_rfl) (by kernel_rfl) (by rfl) (fun _ _ _ h => h) rfl ?_
                            simp only [Act.put, List.setIfInBounds_toArray, List.set_cons_zero, List.set_cons_succ]
                            refine held_skip (i := 7) 120 rfl rfl (by kernel_rfl) (by kernel_rfl) (by kernel_rfl) (by rfl) (fun _ _ _ h => h) rfl ?_
                            simp only [Act.put, List.setIfInBounds_toArray, List.set_cons_zero, List.set_cons_succ]
                            refine held_skip (i := 8) 121 rfl rfl (by kernel_rfl) (by kernel_rfl) (by kernel_rfl) (by rfl) (fun _ _ _ h => h) rfl ?_
                            simp only [Act.put, List.setIfInBounds_toArray, List.set_cons_zero, List.set_cons_succ]
                            refine held_skip (i := 9) 122 rfl rfl (by kernel_rfl) (by kernel_rfl) (by kernel_rfl) (by rfl) (fun _ _ _ h => h) rfl ?_
                            simp only [Act.put, List.setIfInBounds_toArray, List.set_cons_zero, List.set_cons_succ]
                            refine held_val (i := 10) ?_ 123 rfl rfl (by kernel_rfl) (by kernel_rfl) (by kernel_rfl) (by rfl) (fun _ _ _ h => h) rfl ?_ ?_
                            rotate_left
                            · (intro w hSw; subst hSw; go_simp; first | done | with_reducible rfl)
                            simp only [Act.put, List.setIfInBounds_toArray, List.set_cons_zero, List.set_cons_succ]
                            refine held_val (i := 11) ?_ 16 rfl rfl (by kernel_rfl) (by kernel_rfl) (by kernel_rfl) (by rfl) (fun _ _ _ h => h) rfl ?_ ?_
                            rotate_left
                            · (intro w hSw; subst hSw; go_simp; first | done | with_reducible rfl)
                            simp only [Act.put, List.setIfInBounds_toArray, List.set_cons_zero, List.set_cons_succ]
                            refine wpAnyH_done (by kernel_rfl) ?_ _
                            go_wp2
                            go_roundw
                            case rel => exact ⟨I + 8, t + 1, true, by go_num, by (try trivial), HIt8.out, .inl rfl, HS8⟩
                            case measure => simp [intOf]; omega
                          | false =>
                            have hF2 : er = 0 ∧ I ≤ i0 := by rcases HF.out with h | h; cases h; exact h
                            have HF2 : Hid (er = 0 ∧ I ≤ i0) := hF2
                            clear hF2 HF
                            have hIp : I < ps.length := by rw [HI.out.2.1]; exact hIn
                            obtain ⟨bq, offq, hbq, hblq, hcq⟩ := (HI.out.1.below (HI.out.2.2.2.1 ▸ HS8.out.2.2.1)).one hIp
                            obtain ⟨pq, hpq⟩ : ∃ p, ps[I]? = some p := ⟨ps[I], List.getElem?_eq_getElem _⟩
                            have hpe : ps[I] = pq := (List.getElem?_eq_some_iff.1 hpq).2
                            rw [hpe] at hcq
                            have hr1 := ((HI.out.2.2.1 pq (List.mem_of_getElem? hpq)).1.below (HI.out.2.2.2.1 ▸ HS8.out.2.2.1)).str
                            have hr2 := HS8.out.1.str
                            have HPQ : Hid (ps[I]? = some pq ∧ (∀ b ∈ pq.bs, b < 256) ∧ ∀ b ∈ bs9, b < 256) := ⟨hpq, (HI.out.2.2.1 pq (List.mem_of_getElem? hpq)).1.byte, HS8.out.1.byte⟩
                            clear hpe hpq hIp
                            rw [hbq]
                            by_cases hbe : pq.bs = bs9
                            · rw [hbe] at hr1
                              go_upto_region 37 with fail
                              refine wp_region_held (S := fun U => U = wq.drew) (by kernel_rfl) ?_
                              refine held_val (i := 0) ?_ 113 rfl rfl (by kernel_rfl) (by kernel_rfl) (by kernel_rfl) (by rfl) (fun _ _ _ h => h) rfl ?_ ?_
                              rotate_left
                              · (intro w hSw; subst hSw; go_simp; first | done | with_reducible rfl)
                              simp only [Act.put, List.setIfInBounds_toArray, List.set_cons_zero, List.set_cons_succ]
                              refine held_val (i := 1) ?_ 114 rfl rfl (by kernel_rfl) (by kernel_rfl) (by kernel_rfl) (by rfl) (fun _ _ _ h => h) rfl ?_ ?_
                              rotate_left
                              · (intro w hSw; subst hSw; go_simp; first | done | with_reducible rfl)
                              simp only [Act.put, List.setIfInBounds_toArray, List.set_cons_zero, List.set_cons_succ]
                              refine held_val (i := 2) ?_ 115 rfl rfl (by kernel_rfl) (by kernel_rfl) (by kernel_rfl) (by rfl) (fun _ _ _ h => h) rfl ?_ ?_
                              rotate_left
                              · (intro w hSw; subst hSw; go_simp; first | done | with_reducible rfl)
                              simp only [Act.put, List.setIfInBounds_toArray, List.set_cons_zero, List.set_cons_succ]
                              refine held_val (i := 3) ?_ 116 rfl rfl (by kernel_rfl) (by kernel_rfl) (by kernel_rfl) (by rfl) (fun _ _ _ h => h) rfl ?_ ?_
                              rotate_left
                              · (intro w hSw; subst hSw; go_simp; first | done | with_reducible rfl)
                              simp only [Act.put, List.setIfInBounds_toArray, List.set_cons_zero, List.set_cons_succ]
                              refine held_val (i := 4) ?_ 117 rfl rfl (by kernel_rfl) (by kernel_rfl) (by kernel_rfl) (by rfl) (fun _ _ _ h => h) rfl ?_ ?_
                              rotate_left
                              · (intro w hSw; subst hSw; go_simp; first | done | with_reducible rfl)
                              simp only [Act.put, List.setIfInBounds_toArray, List.set_cons_zero, List.set_cons_succ]
                              refine held_val (i := 5) ?_ 118 rfl rfl (by kernel_rfl) (by kernel_rfl) (by kernel_rfl) (by rfl) (fun _ _ _ h => h) rfl ?_ ?_
                              rotate_left
                              · (intro w hSw; subst hSw; go_simp; first | done | with_reducible rfl)
                              simp only [Act.put, List.setIfInBounds_toArray, List.set_cons_zero, List.set_cons_succ]
                              refine held_val (i := 6) ?_ 119 rfl rfl (by kernel_rfl) (by kernel_rfl) (by kernel_rfl) (by rfl) (fun _ _ _ h => h) rfl ?_ ?_
                              rotate_left
                              · (intro w hSw; subst hSw; go_simp; first | done | with_reducible rfl)
                              simp only [Act.put, List.setIfInBounds_toArray, List.set_cons_zero, List.set_cons_succ]
                              refine held_val (i := 7) ?_ 120 rfl rfl (by kernel_rfl) (by kernel_rfl) (by kernel_rfl) (by rfl) (fun _ _ _ h => h) rfl ?_ ?_
                              rotate_left
                              · (intro w hSw; subst hSw; go_simp; first | done | with_reducible rfl)
                              simp only [Act.put, List.setIfInBounds_toArray, List.set_cons_zero, List.set_cons_succ]
                              refine held_val (i := 8) ?_ 121 rfl rfl (by kernel_rfl) (by kernel_rfl) (by kernel_rfl) (by rfl) (fun _ _ _ h => h) rfl ?_ ?_
                              rotate_left
                              · (intro w hSw; subst hSw; go_simp; first | done | with_reducible rfl)
                              simp only [Act.put, List.setIfInBounds_toArray, List.set_cons_zero, List.set_cons_succ]
                              refine held_val (i := 9) ?_ 122 rfl rfl (by kernel_rfl) (by kernel_rfl) (by kernel_rfl) (by rfl) (fun _ _ _ h => h) rfl ?_ ?_
                              rotate_left
                              · (intro w hSw; subst hSw; go_simp; first | done | with_reducible rfl)
                              simp only [Act.put, List.setIfInBounds_toArray, List.set_cons_zero, List.set_cons_succ]
                              refine held_val (i := 10) ?_ 123 rfl rfl (by kernel_rfl) (by kernel_rfl) (by kernel_rfl) (by rfl) (fun _ _ _ h => h) rfl ?_ ?_
                              rotate_left
                              · (intro w hSw; subst hSw; go_simp; first | done | with_reducible rfl)
                              simp only [Act.put, List.setIfInBounds_toArray, List.set_cons_zero, List.set_cons_succ]
                              refine held_val (i := 11) ?_ 16 rfl rfl (by kernel_rfl) (by kernel_rfl) (by kernel_rfl) (by rfl) (fun _ _ _ h => h) rfl ?_ ?_
                              rotate_left
                              · (intro w hSw; subst hSw; go_simp; first | done | with_reducible rfl)
                              simp only [Act.put, List.setIfInBounds_toArray, List.set_cons_zero, List.set_cons_succ]
                              refine wpAnyH_done (by kernel_rfl) ?_ _
                              go_wp2
                              go_roundw
                              case rel => exact ⟨I + 8, t + 1, true, by go_num, by (try trivial), HIt8.out, .inl rfl, HS8⟩
                              case measure => simp [intOf]; omega
                            · have hs1 : ((strOfNums (ci pq.bs)).toList == (strOfNums (ci bs9)).toList) = false := str_ne HPQ.out.2.1 HPQ.out.2.2 hbe
                              have hs2 : ¬ (strOfNums (ci pq.bs)).toList = (strOfNums (ci bs9)).toList := by simpa using hs1
                              have HNE : Hid (¬ pq.bs = bs9) := hbe
                              clear hbe
                              go_upto_region 37 with fail
                              refine wp_region_held (S := fun U => U = wq.drew) (by kernel_rfl) ?_
                              refine held_val (i := 0) ?_ 113 rfl rfl (by kernel_rfl) (by kernel_rfl) (by kernel_rfl) (by rfl) (fun _ _ _ h => h) rfl ?_ ?_
                              rotate_left
                              · (intro w hSw; subst hSw; go_simp; first | done | with_reducible rfl)
                              simp only [Act.put, List.setIfInBounds_toArray, List.set_cons_zero, List.set_cons_succ]
                              refine held_val (i := 1) ?_ 114 rfl rfl (by kernel_rfl) (by kernel_rfl) (by kernel_rfl) (by rfl) (fun _ _ _ h => h) rfl ?_ ?_
                              rotate_left
                              · (intro w hSw; subst hSw; go_simp; first | done | with_reducible rfl)
                              simp only [Act.put, List.setIfInBounds_toArray, List.set_cons_zero, List.set_cons_succ]
                              refine held_val (i := 2) ?_ 115 rfl rfl (by kernel_rfl) (by kernel_rfl) (by kernel_rfl) (by rfl) (fun _ _ _ h => h) rfl ?_ ?_
                              rotate_left
                              · (intro w hSw; subst hSw; go_simp; first | done | with_reducible rfl)
                              simp only [Act.put, List.setIfInBounds_toArray, List.set_cons_zero, List.set_cons_succ]
                              refine held_val (i := 3) ?_ 116 rfl rfl (by kernel_rfl) (by kernel_rfl) (by kernel_rfl) (by rfl) (fun _ _ _ h => h) rfl ?_ ?_
                              rotate_left
                              · (intro w hSw; subst hSw; go_simp; first | done | with_reducible rfl)
                              simp only [Act.put, List.setIfInBounds_toArray, List.set_cons_zero, List.set_cons_succ]
                              refine held_val (i := 4) ?_ 117 rfl rfl (by kernel_rfl) (by kernel_rfl) (by kernel_rfl) (by rfl) (fun _ _ _ h => h) rfl ?_ ?_
                              rotate_left
                              · (intro w hSw; subst hSw; go_simp; first | done | with_reducible rfl)
                              simp only [Act.put, List.setIfInBounds_toArray, List.set_cons_zero, List.set_cons_succ]
                              refine held_val (i := 5) ?_ 118 rfl rfl (by kernel_rfl) (by kernel_rfl) (by kernel_rfl) (by rfl) (fun _ _ _ h => h) rfl ?_ ?_
                              rotate_left
                              · (intro w hSw; subst hSw; go_simp; first | done | with_reducible rfl)
                              simp only [Act.put, List.setIfInBounds_toArray, List.set_cons_zero, List.set_cons_succ]
                              refine held_val (i := 6) ?_ 119 rfl rfl (by kernel_rfl) (by kernel_rfl) (by kernel_rfl) (by rfl) (fun _ _ _ h => h) rfl ?_ ?_
                              rotate_left
                              · (intro w hSw; subst hSw; go_simp; first | done | with_reducible rfl)
                              simp only [Act.put, List.setIfInBounds_toArray, List.set_cons_zero, List.set_cons_succ]
                              refine held_val (i := 7) ?_ 120 rfl rfl (by kernel_rfl) (by kernel_rfl) (by kernel_rfl) (by rfl) (fun _ _ _ h => h) rfl ?_ ?_
                              rotate_left
                              · (intro w hSw; subst hSw; go_simp; first | done | with_reducible rfl)
                              simp only [Act.put, List.setIfInBounds_toArray, List.set_cons_zero, List.set_cons_succ]
                              refine held_val (i := 8) ?_ 121 rfl rfl (by kernel_rfl) (by kernel_rfl) (by kernel_rfl) (by rfl) (fun _ _ _ h => h) rfl ?_ ?_
                              rotate_left
                              · (intro w hSw; subst hSw; go_simp; first | done | with_reducible rfl)
                              simp only [Act.put, List.setIfInBounds_toArray, List.set_cons_zero, List.set_cons_succ]
                              refine held_val (i := 9) ?_ 122 rfl rfl (by kernel_rfl) (by kernel_rfl) (by kernel_rfl) (by rfl) (fun _ _ _ h => h) rfl ?_ ?_
                              rotate_left
                              · (intro w hSw; subst hSw; go_simp; first | done | with_reducible rfl)
                              simp only [Act.put, List.setIfInBounds_toArray, List.set_cons_zero, List.set_cons_succ]
                              refine held_val (i := 10) ?_ 123 rfl rfl (by kernel_rfl) (by kernel_rfl) (by kernel_rfl) (by rfl) (fun _ _ _ h => h) rfl ?_ ?_
                              rotate_left
                              · (intro w hSw; subst hSw; go_simp; first | done | with_reducible rfl)
                              simp only [Act.put, List.setIfInBounds_toArray, List.set_cons_zero, List.set_cons_succ]
                              refine held_val (i := 11) ?_ 16 rfl rfl (by kernel_rfl) (by kernel_rfl) (by kernel_rfl) (by rfl) (fun _ _ _ h => h) rfl ?_ ?_
                              rotate_left
                              · (intro w hSw; subst hSw; go_simp; first | done | with_reducible rfl)
                              simp only [Act.put, List.setIfInBounds_toArray, List.set_cons_zero, List.set_cons_succ]
                              refine wpAnyH_done (by kernel_rfl) ?_ _
                              go_wp2
                              go_roundw
                              case rel => exact ⟨I + 8, t + 1, false, by go_num, by (try trivial), HIt8.out, .inr ⟨HF2.out.1, step_le HIt.out HF2.out HI0.out HPQ.out.1 HNE.out⟩, HS8⟩
                              case measure => simp [intOf]; omega
                        · have hfb : fb = true := by
                            rcases HF.out with h | h
                            · exact h
                            · obtain ⟨p, hp, _⟩ := HI0.out h.1
                              have h1 := (List.getElem?_eq_some_iff.1 hp).1
                              rw [HI.out.2.1] at h1
                              exact absurd (Nat.lt_of_le_of_lt h.2 h1) hIn
                          subst hfb
                          go_wp2
                          go_roundw
                          case rel => exact ⟨k + 1, by omega, by go_num, HS.out.2⟩
                          case measure => simp [intOf]; omega
                · have hk25 : k = 250 := by omega
                  subst hk25
                  go_wp2
                  go_roundw
                  case rel => exact ⟨l + 1, by omega, by go_num, HK⟩
                  case measure => simp [intOf]; omega
            · go_wp2
              go_ret
              exact ⟨rfl, by rw [HI.out.2.2.2.1]; exact HQ.out.2.1⟩

end Go.Proofs.Ytfllkhimlambhaa
