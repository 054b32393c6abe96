/- Each once, in order: the walk. -/
import Derived.Test.YtgdlejeopdipiaaOc8
import Derived.Test.YtgdlejeopdipiaaOc6
namespace Go.Proofs.Ytgdlejeopdipiaa
open Go.RowKit
set_option linter.unusedVariables false

set_option maxRecDepth 100000 in
set_option maxHeartbeats 12800000 in
theorem once_main (P0 : PkG) (a0 : Option Addr) (n0 c0 : Nat) (a1 : Option Addr) (c1 n1 : Nat) (A : List ActG) (w : World) (hA : ActsAt w a1 A) (hn : A.length = n1) (hm : n1 ≤ 150)
    (t1 : ¬ (P0.cl < 0)) (t2 : ¬ (3 < P0.cl)) (t3 : ¬ (P0.ep < 0)) (t4 : ¬ (16777215 < P0.ep)) (t5 : ¬ (P0.bo < 0)) (t6 : ¬ (16777215 < P0.bo)) :
    Calls Try.prog 5 #[pkV P0 (.slice a0 n0 c0), .slice a1 n1 c1] w fun e w' => e = .returned (.bool true) ∧ Below w.heap.size w w' := by
  have HA : Hid (ActsAt w a1 A ∧ A.length = n1) := ⟨hA, hn⟩
  have t0 : ¬ ((150 : Int) < (n1 : Int)) := by omega
  clear hA hn
  go_enter Try.func5, Try.ntmps5
  go_upto_region 5 with (first
    | (go_at_call 11; refine (alive_any _).mono ?_; rintro e w1 ⟨rfl, hb1⟩; have hP1 := (PkIn.new w P0 (.slice a0 n0 c0)).below hb1; have hB1 : Below w.heap.size w w1 := below_alloc (hb1.mono (by simp)); have i0 := hP1.c0; have i1 := hP1.c1; have i2 := hP1.c2; simp only [Nat.zero_add] at i1 i2))
  have hs1 := hB1.size
  have HP1 : Hid (PkIn w1 w.heap.size 0 P0 (.slice a0 n0 c0) ∧ w.heap.size < w1.heap.size) := ⟨hP1, by have := hb1.size; simp at this; omega⟩
  clear hP1 hb1
  go_cut [5] (fun v wx => ∃ ge g0 g1, v = .pointer (some ⟨ge, 0, none⟩) ∧ Hid (Duo wx w.heap.size ge g0 g1 P0 En0 En0) ∧ Below w.heap.size w wx)
  case first =>
    have KS : Hid (∀ W : World, Below w1.heap.size w1 W → W.cell? ⟨w.heap.size, 0, none⟩ = some (.int .i64 P0.cl) ∧ W.cell? ⟨w.heap.size, 1, none⟩ = some (.int .i64 P0.ep) ∧ W.cell? ⟨w.heap.size, 2, none⟩ = some (.int .i64 P0.bo)) := fun W hW => by
      have h := HP1.out.1.below hW
      exact ⟨h.c0, h.c1, h.c2⟩
    go_region_held (fun W => W.cell? ⟨w.heap.size, 0, none⟩ = some (.int .i64 P0.cl) ∧ W.cell? ⟨w.heap.size, 1, none⟩ = some (.int .i64 P0.ep) ∧ W.cell? ⟨w.heap.size, 2, none⟩ = some (.int .i64 P0.bo))
          (first
            | with_reducible exact KS.out _ (bel0 w1)
            | with_reducible exact KS.out _ hBa
            | with_reducible exact KS.out _ hBb
            | with_reducible exact KS.out _ (belA hBa _)
            | with_reducible exact KS.out _ (belA hBb _)
            | with_reducible exact KS.out _ (belD w1 _)
            | with_reducible exact KS.out _ (belS hBa (Nat.le_refl _) _ _)
            | with_reducible exact KS.out _ (belS hBb (Nat.le_refl _) _ _)
            | with_reducible exact KS.out _ (belS hBa hBb.size _ _)
            | with_reducible exact KS.out _ (belS hBb hBa.size _ _)
            | fail)
          (first
            | (go_at_call 9; with_reducible refine (new_any P0.cl P0.ep P0.bo false _).mono ?_; rintro e wa ⟨rfl, hKa, hba⟩; have hBa : Below w1.heap.size w1 wa := (by first | exact bel1 hba | exact below_step hBb hba | exact bel3 hBb hba | exact bel4 hba); (try (have zA := blk_new hba; obtain ⟨z0, z1, z2, z3⟩ := blk_of zA)); (try (have zA := blk_newD hba; obtain ⟨z0, z1, z2, z3⟩ := blk_of zA)); (try (have zA := blk_keep zB hba; obtain ⟨z0, z1, z2, z3⟩ := blk_of zA)))
            | (go_at_call 9; with_reducible refine (new_any P0.cl P0.ep P0.bo true _).mono ?_; rintro e wb ⟨rfl, hKb, hbb⟩; have hBb : Below w1.heap.size w1 wb := (by first | exact bel1 hbb | exact below_step hBa hbb | exact bel3 hBa hbb | exact bel4 hbb); (try (have zB := blk_new hbb; obtain ⟨y0, y1, y2, y3⟩ := blk_of zB)); (try (have zB := blk_newD hbb; obtain ⟨y0, y1, y2, y3⟩ := blk_of zB)); (try (have zB := blk_keep zA hbb; obtain ⟨y0, y1, y2, y3⟩ := blk_of zB)))
            | fail)
    all_goals go_wp2_with fail
    all_goals go_meet
    all_goals have hwa : w.heap.size ≤ wa.heap.size := Nat.le_trans hs1 hBa.size
    all_goals have hwb : w.heap.size ≤ wb.heap.size := Nat.le_trans hs1 hBb.size
    all_goals first
      | (have Ka := (hKa w.heap.size (fun _ => True) hs1).below hbb
         have Kb := hKb w.heap.size (fun _ => True) hwa
         exact ⟨_, _, _, rfl, duo_new Ka Kb (Nat.ne_of_lt (hKa w.heap.size (fun _ => True) hs1).hd.lt) hwb, hB1.trans ((belA hBb _).mono hs1)⟩)
      | (have Ka := (hKa w.heap.size (fun _ => True) hs1).below (below_step ((Below.refl _ _).alloc (Nat.le_refl _) _) hbb)
         have Kb := hKb w.heap.size (fun _ => True) (by rw [sz1]; omega)
         rw [sz1] at Kb
         exact ⟨_, _, _, rfl, duo_put Ka Kb zB (by have := (hKa w.heap.size (fun _ => True) hs1).hd.lt; simp at this; omega) hwa, hB1.trans ((belS hBb hBa.size _ _).mono hs1)⟩)
      | (have Ka := (hKa w.heap.size (fun _ => True) (by rw [sz2]; omega)).below hbb
         have Kb := hKb w.heap.size (fun _ => True) hwa
         have hlt9 := (hKa w.heap.size (fun _ => True) (by rw [sz2]; omega)).hd.lt
         rw [sz2] at Ka hlt9
         exact ⟨_, _, _, rfl, duo_put Ka Kb zB (Nat.ne_of_lt hlt9) hs1, hB1.trans ((belS hBb (Nat.le_refl _) _ _).mono hs1)⟩)
  case rest =>
    obtain ⟨ge, g0, g1, rfl, HD, hbx⟩ := hcut
    rename World => wx
    have hS0 : Str4 ((wx.alloc (.cells #[.slice none 0 0, .slice none 0 0] 51)).alloc (.cells #[.slice none 0 0, .slice none 0 0] 51)) w.heap.size wx.heap.size (wx.heap.size + 1) (fun _ => (none, 0)) (LsF [] [] 0 0) := Str4.new wx _
    have hb2 : Below wx.heap.size wx ((wx.alloc (.cells #[.slice none 0 0, .slice none 0 0] 51)).alloc (.cells #[.slice none 0 0, .slice none 0 0] 51)) := by go_grown
    have HS2 : Hid (Duo ((wx.alloc (.cells #[.slice none 0 0, .slice none 0 0] 51)).alloc (.cells #[.slice none 0 0, .slice none 0 0] 51)) w.heap.size ge g0 g1 P0 En0 En0 ∧ Str4 ((wx.alloc (.cells #[.slice none 0 0, .slice none 0 0] 51)).alloc (.cells #[.slice none 0 0, .slice none 0 0] 51)) w.heap.size wx.heap.size (wx.heap.size + 1) (fun _ => (none, 0)) (LsF [] [] 0 0) ∧ Below w.heap.size w ((wx.alloc (.cells #[.slice none 0 0, .slice none 0 0] 51)).alloc (.cells #[.slice none 0 0, .slice none 0 0] 51))) := ⟨HD.out.below hb2, hS0, below_step hbx hb2⟩
    have hq0 : w.heap.size ≤ wx.heap.size := hbx.size
    clear hS0 hb2 HD hbx
    go_upto_region 8 with fail
    generalize (wx.alloc (.cells #[.slice none 0 0, .slice none 0 0] 51)).alloc (.cells #[.slice none 0 0, .slice none 0 0] 51) = W2 at *
    obtain ⟨q6, hq6⟩ : ∃ q, q = wx.heap.size := ⟨_, rfl⟩
    rw [← hq6] at HS2 hq0 ⊢
    clear hq6
    have HS3 : Hid (St (W2.alloc (.cells #[] 30)) w.heap.size ge g0 g1 q6 (q6 + 1) P0 En0 En0 [] [] [] (.slice (some ⟨W2.heap.size, 0, none⟩) 0 0) (fun _ => (none, 0)) ∧ Below w.heap.size w (W2.alloc (.cells #[] 30))) := by
      have hb : Below W2.heap.size W2 (W2.alloc (.cells #[] 30)) := (Below.refl _ _).alloc (Nat.le_refl _) _
      refine ⟨⟨HS2.out.1.below hb, ⟨[], rfl, ⟨by simp [rowC], .inr ⟨W2.heap.size, 0, #[], rfl, HS2.out.2.2.size, heap_alloc_new W2 _, Nat.le_refl _, by simp, by simp, by simp [rowC]⟩⟩, by simp⟩, HS2.out.2.1.below hb, Inv.new P0⟩, below_step HS2.out.2.2 hb⟩
    clear HS2
    go_wp2
    go_loopw [8, 74] (fun v i wr => ∃ (k : Nat) (X Y : En) (In0 In1 : List (List Nat)) (Ws : List PkG) (R : Nat → Option Addr × Nat) (ao : Option Addr) (cap nw : Nat), k ≤ n1 ∧ i = .int .i64 k ∧ v = .slice ao nw cap ∧ Hid (St wr w.heap.size ge g0 g1 q6 (q6 + 1) P0 X Y In0 In1 Ws (.slice ao nw cap) R ∧ Ws.length = nw ∧ In0.length ≤ k ∧ In1.length ≤ k) ∧ nw ≤ 8 * k ∧ Below w.heap.size w wr) (fun _ i _ => n1 - (intOf i).toNat)
    case atStart => exact ⟨0, En0, En0, [], [], [], _, _, 0, 0, Nat.zero_le _, rfl, rfl, ⟨HS3.out.1, rfl, Nat.le_refl _, Nat.le_refl _⟩, by omega, HS3.out.2⟩
    case round =>
      clear HS3
      obtain ⟨k, X, Y, In0, In1, Ws, R, ao, cap, nw, hk, rfl, rfl, HI, hnw, hbel⟩ := hrel
      rename World => wr
      by_cases hlt : k < n1
      · obtain ⟨bk, off, rfl, -, hcA⟩ := (HA.out.1.below hbel).cell (by intro e; have := HA.out.2; rw [e] at this; simp at this; omega)
        obtain ⟨i3, i4, i5⟩ := hcA k (by have := HA.out.2; omega)
        have hX1 := HA.out.1.rd (A[k]'(by have := HA.out.2; omega)) (List.getElem_mem _)
        have hX2 := HA.out.1.sz (A[k]'(by have := HA.out.2; omega)) (List.getElem_mem _)
        clear hcA
        generalize A[k]'(by have := HA.out.2; omega) = x at *
        obtain ⟨kd, nn, ax, m, cx, bs⟩ := x
        simp only at i3 i4 i5 hX1 hX2
        have HX1 : Hid (Rd8 wr ax m cx bs ∧ bs.length = m ∧ m ≤ 140737488351232) := ⟨hX1.below hbel, hX1.len, hX2⟩
        have HX0 : Hid (Rd8 w ax m cx bs) := hX1
        clear hX1 hX2
        have e0' : decide ((k : Int) < n1) = true := by simp; omega
        go_upto_region 12 with fail
        obtain ⟨eb, heb⟩ : ∃ eb, eb = wr.heap.size := ⟨_, rfl⟩
        have HEB0 : (wr.alloc (stO kd nn (.slice ax m cx))).heap[eb]? = some (stO kd nn (.slice ax m cx)) := by rw [heb]; exact heap_alloc_new wr _
        have hbW : Below wr.heap.size wr (wr.alloc (stO kd nn (.slice ax m cx))) := (Below.refl _ _).alloc (Nat.le_refl _) _
        have HEB : Hid ((wr.alloc (stO kd nn (.slice ax m cx))).heap[eb]? = some (stO kd nn (.slice ax m cx))) := HEB0
        have HSt : Hid (St (wr.alloc (stO kd nn (.slice ax m cx))) w.heap.size ge g0 g1 q6 (q6 + 1) P0 X Y In0 In1 Ws (.slice ao nw cap) R) := HI.out.1.below hbW
        have HXW : Hid (Rd8 (wr.alloc (stO kd nn (.slice ax m cx))) ax m cx bs ∧ bs.length = m ∧ m ≤ 140737488351232) := ⟨HX1.out.1.alloc _, HX1.out.2⟩
        have HBW : Hid (Below w.heap.size w (wr.alloc (stO kd nn (.slice ax m cx)))) := below_step hbel hbW
        have HLn : Hid (Ws.length = nw ∧ In0.length ≤ k ∧ In1.length ≤ k ∧ k < n1 ∧ n1 ≤ 150) := ⟨HI.out.2.1, HI.out.2.2.1, HI.out.2.2.2, hlt, hm⟩
        have HQ6 : Hid (w.heap.size ≤ q6 ∧ w.heap.size ≤ q6 + 1) := ⟨hq0, by omega⟩
        have d0 : (wr.alloc (stO kd nn (.slice ax m cx))).cell? ⟨eb, 0, none⟩ = some (.int .i64 kd) := by rw [cell_of_row _ _ _ _ _ _ HEB0]; rfl
        clear HEB0 hbW HI hbel i3 i4 i5 HA e0' HX1
        rw [← heb]
        clear heb
        generalize wr.alloc (stO kd nn (.slice ax m cx)) = W0 at *
        go_upto_block 2 with fail
        go_cut [8] (fun v wx => ∃ (X' Y' : En) (In0' In1' : List (List Nat)) (Ws' : List PkG) (R' : Nat → Option Addr × Nat) (ao' : Option Addr) (cap' nw' : Nat), v = .slice ao' nw' cap' ∧ Hid (St wx w.heap.size ge g0 g1 q6 (q6 + 1) P0 X' Y' In0' In1' Ws' (.slice ao' nw' cap') R' ∧ Ws'.length = nw' ∧ In0'.length ≤ k + 1 ∧ In1'.length ≤ k + 1) ∧ nw' ≤ 8 * (k + 1) ∧ Below w.heap.size w wx)
        case first =>
          by_cases hr0 : (kd = 4 ∨ kd = 5) ∧ (nn < 0 ∨ (nw : Int) ≤ nn)
          · obtain ⟨hk45, hr⟩ := hr0
            rcases hk45 with k4 | k5
            · subst k4
              have d1 : W0.cell? ⟨eb, 1, none⟩ = some (.int .i64 nn) := by rw [cell_of_row _ _ _ _ _ _ HEB.out]; rfl
              have e3' : (decide (nn < 0) = true ∧ True) ∨ (decide (nn < 0) = false ∧ decide (nn ≥ (nw : Int)) = true) := by simp; omega
              rcases e3' with ⟨e1', -⟩ | ⟨e1', e2'⟩
              · go_wp2
                exact ⟨⟨k + 1, X, Y, In0, In1, Ws, R, ao, cap, nw, by have := HLn.out; omega, by go_num, rfl, ⟨HSt.out, HLn.out.1, by have := HLn.out; omega, by have := HLn.out; omega⟩, by omega, HBW.out⟩, by simp [intOf]; have := HLn.out; omega⟩
              · go_wp2
                exact ⟨⟨k + 1, X, Y, In0, In1, Ws, R, ao, cap, nw, by have := HLn.out; omega, by go_num, rfl, ⟨HSt.out, HLn.out.1, by have := HLn.out; omega, by have := HLn.out; omega⟩, by omega, HBW.out⟩, by simp [intOf]; have := HLn.out; omega⟩
            · subst k5
              have d1 : W0.cell? ⟨eb, 1, none⟩ = some (.int .i64 nn) := by rw [cell_of_row _ _ _ _ _ _ HEB.out]; rfl
              have e3' : (decide (nn < 0) = true ∧ True) ∨ (decide (nn < 0) = false ∧ decide (nn ≥ (nw : Int)) = true) := by simp; omega
              rcases e3' with ⟨e1', -⟩ | ⟨e1', e2'⟩
              · go_wp2
                exact ⟨⟨k + 1, X, Y, In0, In1, Ws, R, ao, cap, nw, by have := HLn.out; omega, by go_num, rfl, ⟨HSt.out, HLn.out.1, by have := HLn.out; omega, by have := HLn.out; omega⟩, by omega, HBW.out⟩, by simp [intOf]; have := HLn.out; omega⟩
              · go_wp2
                exact ⟨⟨k + 1, X, Y, In0, In1, Ws, R, ao, cap, nw, by have := HLn.out; omega, by go_num, rfl, ⟨HSt.out, HLn.out.1, by have := HLn.out; omega, by have := HLn.out; omega⟩, by omega, HBW.out⟩, by simp [intOf]; have := HLn.out; omega⟩
          · exact once_switch P0 a0 n0 c0 c1 n1 w ge g0 g1 W2 q6 k X Y In0 In1 Ws R ao cap nw hnw hlt hm bk off kd nn ax m cx bs HX0 eb HLn HQ6 W0 HEB HSt HXW HBW d0 _ _ _ _ _ _ _ _ _ _ _ _ _ _ _ _ _ _ _ _ _ _ _ _ _ _ _ _ _ _ _ _ _ _ _ _ _ _ _ _ _ _ _ _ _ _ _ _ _ _ _ _ _ _ _ _ _ _ _ _ _ _ _ _ _ _ _ _ _ _ _ _ _ _ _ _ _ _ _ _ _ _ _ _ _ _ _ _ _ _ _ _ _ _ _ _ _ _ _ _ _ _ _ _ _ _ _ _ _ _ _ _ _ _ _ _ _ _ _ _ _ _ _ _ _ _ _ _ _ _ _ _ _ _ _ _ _ _ _ _ _ _ _ _ _ _ _ _ _ _ _ _ _ _ _ _ _ _ _ _ _ _ _ _ _ _ _ _ _ _ _ _ _ _ _ _ _ _ _ _ _ _ _ _ _ _ _ _ _ _ _ _ _ _ _ _ _ _ _ _ _ _ _ _ _ _ _ _ _ _ _ _ _ _ _ (by assumption) (by assumption) hr0
        case rest =>
          have HL9 : Hid (k < n1) := HLn.out.2.2.2.1
          clear HEB HSt HXW HBW HLn HX0 d0
          obtain ⟨X', Y', In0', In1', Ws', R', ao', cap', nw', rfl, HI', hnw', hbel'⟩ := hcut
          rename World => wz
          clear X Y In0 In1 Ws R
          go_wp2
          go_loopw [15] (fun i wq => ∃ kk : Nat, kk ≤ 2 ∧ i = .int .i64 kk ∧ Hid (St wq w.heap.size ge g0 g1 q6 (q6 + 1) P0 X' Y' In0' In1' Ws' (.slice ao' nw' cap') R' ∧ Ws'.length = nw' ∧ In0'.length ≤ k + 1 ∧ In1'.length ≤ k + 1) ∧ Below w.heap.size w wq) (fun i _ => 2 - (intOf i).toNat)
          case atStart => exact ⟨0, by omega, rfl, HI', hbel'⟩
          case round =>
            clear HI' hbel'
            obtain ⟨kk, hkk, rfl, HJ, hbj⟩ := hrel
            rename World => wj
            by_cases hk2 : kk < 2
            · rcases (by omega : kk = 0 ∨ kk = 1) with rfl | rfl
              · have hdd := HJ.out.1.inv.d1
                have hl1 := hdd.len
                have hl2 := hdd.kn
                have hl3 := hdd.hs
                have hl4 := hdd.le
                have hl5 : In1'.length ≤ k + 1 := HJ.out.2.2.2
                have hl6 := HL9.out
                have e1' : decide ((X'.h : Int) > (In1'.length : Int)) = false := by simp; omega
                have e2' : decide ((Y'.n : Int) < (In1'.length : Int) - (X'.h : Int)) = false := by simp; omega
                have e1a : decide ((In1'.length : Int) < (X'.h : Int)) = false := by simp; omega
                have e1b : ¬ (In1'.length < X'.h) := by omega
                have e1c : ¬ (((In1'.length : Int)) < ((X'.h : Int))) := by omega
                have e2c : ¬ ((Y'.n : Int) < (In1'.length : Int) - (X'.h : Int)) := by omega
                have e3' : ((X'.h : Int) != (X'.h : Int)) = false := by simp
                have hLr : (LsF In0' In1' X'.h Y'.h 2).length = X'.h := by simp [LsF]; omega
                have HCL : Hid (∀ W, Below wj.heap.size wj W → W.cell? ⟨ge, 0, none⟩ = some (lp g0) ∧ W.cell? ⟨ge, 1, none⟩ = some (lp g1) ∧ W.cell? ⟨q6 + 1, 0, none⟩ = some (.slice (R' 2).1 X'.h (R' 2).2) ∧ W.cell? ⟨q6, 1, none⟩ = some (.slice (R' 1).1 In1'.length (R' 1).2)) := fun W hW => by
                  have h1 := HJ.out.1.below hW
                  have h2 := h1.str.hcell 2 (by decide)
                  rw [hLr] at h2
                  exact ⟨h1.duo.e0, h1.duo.e1, h2, h1.str.hcell 1 (by decide)⟩
                have K19 : Hid (∀ W, Below wj.heap.size wj W → Calls Try.prog 19 #[lp g1] W fun e w' => e = .returned (.int .i64 (Y'.n : Int)) ∧ Below wj.heap.size wj w') := fun W hW => (open_any _ _ _ _ _ _ _ _ _ _ _ (HJ.out.1.below hW).duo.k1).mono (by rintro e w' ⟨rfl, rfl⟩; exact ⟨rfl, hW⟩)
                have K20 : Hid (∀ W, Below wj.heap.size wj W → Calls Try.prog 20 #[lp g0] W fun e w' => e = .returned (.int .i64 (X'.h : Int)) ∧ Below wj.heap.size wj w') := fun W hW => (heard_any _ _ _ _ _ _ _ _ _ _ _ (HJ.out.1.below hW).duo.k0).mono (by rintro e w' ⟨rfl, rfl⟩; exact ⟨rfl, hW⟩)
                clear hdd
                go_upto_region 36 with fail
                refine once_reg0 P0 w wj ge g0 g1 q6 k n1 X' Y' In0' In1' Ws' R' ao' cap' nw' HL9 hm HJ hbj _ _ _ _ _ _ _ _ _ _ _ _ _ _ _ _ _ _ _ _ _ _ _ _ _ _ _ _ _ _ _ _ _ _ _ _ _ _ _ _ _ _ _ _ _ _ _ _ _ _ _ _ _ _ _ _ _ _ _ _ _ _ _ _ _ _ _ _ _ _ _ _ _ _ _ _ _ _ _ _ _ _ _ _ _ _ _ _ _ _ _ _ _ _ _ _ _ _ _ _ _ _ _ _ _ _ _ _ _ _ _ _ _ _ _ _ _ _ _ _ _ _ _ _ _ _ _ _ _ _ _ _ _ _ _ _ _ _ _ _ _ _ _ _ _ _ _ _ _ _ _ _ _ _ _ _ _ _ _ _ _ _ _ _ _ _ _ _ _ _ _ _ _ _ _ _ _ _ _ _ _ _ _ _ _ _ _ _ _ _ _ _ _ _ _ _ _ _ _ _ _ _ _ _ _ _ _ _ _ _ _ _ _ _ _ _ _ _ _ _ _ _ _ _ _ _ ?_
                intro x175 x176 x177 x178 x179 x180 x181 x182 x183 x184 x185 x186 x187 x188 x189 x190 x191 x192 x193 x194 x195 x196 x197 x198 x199 x200 x201 x202 x203 x204 x205 x206 x207 x208 x209 w' hSw'
                obtain ⟨c1, c2, c3, c4⟩ := HCL.out w' hSw'
                have HJ' := HJ.out.1.below hSw'
                have HB' : Hid (Below w.heap.size w w') := below_step hbj hSw'
                go_wp2
                have HJ9 : Hid (St w' w.heap.size ge g0 g1 q6 (q6 + 1) P0 X' Y' In0' In1' Ws' (.slice ao' nw' cap') R' ∧ Ws'.length = nw' ∧ In0'.length ≤ k + 1 ∧ In1'.length ≤ k + 1) := ⟨HJ', HJ.out.2⟩
                clear HJ' HCL K19 K20 hSw' c1 c2 c3 c4 e1' e1a e1b e1c e2c e2' e3' HJ hbj
                go_loopw [215] (fun i wq => ∃ t : Nat, t ≤ X'.h ∧ i = .int .i64 t ∧ Hid (St wq w.heap.size ge g0 g1 q6 (q6 + 1) P0 X' Y' In0' In1' Ws' (.slice ao' nw' cap') R' ∧ Ws'.length = nw' ∧ In0'.length ≤ k + 1 ∧ In1'.length ≤ k + 1) ∧ Below w.heap.size w wq) (fun i _ => X'.h - (intOf i).toNat)
                case atStart => exact ⟨0, by omega, rfl, HJ9, HB'.out⟩
                case round =>
                  clear HJ9 HB'
                  obtain ⟨t, ht, rfl, HK, hbk⟩ := hrel
                  rename World => wk
                  by_cases htl : t < X'.h
                  · have q1 : t < In1'.length := by omega
                    have hr1 := (HK.out.1.str.row 1 (by decide)).rd
                    have hr2 := (HK.out.1.str.row 2 (by decide)).rd
                    have q2 : t < ((LsF In0' In1' X'.h Y'.h 1).map sv).length := by rw [List.length_map]; exact q1
                    have q3 : t < ((LsF In0' In1' X'.h Y'.h 2).map sv).length := by rw [List.length_map, hLr]; exact htl
                    obtain ⟨b1, o1, z1, -, y1⟩ := hr1.at (t := t) q2
                    obtain ⟨b2, o2, z2, -, y2⟩ := hr2.at (t := t) q3
                    have v1 : wk.cell? ⟨b1, o1 + t, none⟩ = some (sv In1'[t]) := by have := y1 t q2; simpa [LsF] using this
                    have v2 : wk.cell? ⟨b2, o2 + t, none⟩ = some (sv In1'[t]) := by have := y2 t q3; simpa [LsF] using this
                    have c4 : wk.cell? ⟨q6, 1, none⟩ = some (.slice (some ⟨b1, o1, none⟩) In1'.length (R' 1).2) := by rw [← z1]; exact HK.out.1.str.hcell 1 (by decide)
                    clear y1 y2 hr1 hr2 q2 q3
                    generalize In1'[t] = bt at v1 v2
                    simp only [sv] at v1 v2
                    rw [z2]
                    clear z1 z2
                    go_wp2
                    go_roundw
                    case rel => exact ⟨t + 1, by omega, by go_num, HK, hbk⟩
                    case measure => simp [intOf]; omega
                  · obtain rfl : t = X'.h := by omega
                    go_wp2
                    go_roundw
                    case rel => exact ⟨1, by omega, by go_num, HK, hbk⟩
                    case measure => simp [intOf]
              · have hdd := HJ.out.1.inv.d0
                have hl1 := hdd.len
                have hl2 := hdd.kn
                have hl3 := hdd.hs
                have hl4 := hdd.le
                have hl5 : In0'.length ≤ k + 1 := HJ.out.2.2.1
                have hl6 := HL9.out
                have e1' : decide ((Y'.h : Int) > (In0'.length : Int)) = false := by simp; omega
                have e2' : decide ((X'.n : Int) < (In0'.length : Int) - (Y'.h : Int)) = false := by simp; omega
                have e1a : decide ((In0'.length : Int) < (Y'.h : Int)) = false := by simp; omega
                have e1b : ¬ (In0'.length < Y'.h) := by omega
                have e1c : ¬ (((In0'.length : Int)) < ((Y'.h : Int))) := by omega
                have e2c : ¬ ((X'.n : Int) < (In0'.length : Int) - (Y'.h : Int)) := by omega
                have e3' : ((Y'.h : Int) != (Y'.h : Int)) = false := by simp
                have hLr : (LsF In0' In1' X'.h Y'.h 3).length = Y'.h := by simp [LsF]; omega
                have HCL : Hid (∀ W, Below wj.heap.size wj W → W.cell? ⟨ge, 1, none⟩ = some (lp g1) ∧ W.cell? ⟨ge, 0, none⟩ = some (lp g0) ∧ W.cell? ⟨q6 + 1, 1, none⟩ = some (.slice (R' 3).1 Y'.h (R' 3).2) ∧ W.cell? ⟨q6, 0, none⟩ = some (.slice (R' 0).1 In0'.length (R' 0).2)) := fun W hW => by
                  have h1 := HJ.out.1.below hW
                  have h2 := h1.str.hcell 3 (by decide)
                  rw [hLr] at h2
                  exact ⟨h1.duo.e1, h1.duo.e0, h2, h1.str.hcell 0 (by decide)⟩
                have K19 : Hid (∀ W, Below wj.heap.size wj W → Calls Try.prog 19 #[lp g0] W fun e w' => e = .returned (.int .i64 (X'.n : Int)) ∧ Below wj.heap.size wj w') := fun W hW => (open_any _ _ _ _ _ _ _ _ _ _ _ (HJ.out.1.below hW).duo.k0).mono (by rintro e w' ⟨rfl, rfl⟩; exact ⟨rfl, hW⟩)
                have K20 : Hid (∀ W, Below wj.heap.size wj W → Calls Try.prog 20 #[lp g1] W fun e w' => e = .returned (.int .i64 (Y'.h : Int)) ∧ Below wj.heap.size wj w') := fun W hW => (heard_any _ _ _ _ _ _ _ _ _ _ _ (HJ.out.1.below hW).duo.k1).mono (by rintro e w' ⟨rfl, rfl⟩; exact ⟨rfl, hW⟩)
                clear hdd
                go_upto_region 36 with fail
                refine once_reg1 P0 w wj ge g0 g1 q6 k n1 X' Y' In0' In1' Ws' R' ao' cap' nw' HL9 hm HJ hbj _ _ _ _ _ _ _ _ _ _ _ _ _ _ _ _ _ _ _ _ _ _ _ _ _ _ _ _ _ _ _ _ _ _ _ _ _ _ _ _ _ _ _ _ _ _ _ _ _ _ _ _ _ _ _ _ _ _ _ _ _ _ _ _ _ _ _ _ _ _ _ _ _ _ _ _ _ _ _ _ _ _ _ _ _ _ _ _ _ _ _ _ _ _ _ _ _ _ _ _ _ _ _ _ _ _ _ _ _ _ _ _ _ _ _ _ _ _ _ _ _ _ _ _ _ _ _ _ _ _ _ _ _ _ _ _ _ _ _ _ _ _ _ _ _ _ _ _ _ _ _ _ _ _ _ _ _ _ _ _ _ _ _ _ _ _ _ _ _ _ _ _ _ _ _ _ _ _ _ _ _ _ _ _ _ _ _ _ _ _ _ _ _ _ _ _ _ _ _ _ _ _ _ _ _ _ _ _ _ _ _ _ _ _ _ _ _ _ _ _ _ _ _ _ _ _ ?_
                intro x175 x176 x177 x178 x179 x180 x181 x182 x183 x184 x185 x186 x187 x188 x189 x190 x191 x192 x193 x194 x195 x196 x197 x198 x199 x200 x201 x202 x203 x204 x205 x206 x207 x208 x209 w' hSw'
                obtain ⟨c1, c2, c3, c4⟩ := HCL.out w' hSw'
                have HJ' := HJ.out.1.below hSw'
                have HB' : Hid (Below w.heap.size w w') := below_step hbj hSw'
                go_wp2
                have HJ9 : Hid (St w' w.heap.size ge g0 g1 q6 (q6 + 1) P0 X' Y' In0' In1' Ws' (.slice ao' nw' cap') R' ∧ Ws'.length = nw' ∧ In0'.length ≤ k + 1 ∧ In1'.length ≤ k + 1) := ⟨HJ', HJ.out.2⟩
                clear HJ' HCL K19 K20 hSw' c1 c2 c3 c4 e1' e1a e1b e1c e2c e2' e3' HJ hbj
                go_loopw [215] (fun i wq => ∃ t : Nat, t ≤ Y'.h ∧ i = .int .i64 t ∧ Hid (St wq w.heap.size ge g0 g1 q6 (q6 + 1) P0 X' Y' In0' In1' Ws' (.slice ao' nw' cap') R' ∧ Ws'.length = nw' ∧ In0'.length ≤ k + 1 ∧ In1'.length ≤ k + 1) ∧ Below w.heap.size w wq) (fun i _ => Y'.h - (intOf i).toNat)
                case atStart => exact ⟨0, by omega, rfl, HJ9, HB'.out⟩
                case round =>
                  clear HJ9 HB'
                  obtain ⟨t, ht, rfl, HK, hbk⟩ := hrel
                  rename World => wk
                  by_cases htl : t < Y'.h
                  · have q1 : t < In0'.length := by omega
                    have hr1 := (HK.out.1.str.row 0 (by decide)).rd
                    have hr2 := (HK.out.1.str.row 3 (by decide)).rd
                    have q2 : t < ((LsF In0' In1' X'.h Y'.h 0).map sv).length := by rw [List.length_map]; exact q1
                    have q3 : t < ((LsF In0' In1' X'.h Y'.h 3).map sv).length := by rw [List.length_map, hLr]; exact htl
                    obtain ⟨b1, o1, z1, -, y1⟩ := hr1.at (t := t) q2
                    obtain ⟨b2, o2, z2, -, y2⟩ := hr2.at (t := t) q3
                    have v1 : wk.cell? ⟨b1, o1 + t, none⟩ = some (sv In0'[t]) := by have := y1 t q2; simpa [LsF] using this
                    have v2 : wk.cell? ⟨b2, o2 + t, none⟩ = some (sv In0'[t]) := by have := y2 t q3; simpa [LsF] using this
                    have c4 : wk.cell? ⟨q6, 0, none⟩ = some (.slice (some ⟨b1, o1, none⟩) In0'.length (R' 0).2) := by rw [← z1]; exact HK.out.1.str.hcell 0 (by decide)
                    clear y1 y2 hr1 hr2 q2 q3
                    generalize In0'[t] = bt at v1 v2
                    simp only [sv] at v1 v2
                    rw [z2]
                    clear z1 z2
                    go_wp2
                    go_roundw
                    case rel => exact ⟨t + 1, by omega, by go_num, HK, hbk⟩
                    case measure => simp [intOf]; omega
                  · obtain rfl : t = Y'.h := by omega
                    go_wp2
                    go_roundw
                    case rel => exact ⟨2, by omega, by go_num, HK, hbk⟩
                    case measure => simp [intOf]
            · obtain rfl : kk = 2 := by omega
              go_wp2
              go_roundw
              case rel => exact ⟨k + 1, X', Y', In0', In1', Ws', R', ao', cap', nw', by have := HL9.out; omega, by go_num, rfl, HJ, by omega, hbj⟩
              case measure => simp [intOf]; have := HL9.out; omega
      · obtain rfl : k = n1 := by omega
        have e0' : decide ((k : Int) < k) = false := by simp
        go_wp2
        go_ret
        exact ⟨rfl, hbel⟩

end Go.Proofs.Ytgdlejeopdipiaa
