/- Who owns is alone: the walk. -/
import Derived.Test.YtngfcnbcljcdfaaTm
import Derived.Test.YtngfcnbcljcdfaaOa
namespace Go.Proofs.Ytngfcnbcljcdfaa
open Go.RowKit
set_option linter.unusedVariables false

theorem cpn {T : Nat → Nat} {c p : Nat} (hc : c < 4) (hp : p < 6) : ((cpI T c p : Nat) : Int) = (cp T c p : Nat) := by rw [cpI_nat hc hp]
theorem own_n {T : Nat → Nat} {c p : Nat} (hc : c < 4) (hp : p < 6) : ((owI T c p : Nat) : Int) = (ow T c p : Nat) := by rw [owI_nat hc hp]

set_option maxRecDepth 100000 in
set_option maxHeartbeats 6400000 in
theorem alone_main (a0 : Option Addr) (c0 n0 : Nat) (A : List ActG) (w : World) (hA : ActsAt w a0 A) (hn : A.length = n0) (t0 : ¬ ((100 : Int) < (n0 : Int))) :
    Calls Try.prog 5 #[.slice a0 n0 c0] w fun e w' => e = .returned (.bool true) ∧ Below w.heap.size w w' := by
  have HA : Hid (ActsAt w a0 A ∧ A.length = n0) := ⟨hA, hn⟩
  clear hA hn
  go_enter Try.func5, Try.ntmps5
  go_wp2_with (first
    | (go_at_call 8; refine (new_any _).mono ?_; rintro e w2 ⟨rfl, H2, hb2⟩; have hB2 : Below w.heap.size w w2 := below_step hb1 hb2)
    | (go_at_call 9; refine (alive_any _).mono ?_; rintro e w1 ⟨rfl, hb1⟩))
  have hs1 := hb1.size
  have HT2 : Hid (Tb w2 w1.heap.size (fun _ => 0)) := H2
  clear H2
  go_loopw [17] (fun i wr => ∃ (k : Nat) (T : Nat → Nat), k ≤ n0 ∧ i = .int .i64 k ∧ Hid (Tb wr w1.heap.size T ∧ Sole T) ∧ Below w.heap.size w wr) (fun i _ => n0 - (intOf i).toNat)
  case atStart => exact ⟨0, _, Nat.zero_le _, rfl, ⟨HT2.out, Sole.new⟩, hB2⟩
  case round =>
    obtain ⟨k, T, hk, rfl, HI, hbel⟩ := hrel
    rename World => wr
    by_cases hlt : k < n0
    · obtain ⟨bk, off, rfl, -, hcA⟩ := (HA.out.1.below hbel) (by intro e; have := HA.out.2; rw [e] at this; simp at this; omega)
      obtain ⟨i0, i1, i2, i3, i4⟩ := hcA k (by have := HA.out.2; omega)
      clear hcA
      generalize A[k]'(by have := HA.out.2; omega) = x at *
      obtain ⟨kd, xc, xp, xa, xb⟩ := x
      simp only at i0 i1 i2 i3 i4
      have HTa : Hid (∀ o : Obj, Tb (wr.alloc o) w1.heap.size T) := fun o => HI.out.1.below ((Below.refl _ _).alloc (Nat.le_refl _) o)
      have hBa : ∀ o : Obj, Below w.heap.size w (wr.alloc o) := fun o => below_step hbel ((Below.refl _ _).alloc (Nat.le_refl _) o)
      go_upto_region 9 with fail
      have HBa : Hid (Below w.heap.size w (wr.alloc (.cells #[.int .i64 kd, .int .i64 xc, .int .i64 xp, .int .i64 xa, .int .i64 xb] 32))) := hBa _
      have HTb : Hid (Tb (wr.alloc (.cells #[.int .i64 kd, .int .i64 xc, .int .i64 xp, .int .i64 xa, .int .i64 xb] 32)) w1.heap.size T) := HTa.out _
      clear hBa HTa
      go_upto_block 2 with fail
      go_cut [] (fun wx => ∃ T' : Nat → Nat, Hid (Tb wx w1.heap.size T' ∧ Sole T') ∧ Below w.heap.size w wx)
      case first =>
        by_cases k0 : kd = 0
        · subst k0
          go_wp2_with (first
            | (go_at_call 10; refine (grant_any _ _ _ HTb.out xc xp xa xb _ rfl).mono ?_; rintro e w3 ⟨rfl, H3, o3⟩))
          go_meet
          exact ⟨_, ⟨H3, HI.out.2.gT _ _ _ _⟩, HBa.out.trans (o3.below hs1 (by have := HBa.out.size; omega))⟩
        · by_cases k1 : kd = 1
          · subst k1
            clear k0
            go_wp2_with (first
              | (go_at_call 15; refine (drop_any _ _ _ HTb.out xc xp xa xb).mono ?_; rintro e w3 ⟨rfl, H3, o3⟩))
            go_meet
            exact ⟨_, ⟨H3, HI.out.2.dT _ _ _ _⟩, HBa.out.trans (o3.below hs1 (by have := HBa.out.size; omega))⟩
          · by_cases k2 : kd = 2
            · subst k2
              clear k0 k1
              go_wp2_with (first
                | (go_at_call 17; refine (clear_any _ _ _ HTb.out xc).mono ?_; rintro e w3 ⟨rfl, H3, o3⟩))
              go_meet
              exact ⟨_, ⟨H3, HI.out.2.cT _⟩, HBa.out.trans (o3.below hs1 (by have := HBa.out.size; omega))⟩
            · have e0 : (kd == 0) = false := by simpa using k0
              have e1 : (kd == 1) = false := by simpa using k1
              have e2 : (kd == 2) = false := by simpa using k2
              clear k0 k1 k2
              go_wp2
              go_meet
              exact ⟨T, ⟨HTb.out, HI.out.2⟩, HBa.out⟩
      case rest =>
        obtain ⟨T', HT, hbx⟩ := hcut
        clear HTb HBa HI
        have HS : Hid (Sole T') := HT.out.2
        have HL : Hid (∀ i, T' i < 16) := HT.out.1.le
        go_wp2
        go_loopw [6] (fun i wq => ∃ p : Nat, p ≤ 6 ∧ i = .int .i64 p ∧ Hid (Tb wq w1.heap.size T') ∧ Below w.heap.size w wq) (fun i _ => 6 - (intOf i).toNat)
        case atStart => exact ⟨0, by omega, rfl, HT.out.1, hbx⟩
        case round =>
          clear HT hbx
          obtain ⟨p, hp, rfl, HT, hbx⟩ := hrel
          by_cases hp6 : p < 6
          · have e6 : decide ((p : Int) < 6) = true := by simp; omega
            go_wp2
            go_loopw [7] (fun i wq => ∃ c : Nat, c ≤ 4 ∧ i = .int .i64 c ∧ Hid (Tb wq w1.heap.size T') ∧ Below w.heap.size w wq) (fun i _ => 4 - (intOf i).toNat)
            case atStart => exact ⟨0, by omega, rfl, HT, hbx⟩
            case round =>
              clear HT hbx
              obtain ⟨c, hc, rfl, HT, hbx⟩ := hrel
              by_cases hc4 : c < 4
              · have e4 : decide ((c : Int) < 4) = true := by simp; omega
                have f1 : bits .andNot .i64 ((ow T' c p : Nat) : Int) ((cp T' c p : Nat) : Int) = 0 := by
                  have f1 := bnot (HL.out (c * 12 + p * 2 + 1)) (HL.out (c * 12 + p * 2))
                  rw [show sub (T' (c * 12 + p * 2 + 1)) (T' (c * 12 + p * 2)) = 0 from HS.out.sub0 hc4 hp6] at f1
                  exact f1
                go_wp2_with (first
                  | (go_at_call 21; refine (own_is _ _ _ HT.out c p _ (own_n hc4 hp6)).mono ?_; rintro e wy ⟨rfl, hw⟩; subst wy)
                  | (go_at_call 19; refine (copies_is _ _ _ HT.out c p _ (cpn hc4 hp6)).mono ?_; rintro e wy ⟨rfl, hw⟩; subst wy))
                go_loopw [8] (fun i wq => ∃ d : Nat, d ≤ 4 ∧ i = .int .i64 d ∧ Hid (Tb wq w1.heap.size T') ∧ Below w.heap.size w wq) (fun i _ => 4 - (intOf i).toNat)
                case atStart => exact ⟨0, by omega, rfl, HT, hbx⟩
                case round =>
                  clear HT hbx
                  obtain ⟨d, hd, rfl, HT, hbx⟩ := hrel
                  by_cases hd4 : d < 4
                  · by_cases hcd : c = d
                    · have e1 : ((c : Int) != (d : Int)) = false := by simp; omega
                      clear hcd
                      go_wp2
                      go_roundw
                      case rel => exact ⟨d + 1, by omega, by go_num, HT, hbx⟩
                      case measure => simp [intOf]; omega
                    · have e1 : ((c : Int) != (d : Int)) = true := by simp; omega
                      have f2 : bits .and .i64 ((ow T' c p : Nat) : Int) ((cp T' d p : Nat) : Int) = 0 := by
                        have f1 := band (HL.out (c * 12 + p * 2 + 1)) (HL.out (d * 12 + p * 2))
                        rw [show (T' (c * 12 + p * 2 + 1)) &&& (T' (d * 12 + p * 2)) = 0 from HS.out.and0 hc4 hd4 hp6 hcd] at f1
                        exact f1
                      clear hcd
                      go_wp2_with (first
                        | (go_at_call 21; refine (own_is _ _ _ HT.out c p _ (own_n hc4 hp6)).mono ?_; rintro e wy ⟨rfl, hw⟩; subst wy)
                        | (go_at_call 19; refine (copies_is _ _ _ HT.out d p _ (cpn hd4 hp6)).mono ?_; rintro e wy ⟨rfl, hw⟩; subst wy))
                      go_roundw
                      case rel => exact ⟨d + 1, by omega, by go_num, HT, hbx⟩
                      case measure => simp [intOf]; omega
                  · clear f1
                    go_wp2
                    go_roundw
                    case rel => exact ⟨c + 1, by omega, by go_num, HT, hbx⟩
                    case measure => simp [intOf]; omega
              · go_wp2
                go_roundw
                case rel => exact ⟨p + 1, by omega, by go_num, HT, hbx⟩
                case measure => simp [intOf]; omega
          · go_wp2
            go_roundw
            case rel => exact ⟨k + 1, T', by omega, by go_num, ⟨HT.out, HS.out⟩, hbx⟩
            case measure => simp [intOf]; omega
    · go_wp2
      go_ret
      exact ⟨rfl, hbel⟩

end Go.Proofs.Ytngfcnbcljcdfaa
