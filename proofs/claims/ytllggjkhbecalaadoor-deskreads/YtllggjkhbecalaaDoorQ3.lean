/- Reserved, Add, Remove of package queue, walked. -/
import Derived.Test.YtllggjkhbecalaaDoorQ2
namespace Go.Proofs.YtllggjkhbecalaaDoor
open Go.RowKit Go.Maps
set_option linter.unusedVariables false
set_option maxRecDepth 8000

theorem or16 : ∀ a < 16, ∀ b < 16, bits .or .i64 ((a : Nat) : Int) ((b : Nat) : Int) = ((a ||| b : Nat) : Int) ∧ a ||| b < 16 := by decide +kernel

/-- A want that can be. -/
def Rt (x : Wt) : Prop := (0 ≤ x.c ∧ x.c < 4) ∧ 0 ≤ x.p ∧ x.p < 6 ∧ 0 ≤ x.o ∧ x.o < 4

def rsB (y : Wt) (c p : Int) : Bool := !(y.c == c) && (y.p == p && y.wr)
def resN (c p : Int) : List Wt → Nat
  | [] => 0
  | y :: L => if rsB y c p then 2 ^ y.o.toNat ||| resN c p L else resN c p L

theorem resN_snoc (c p : Int) (L : List Wt) (y : Wt) : resN c p (L ++ [y]) = if rsB y c p then resN c p L ||| 2 ^ y.o.toNat else resN c p L := by
  induction L with
  | nil => simp [resN]
  | cons z L ih =>
    simp only [List.cons_append, resN, ih]
    split
    · split
      · rw [Nat.or_assoc]
      · rfl
    · rfl

theorem pow16 {o : Int} (h0 : 0 ≤ o) (h4 : o < 4) : 2 ^ o.toNat < 16 := by
  obtain ⟨k, rfl⟩ : ∃ k : Nat, o = k := ⟨o.toNat, by omega⟩
  rcases (by omega : k = 0 ∨ k = 1 ∨ k = 2 ∨ k = 3) with rfl | rfl | rfl | rfl <;> decide

theorem resN_lt (c p : Int) : ∀ (L : List Wt), (∀ x ∈ L, Rt x) → resN c p L < 16
  | [], _ => by simp [resN]
  | y :: L, h => by
    have ih := resN_lt c p L fun x hx => h x (by simp [hx])
    have hy := h y (by simp)
    simp only [resN]
    split
    · exact (or16 _ (pow16 hy.2.2.2.1 hy.2.2.2.2) _ ih).2
    · exact ih

set_option maxHeartbeats 1600000 in
theorem reserved_any (w : World) (A : Nat → Prop) (q : Nat) (L : List Wt) (C : Cl) (n : Nat) (H : Qw w A q L C n) (hl : L.length ≤ 1000000) (hR : ∀ x ∈ L, Rt x) (c p : Int) :
    Calls Tryd.prog 67 #[qp q, .int .i64 c, .int .i64 p] w fun e w' => e = .returned (.int .i64 ((resN c p L : Nat) : Int)) ∧ Below w.heap.size w w' := by
  obtain ⟨ao, cap, b, H⟩ := H
  have h0 := H.c0
  obtain ⟨m, hm⟩ : ∃ m, L.length = m := ⟨_, rfl⟩
  have HM : Hid (RdR wtC w ao cap L ∧ L.length = m ∧ ∀ x ∈ L, Rt x) := ⟨H.own.rd, hm, hR⟩
  rw [hm] at h0 hl
  clear hm H hR
  go_enter Tryd.func67, Tryd.ntmps67
  go_wp2
  go_loopw [7, 15] (fun v i wr => ∃ (k : Nat), k ≤ m ∧ i = .int .i64 k ∧ v = .int .i64 ((resN c p (L.take k) : Nat) : Int) ∧ Below w.heap.size w wr) (fun _ i _ => m - (intOf i).toNat)
  case atStart => exact ⟨0, Nat.zero_le _, rfl, rfl, Below.refl _ _⟩
  case round =>
    obtain ⟨k, hk, rfl, rfl, hbel⟩ := hrel
    rename World => wr
    by_cases hlt : k < m
    · have hkl : k < L.length := by have := HM.out.2.1; omega
      obtain ⟨bk, off, rfl, -, hcc⟩ := (HM.out.1.below hbel).at wtE hkl
      obtain ⟨z0, z1, z2, z3⟩ := wtIn _ _ _ _ hcc
      have HS : Hid (resN c p (L.take (k + 1)) = if rsB L[k] c p then resN c p (L.take k) ||| 2 ^ L[k].o.toNat else resN c p (L.take k)) := by
        show _ = _
        rw [List.take_succ_eq_append_getElem hkl, resN_snoc]
      have hlt16 : resN c p (L.take k) < 16 := resN_lt c p _ fun x hx => HM.out.2.2 x (List.mem_of_mem_take hx)
      have hrt : Rt L[k] := HM.out.2.2 _ (List.getElem_mem _)
      clear hcc
      generalize L[k] = y at *
      generalize resN c p (L.take k) = N0 at *
      generalize hN1 : resN c p (L.take (k + 1)) = N1 at *
      have HN1 : Hid (resN c p (L.take (k + 1)) = N1) := hN1
      clear hN1
      obtain ⟨yc, yp, yo, yw⟩ := y
      obtain ⟨-, -, -, ho0, ho4⟩ := hrt
      simp only at z0 z1 z2 z3 ho0 ho4
      have e0' : decide ((k : Int) < m) = true := by simp; omega
      have HT : Hid (rsB ⟨yc, yp, yo, yw⟩ c p = (!(yc == c) && (yp == p && yw))) := rfl
      cases h1 : (yc == c)
      · have h1' : (yc != c) = true := by simp [bne, h1]
        cases h2 : (yp == p)
        · go_wp2
          go_roundw
          case rel => exact ⟨k + 1, by omega, by go_num, by rw [HN1.out, HS.out, HT.out, h1, h2]; rfl, hbel.alloc hbel.size _⟩
          case measure => simp [intOf]; omega
        · cases yw
          · go_wp2
            go_roundw
            case rel => exact ⟨k + 1, by omega, by go_num, by rw [HN1.out, HS.out, HT.out, h1, h2]; rfl, hbel.alloc hbel.size _⟩
            case measure => simp [intOf]; omega
          · obtain ⟨j, rfl⟩ : ∃ j : Nat, yo = j := ⟨yo.toNat, by omega⟩
            have HF : Hid (N1 = N0 ||| 2 ^ j) := by
              have := HS.out
              rw [HT.out, h1, h2] at this
              exact this.trans (if_pos rfl)
            clear HS HT
            rcases (by omega : j = 0 ∨ j = 1 ∨ j = 2 ∨ j = 3) with rfl | rfl | rfl | rfl
            · have hor : bits .or .i64 (N0 : Int) 1 = ((N0 ||| 1 : Nat) : Int) := (or16 N0 hlt16 1 (by decide)).1
              go_wp2
              go_roundw
              case rel => exact ⟨k + 1, by omega, by go_num, by rw [HN1.out, HF.out], hbel.alloc hbel.size _⟩
              case measure => simp [intOf]; omega
            · have hor : bits .or .i64 (N0 : Int) 2 = ((N0 ||| 2 : Nat) : Int) := (or16 N0 hlt16 2 (by decide)).1
              go_wp2
              go_roundw
              case rel => exact ⟨k + 1, by omega, by go_num, by rw [HN1.out, HF.out], hbel.alloc hbel.size _⟩
              case measure => simp [intOf]; omega
            · have hor : bits .or .i64 (N0 : Int) 4 = ((N0 ||| 4 : Nat) : Int) := (or16 N0 hlt16 4 (by decide)).1
              go_wp2
              go_roundw
              case rel => exact ⟨k + 1, by omega, by go_num, by rw [HN1.out, HF.out], hbel.alloc hbel.size _⟩
              case measure => simp [intOf]; omega
            · have hor : bits .or .i64 (N0 : Int) 8 = ((N0 ||| 8 : Nat) : Int) := (or16 N0 hlt16 8 (by decide)).1
              go_wp2
              go_roundw
              case rel => exact ⟨k + 1, by omega, by go_num, by rw [HN1.out, HF.out], hbel.alloc hbel.size _⟩
              case measure => simp [intOf]; omega
      · have h1' : (yc != c) = false := by simp [bne, h1]
        go_wp2
        go_roundw
        case rel => exact ⟨k + 1, by omega, by go_num, by rw [HN1.out, HS.out, HT.out, h1]; rfl, hbel.alloc hbel.size _⟩
        case measure => simp [intOf]; omega
    · obtain rfl : k = m := by omega
      have e0' : decide ((k : Int) < k) = false := by simp
      have e9 : L.take k = L := List.take_of_length_le (by have := HM.out.2.1; omega)
      rw [e9]
      go_wp2
      go_ret
      exact ⟨rfl, hbel⟩

end Go.Proofs.YtllggjkhbecalaaDoor
