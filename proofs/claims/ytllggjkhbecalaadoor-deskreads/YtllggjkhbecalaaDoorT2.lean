/- What Drop, Clear, Free, Alone and Holders of package table do, walked. -/
import Derived.Test.YtllggjkhbecalaaDoorT1
import Derived.Laws.StructEq
namespace Go.Proofs.YtllggjkhbecalaaDoor.Tab
open Go.RowKit
set_option linter.unusedVariables false
set_option maxRecDepth 8000

def drT (T : Nat → Nat) (c p a b : Nat) : Nat → Nat := put (put T (c * 12 + p * 2) (sub (cp T c p) a)) (c * 12 + p * 2 + 1) (sub (ow T c p) (a ||| b))

theorem drop_no (g : Nat) (w : World) (c p a b : Int) (h : argB c p a b = false) : Calls Tryd.prog 16 #[tp g, .int .i64 c, .int .i64 p, .int .i64 a, .int .i64 b] w fun e w' => e = .returned (.tuple #[]) ∧ w' = w := by
  rcases arg_no h with h1 | ⟨h1, h2⟩ | ⟨h1, h2, h3⟩
  · clear h
    go_enter Tryd.func16, Tryd.ntmps16
    go_wp2_with (first
      | (go_at_call 33; refine (place_any c p _).mono ?_; rw [h1]; rintro e w1 ⟨rfl, hw⟩; subst w1))
    refine bodyPost_ret (results_none rfl _ _ _) rfl ?_
    exact ⟨rfl, rfl⟩
  · clear h
    go_enter Tryd.func16, Tryd.ntmps16
    go_wp2_with (first
      | (go_at_call 33; refine (place_any c p _).mono ?_; rw [h1]; rintro e w1 ⟨rfl, hw⟩; subst w1)
      | (go_at_call 34; with_reducible refine (mask_any a _).mono ?_; rw [h2]; rintro e w1 ⟨rfl, hw⟩; subst w1))
    refine bodyPost_ret (results_none rfl _ _ _) rfl ?_
    exact ⟨rfl, rfl⟩
  · clear h
    go_enter Tryd.func16, Tryd.ntmps16
    go_wp2_with (first
      | (go_at_call 33; refine (place_any c p _).mono ?_; rw [h1]; rintro e w1 ⟨rfl, hw⟩; subst w1)
      | (go_at_call 34; with_reducible refine (mask_any a _).mono ?_; rw [h2]; rintro e w1 ⟨rfl, hw⟩; subst w1)
      | (go_at_call 34; with_reducible refine (mask_any b _).mono ?_; rw [h3]; rintro e w1 ⟨rfl, hw⟩; subst w1))
    refine bodyPost_ret (results_none rfl _ _ _) rfl ?_
    exact ⟨rfl, rfl⟩

theorem drop_in (w : World) (g : Nat) (T : Nat → Nat) (H : Tb w g T) (c p a b : Nat) (hc : c < 4) (hp : p < 6) (ha : a < 16) (hb : b < 16) :
    Calls Tryd.prog 16 #[tp g, .int .i64 (c : Int), .int .i64 (p : Int), .int .i64 (a : Int), .int .i64 (b : Int)] w fun e w' => e = .returned (.tuple #[]) ∧ Tb w' g (drT T c p a b) ∧ Off g w w' := by
  have h1 := pl_nat hc hp
  have h2 := ma_nat ha
  have h3 := ma_nat hb
  have g1 := bor ha hb
  have hab := lor ha hb
  have g4 := bnot (H.le (c * 12 + p * 2)) ha
  have g5 := bnot (H.le (c * 12 + p * 2 + 1)) hab
  have t0 := H.cell (c * 12 + p * 2) (by omega)
  have t1 := H.cell (c * 12 + p * 2 + 1) (by omega)
  have f0 := H.fz (c * 12 + p * 2)
  have f1 := H.fz (c * 12 + p * 2 + 1)
  go_enter Tryd.func16, Tryd.ntmps16
  go_wp2_with (first
    | (go_at_call 33; refine (place_any c p _).mono ?_; rw [h1]; rintro e w1 ⟨rfl, hw⟩; subst w1)
    | (go_at_call 34; with_reducible refine (mask_any a _).mono ?_; rw [h2]; rintro e w1 ⟨rfl, hw⟩; subst w1)
    | (go_at_call 34; with_reducible refine (mask_any b _).mono ?_; rw [h3]; rintro e w1 ⟨rfl, hw⟩; subst w1))
  go_end0
  refine ⟨rfl, ?_, ?_⟩
  · exact (H.put (by omega) (lsub (H.le _) ha)).put (by omega) (lsub (H.le _) hab)
  · exact ((Off.refl g w).set _ _).set _ _

/-- A client has nothing. -/
def clT (T : Nat → Nat) (c : Nat) : Nat → Nat := fun j => if c * 12 ≤ j ∧ j < c * 12 + 12 then 0 else T j

/-- What nobody else owns. -/
def frI (T : Nat → Nat) (c p : Int) : Nat := if plB c p then sub 15 (oo T c.toNat p.toNat) else 0

theorem free_any (w : World) (g : Nat) (T : Nat → Nat) (H : Tb w g T) (c p : Int) : Calls Tryd.prog 66 #[tp g, .int .i64 c, .int .i64 p] w fun e w' => e = .returned (.int .i64 (frI T c p : Nat)) ∧ Below w.heap.size w w' := by
  cases h1 : plB c p
  · go_enter Tryd.func66, Tryd.ntmps66
    go_wp2_with (go_at_call 33; refine (place_any c p _).mono ?_; rw [h1]; rintro e w1 ⟨rfl, hw⟩; subst w1)
    go_ret
    exact ⟨ret_int (by simp [frI, h1]), Below.refl _ _⟩
  · obtain ⟨k, l, hk, hl, rfl, rfl⟩ := nat_of_pl h1
    have e0 : frI T k l = sub 15 (oo T k l) := by simp [frI, h1]
    rw [e0]
    have HO := others_in w g T H k l hk hl
    have hYl : oo T k l < 16 := orr_lt _ _ (fun d => H.le _) _
    obtain ⟨X, hX⟩ : ∃ X, oc T k l = X := ⟨_, rfl⟩
    obtain ⟨Y, hY⟩ : ∃ Y, oo T k l = Y := ⟨_, rfl⟩
    rw [hX, hY] at HO
    rw [hY] at hYl
    rw [hY]
    have q : bits .andNot .i64 15 (Y : Int) = ((sub 15 Y : Nat) : Int) := bnot (a := 15) (by omega) hYl
    clear hX hY e0
    have hf : ∀ W : World, (Instr.field 70 (.agg #[.int .i64 (X : Int), .int .i64 (Y : Int)]) 1).run Tryd.prog W = .ok (.int .i64 (Y : Int)) W := fun W => rfl
    go_enter Tryd.func66, Tryd.ntmps66
    go_wp2_with (first
      | (go_at_call 68; refine HO.mono ?_; rintro e w2 ⟨rfl, hb2⟩; have hs2 := hb2.size)
      | (go_at_call 33; refine (place_any k l _).mono ?_; rw [h1]; rintro e w1 ⟨rfl, hw⟩; subst w1))
    go_ret
    exact ⟨rfl, by go_grown⟩

theorem eq57 (w : World) (x y : Nat) : (Op.equalIn 10000 70 (.agg #[.int .i64 (x : Int), .int .i64 (y : Int)]) (.agg #[.int .i64 0, .int .i64 0])).run Tryd.prog w = .ok (x == 0 && y == 0) w := by
  cases x <;> cases y <;> kernel_rfl

def alI (T : Nat → Nat) (c p : Int) : Bool := plB c p && (oc T c.toNat p.toNat == 0 && oo T c.toNat p.toNat == 0)

theorem alone_any (w : World) (g : Nat) (T : Nat → Nat) (H : Tb w g T) (c p : Int) : Calls Tryd.prog 64 #[tp g, .int .i64 c, .int .i64 p] w fun e w' => e = .returned (.bool (alI T c p)) ∧ Below w.heap.size w w' := by
  cases h1 : plB c p
  · go_enter Tryd.func64, Tryd.ntmps64
    go_wp2_with (go_at_call 33; refine (place_any c p _).mono ?_; rw [h1]; rintro e w1 ⟨rfl, hw⟩; subst w1)
    go_ret
    exact ⟨ret_bool (by simp [alI, h1]), Below.refl _ _⟩
  · obtain ⟨k, l, hk, hl, rfl, rfl⟩ := nat_of_pl h1
    have e0 : alI T k l = (oc T k l == 0 && oo T k l == 0) := by simp [alI, h1]
    rw [e0]
    have HO := others_in w g T H k l hk hl
    obtain ⟨X, hX⟩ : ∃ X, oc T k l = X := ⟨_, rfl⟩
    obtain ⟨Y, hY⟩ : ∃ Y, oo T k l = Y := ⟨_, rfl⟩
    rw [hX, hY] at HO
    rw [hX, hY]
    clear hX hY e0
    have q := fun W => eq57 W X Y
    go_enter Tryd.func64, Tryd.ntmps64
    go_wp2_with (first
      | (go_at_call 68; refine HO.mono ?_; rintro e w2 ⟨rfl, hb2⟩; have hs2 := hb2.size)
      | (go_at_call 33; refine (place_any k l _).mono ?_; rw [h1]; rintro e w1 ⟨rfl, hw⟩; subst w1))
    go_ret
    exact ⟨rfl, hb2⟩

/-- Who else has an object. -/
def hoI (T : Nat → Nat) (c p o : Int) (wr : Bool) : List Int := if plB c p = true ∧ 0 ≤ o ∧ o < 4 then hol T c.toNat p.toNat o.toNat wr 4 else []

theorem hoI_len (T : Nat → Nat) (c p o : Int) (wr : Bool) : (hoI T c p o wr).length ≤ 4 := by
  unfold hoI
  split
  · exact hol_len _ _ _ _ _ _
  · simp

theorem hol_no {T : Nat → Nat} {c p o : Nat} {wr : Bool} {k : Nat} (h : (k != c && (wm T wr k p).testBit o) = false) : hol T c p o wr (k + 1) = hol T c p o wr k := by
  rw [hol, h]; rfl
theorem hol_yes {T : Nat → Nat} {c p o : Nat} {wr : Bool} {k : Nat} (h : (k != c && (wm T wr k p).testBit o) = true) : hol T c p o wr (k + 1) = hol T c p o wr k ++ [(k : Int)] := by
  rw [hol, h]; rfl

set_option maxHeartbeats 1600000 in
theorem holders_any (w : World) (g : Nat) (T : Nat → Nat) (H : Tb w g T) (c p o : Int) (wr : Bool) : Calls Tryd.prog 40 #[tp g, .int .i64 c, .int .i64 p, .int .i64 o, .bool wr] w fun e w' => ∃ ao n cap, e = .returned (.slice ao n cap) ∧ OwnI w' w.heap.size 3 .i64 ao cap (hoI T c p o wr) ∧ (hoI T c p o wr).length = n ∧ Below w.heap.size w w' := by
  by_cases hh : plB c p = true ∧ 0 ≤ o ∧ o < 4
  · obtain ⟨h1, h2, h3⟩ := hh
    have e0 : hoI T c p o wr = hol T c.toNat p.toNat o.toNat wr 4 := by unfold hoI; rw [if_pos ⟨h1, h2, h3⟩]
    rw [e0]
    clear e0
    obtain ⟨k, l, hk, hl, rfl, rfl⟩ := nat_of_pl h1
    obtain ⟨q, rfl⟩ : ∃ q : Nat, o = q := ⟨o.toNat, by omega⟩
    simp only [Int.toNat_natCast]
    have hq : q < 4 := by omega
    have hsh : IntKind.i64.wrap ((2 : Int) ^ q) = (2 : Int) ^ q := by
      match q, hq with
      | 0, _ | 1, _ | 2, _ | 3, _ => rfl
    go_enter Tryd.func40, Tryd.ntmps40
    go_wp2_with (go_at_call 33; refine (place_any k l _).mono ?_; rw [h1]; rintro e w1 ⟨rfl, hw⟩; subst w1)
    go_loopw [11, 26] (fun v i wq => ∃ (t : Nat) (ao : Option Addr) (n cap : Nat), t ≤ 4 ∧ i = .int .i64 t ∧ v = .slice ao n cap ∧ Hid (OwnI wq w.heap.size 3 .i64 ao cap (hol T k l q wr t) ∧ (hol T k l q wr t).length = n) ∧ Below w.heap.size w wq) (fun _ i _ => 4 - (intOf i).toNat)
    case atStart => exact ⟨0, none, 0, 0, by omega, rfl, rfl, ⟨by simpa [hol] using OwnI.nil _ _ _ _, rfl⟩, by go_grown⟩
    case round =>
      obtain ⟨t, ao, n, cap, ht, rfl, rfl, HI, hbel⟩ := hrel
      rename World => wq
      by_cases hlt : t < 4
      · have HT := H.below hbel
        have t0 := HT.cell (t * 12 + l * 2) (by omega)
        have t1 := HT.cell (t * 12 + l * 2 + 1) (by omega)
        have hn4 := hol_len T k l q wr t
        have hn := HI.out.2
        rw [hn] at hn4
        have b0 := tb16 (T (t * 12 + l * 2)) (H.le _) q hq
        have b1 := tb16 (T (t * 12 + l * 2 + 1)) (H.le _) q hq
        clear hn
        by_cases hkc : t = k
        · have e1 : ((t : Int) != (k : Int)) = false := by simp; omega
          have HK : Hid (t = k) := hkc
          clear hkc
          cases wr
          all_goals
            go_wp2
            go_roundw
            case rel => exact ⟨t + 1, ao, n, cap, by omega, by go_num, rfl, by rw [hol_no (by simp [HK.out])]; exact HI.out, hbel⟩
            case measure => simp [intOf]; omega
        · have e1 : ((t : Int) != (k : Int)) = true := by simp; omega
          have e2 : (t != k) = true := by simp; omega
          have HK : Hid ((t != k) = true) := e2
          clear hkc e2
          cases wr
          · cases hb : (T (t * 12 + l * 2 + 1)).testBit q
            · rw [hb] at b1
              have HB : Hid ((T (t * 12 + l * 2 + 1)).testBit q = false) := hb
              clear hb
              go_wp2
              go_roundw
              case rel => exact ⟨t + 1, ao, n, cap, by omega, by go_num, rfl, by rw [hol_no (by simp only [wm, ow, Bool.false_eq_true, if_false]; rw [HB.out]; simp)]; exact HI.out, hbel⟩
              case measure => simp [intOf]; omega
            · rw [hb] at b1
              have HB : Hid ((T (t * 12 + l * 2 + 1)).testBit q = true) := hb
              clear hb
              go_wp2_with (at_builtin; refine wpList_append_rdI _ rfl _ _ 59 rfl w.heap.size 3 .i64 (.int .i64 0) 8 Tryd.underlying59 info3 rfl rfl rfl (HI.out.1.alloc _) (RdI.built _ 3 .i64 #[.int .i64 (t : Int)] 1 [(t : Int)] rfl rfl (by simp [maxLen])) HI.out.2 rfl (by omega) (by unfold maxLen; omega) (by have := hbel.size; simp; omega) ?_; intro ao2 cap2 w3 ho3 hb3)
              go_roundw
              case rel => exact ⟨t + 1, ao2, n + 1, cap2, by omega, by go_num, rfl, by rw [hol_yes (by simp only [wm, ow, Bool.false_eq_true, if_false]; rw [HB.out, HK.out]; rfl)]; exact ⟨ho3, by simp [HI.out.2]⟩, hbel.trans (((Below.refl _ _).alloc hbel.size _).trans hb3)⟩
              case measure => simp [intOf]; omega
          · cases hb : (T (t * 12 + l * 2)).testBit q
            · rw [hb] at b0
              have HB : Hid ((T (t * 12 + l * 2)).testBit q = false) := hb
              clear hb
              go_wp2
              go_roundw
              case rel => exact ⟨t + 1, ao, n, cap, by omega, by go_num, rfl, by rw [hol_no (by simp only [wm, cp, if_true]; rw [HB.out]; simp)]; exact HI.out, hbel⟩
              case measure => simp [intOf]; omega
            · rw [hb] at b0
              have HB : Hid ((T (t * 12 + l * 2)).testBit q = true) := hb
              clear hb
              go_wp2_with (at_builtin; refine wpList_append_rdI _ rfl _ _ 59 rfl w.heap.size 3 .i64 (.int .i64 0) 8 Tryd.underlying59 info3 rfl rfl rfl (HI.out.1.alloc _) (RdI.built _ 3 .i64 #[.int .i64 (t : Int)] 1 [(t : Int)] rfl rfl (by simp [maxLen])) HI.out.2 rfl (by omega) (by unfold maxLen; omega) (by have := hbel.size; simp; omega) ?_; intro ao2 cap2 w3 ho3 hb3)
              go_roundw
              case rel => exact ⟨t + 1, ao2, n + 1, cap2, by omega, by go_num, rfl, by rw [hol_yes (by simp only [wm, cp, if_true]; rw [HB.out, HK.out]; rfl)]; exact ⟨ho3, by simp [HI.out.2]⟩, hbel.trans (((Below.refl _ _).alloc hbel.size _).trans hb3)⟩
              case measure => simp [intOf]; omega
      · obtain rfl : t = 4 := by omega
        go_wp2
        go_ret
        exact ⟨ao, n, cap, rfl, HI.out.1, HI.out.2, hbel⟩
  · have e0 : hoI T c p o wr = [] := by unfold hoI; rw [if_neg hh]
    rw [e0]
    cases h1 : plB c p
    · clear hh
      go_enter Tryd.func40, Tryd.ntmps40
      go_wp2_with (go_at_call 33; refine (place_any c p _).mono ?_; rw [h1]; rintro e w1 ⟨rfl, hw⟩; subst w1)
      go_ret
      exact ⟨none, 0, 0, rfl, OwnI.nil _ _ _ _, rfl, Below.refl _ _⟩
    · have ho : ¬ (0 ≤ o ∧ o < 4) := fun h => hh ⟨h1, h⟩
      clear hh
      by_cases h2 : o < 0
      · clear ho
        go_enter Tryd.func40, Tryd.ntmps40
        go_wp2_with (go_at_call 33; refine (place_any c p _).mono ?_; rw [h1]; rintro e w1 ⟨rfl, hw⟩; subst w1)
        go_ret
        exact ⟨none, 0, 0, rfl, OwnI.nil _ _ _ _, rfl, Below.refl _ _⟩
      · have h3 : 4 ≤ o := by omega
        clear ho
        go_enter Tryd.func40, Tryd.ntmps40
        go_wp2_with (go_at_call 33; refine (place_any c p _).mono ?_; rw [h1]; rintro e w1 ⟨rfl, hw⟩; subst w1)
        go_ret
        exact ⟨none, 0, 0, rfl, OwnI.nil _ _ _ _, rfl, Below.refl _ _⟩

end Go.Proofs.YtllggjkhbecalaaDoor.Tab
