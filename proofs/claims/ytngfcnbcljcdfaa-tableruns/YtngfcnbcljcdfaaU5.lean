/- What the document's Drop does, walked. -/
import Derived.Test.YtngfcnbcljcdfaaU4
namespace Go.Proofs.Ytngfcnbcljcdfaa
open Go.RowKit
set_option linter.unusedVariables false

/-- The table with one client's masks of one page turned. -/
def TT (T : Nat → Nat) (c p X Y : Nat) : Nat → Nat := put (put T (c * 12 + p * 2) X) (c * 12 + p * 2 + 1) Y
theorem TT_c (T : Nat → Nat) (c p X Y Z : Nat) : put (TT T c p X Y) (c * 12 + p * 2) Z = TT T c p Z Y := by
  funext j
  unfold TT put
  by_cases h1 : j = c * 12 + p * 2
  · rw [if_pos h1, if_neg (by omega), if_pos h1]
  · rw [if_neg h1]
    by_cases h2 : j = c * 12 + p * 2 + 1
    · rw [if_pos h2, if_pos h2]
    · rw [if_neg h2, if_neg h1, if_neg h2, if_neg h1]
theorem TT_o (T : Nat → Nat) (c p X Y Z : Nat) : put (TT T c p X Y) (c * 12 + p * 2 + 1) Z = TT T c p X Z := by
  funext j
  unfold TT put
  by_cases h2 : j = c * 12 + p * 2 + 1
  · rw [if_pos h2, if_pos h2]
  · rw [if_neg h2, if_neg h2, if_neg h2]
theorem TT_cp {T : Nat → Nat} {c p X Y : Nat} (hp : p < 6) : cp (TT T c p X Y) c p = X := by rw [TT, cp_put hp hp, if_pos ⟨rfl, rfl⟩]
theorem TT_ow {T : Nat → Nat} {c p X Y : Nat} (hp : p < 6) : ow (TT T c p X Y) c p = Y := by rw [TT, ow_put hp hp, if_pos ⟨rfl, rfl⟩]
theorem TT_self (T : Nat → Nat) (c p : Nat) : TT T c p (cp T c p) (ow T c p) = T := by
  funext j
  unfold TT put cp ow
  by_cases h2 : j = c * 12 + p * 2 + 1
  · rw [if_pos h2, h2]
  · rw [if_neg h2]
    by_cases h1 : j = c * 12 + p * 2
    · rw [if_pos h1, h1]
    · rw [if_neg h1]
theorem Rb.putC {w : World} {q : Nat} {T : Nat → Nat} {c p X Y i : Nat} (h : Rb w q (TT T c p X Y)) (hc : c < 4) (hp : p < 6) (hi : i < 4) (v : Bool) : Rb (w.setCell ⟨q, c * 24 + p * 4 + i, none⟩ (.bool v)) q (TT T c p (setb X i v) Y) := by
  have := h.putc hc hp hi v
  rw [TT_cp hp, TT_c] at this
  exact this
theorem Rb.putO {w : World} {q : Nat} {T : Nat → Nat} {c p X Y i : Nat} (h : Rb w q (TT T c p X Y)) (hc : c < 4) (hp : p < 6) (hi : i < 4) (v : Bool) : Rb (w.setCell ⟨q, 96 + c * 24 + p * 4 + i, none⟩ (.bool v)) q (TT T c p X (setb Y i v)) := by
  have := h.puto hc hp hi v
  rw [TT_ow hp, TT_o] at this
  exact this

/-- Four bools, told by a mask. -/
theorem B4.at {w : World} {q m : Nat} (h : B4 w q (m.testBit 0) (m.testBit 1) (m.testBit 2) (m.testBit 3)) (k : Nat) (hk : k < 4) : w.cell? ⟨q, k, none⟩ = some (.bool (m.testBit k)) := by
  match k, hk with
  | 0, _ => exact h.c0
  | 1, _ => exact h.c1
  | 2, _ => exact h.c2
  | 3, _ => exact h.c3
theorem B4.new (w : World) (a b c d : Bool) : B4 (w.alloc (.cells #[.bool a, .bool b, .bool c, .bool d] 33)) w.heap.size a b c d := ⟨heap_alloc_new w _⟩
theorem B4.off {w w' : World} {q g : Nat} {a b c d : Bool} (h : B4 w q a b c d) (ho : Off g w w') (hne : q ≠ g) : B4 w' q a b c d := h.keep (ho.block q h.lt hne)
theorem Rb.off {w w' : World} {q g : Nat} {T : Nat → Nat} (h : Rb w q T) (ho : Off g w w') (hne : q ≠ g) : Rb w' q T := h.keep (ho.block q h.lt hne)

/-- The bits of a mask under names of their own. -/
def Bt (m : Nat) (x0 x1 x2 x3 : Bool) : Prop := m.testBit 0 = x0 ∧ m.testBit 1 = x1 ∧ m.testBit 2 = x2 ∧ m.testBit 3 = x3
theorem Bt.mk' (m : Nat) : ∃ x0 x1 x2 x3, Bt m x0 x1 x2 x3 := ⟨_, _, _, _, rfl, rfl, rfl, rfl⟩
theorem B4.bit {w : World} {q m : Nat} {x0 x1 x2 x3 : Bool} (h : B4 w q x0 x1 x2 x3) (hb : Bt m x0 x1 x2 x3) (k : Nat) (hk : k < 4) : w.cell? ⟨q, k, none⟩ = some (.bool (m.testBit k)) := by
  obtain ⟨rfl, rfl, rfl, rfl⟩ := hb
  exact h.at k hk
theorem bits_in {m : Nat} (hm : m < 16) {x0 x1 x2 x3 : Bool} (hx : Bt m x0 x1 x2 x3) (w : World) : Calls Try.prog 30 #[.int .i64 (m : Int)] w fun e w' => e = .returned (.tuple #[.agg #[.bool x0, .bool x1, .bool x2, .bool x3], .bool true]) ∧ Below w.heap.size w w' := by
  obtain ⟨rfl, rfl, rfl, rfl⟩ := hx
  refine (bits_any m w).mono ?_
  rintro e w' ⟨rfl, hb⟩
  exact ⟨by rw [ma_nat hm]; simp, hb⟩

abbrev Z37 (w : World) (T : Nat → Nat) : World := (w.alloc (.cells (rfA T) 37)).alloc (.cells (rfA fun _ => 0) 37)
theorem Z37_0 (w : World) (T : Nat → Nat) : Rb (Z37 w T) w.heap.size T := (Rb.new w T).below ((Below.refl _ _).alloc (Nat.le_refl _) _)
theorem Z37_1 (w : World) (T : Nat → Nat) : Rb (Z37 w T) (w.heap.size + 1) (fun _ => 0) := by
  have := Rb.new (w.alloc (.cells (rfA T) 37)) (fun _ => 0)
  simpa using this
theorem Z37_b (w : World) (T : Nat → Nat) : Below w.heap.size w (Z37 w T) := below_step ((Below.refl _ _).alloc (Nat.le_refl _) _) ((Below.refl _ _).alloc (Nat.le_refl _) _)
theorem Z37_s (w : World) (T : Nat → Nat) : (Z37 w T).heap.size = w.heap.size + 2 := by simp

theorem results_cell {fn : Func} {tmps : Array Value} {w : World} {a : Nat} {t : TypeId} {ad : Addr} {v : Value} (hf : fn.results = #[.cell a t]) (hx : tmps.getD a undef = .pointer (some ad)) (hl : (loadVar t ad).run Try.prog w = .ok v w) : (results fn tmps).run Try.prog w = .ok v w := by
  have hx' : tmps[a]?.getD undef = .pointer (some ad) := by simpa using hx
  unfold results
  rw [hf]
  simp [hx', asAddr, hl]
theorem results_cell2 {fn : Func} {tmps : Array Value} {w : World} {a b : Nat} {t : TypeId} {ad : Addr} {v u : Value} (hf : fn.results = #[.cell a t, .tmp b]) (hx : tmps.getD a undef = .pointer (some ad)) (hu : tmps.getD b undef = u) (hl : (loadVar t ad).run Try.prog w = .ok v w) : (results fn tmps).run Try.prog w = .ok (.tuple #[v, u]) w := by
  have hx' : tmps[a]?.getD undef = .pointer (some ad) := by simpa using hx
  have hu' : tmps[b]?.getD undef = u := by simpa using hu
  unfold results
  rw [hf]
  simp [hx', hu', asAddr, hl]

theorem step_none {j k : Nat} {x y : Nat → Bool} (h : y k = x k) : (if j < k then y j else x j) = if j < k + 1 then y j else x j := by
  by_cases e : j < k
  · rw [if_pos e, if_pos (by omega)]
  · rw [if_neg e]
    by_cases e2 : j = k
    · subst e2; rw [if_pos (by omega), h]
    · rw [if_neg (by omega)]
theorem step_set {j k : Nat} {v : Bool} {x y : Nat → Bool} (h : y k = v) : (if j = k then v else if j < k then y j else x j) = if j < k + 1 then y j else x j := by
  by_cases e2 : j = k
  · subst e2; rw [if_pos rfl, if_pos (by omega), h]
  · rw [if_neg e2]
    by_cases e : j < k
    · rw [if_pos e, if_pos (by omega)]
    · rw [if_neg e, if_neg (by omega)]

/-- What the two masks are laid into, and what lies beside. -/
structure Lay (w W : World) (T : Nat → Nat) (qa qb : Nat) (a0 a1 a2 a3 b0 b1 b2 b3 : Bool) : Prop where
  t : Rb W w.heap.size T
  z : Rb W (w.heap.size + 1) (fun _ => 0)
  a : B4 W qa a0 a1 a2 a3
  b : B4 W qb b0 b1 b2 b3
  ha : w.heap.size + 2 ≤ qa
  hb : w.heap.size + 2 ≤ qb
  bel : Below w.heap.size w W
theorem Lay.mk' {w w2 w4 : World} {T : Nat → Nat} {a0 a1 a2 a3 b0 b1 b2 b3 : Bool} (h2 : Below (Z37 w T).heap.size (Z37 w T) w2) (h4 : Below (w2.alloc (.cells #[.bool a0, .bool a1, .bool a2, .bool a3] 33)).heap.size (w2.alloc (.cells #[.bool a0, .bool a1, .bool a2, .bool a3] 33)) w4) :
    Lay w (w4.alloc (.cells #[.bool b0, .bool b1, .bool b2, .bool b3] 33)) T w2.heap.size w4.heap.size a0 a1 a2 a3 b0 b1 b2 b3 := by
  have k4 := below_step h2 (below_step ((Below.refl _ _).alloc (Nat.le_refl _) (.cells #[.bool a0, .bool a1, .bool a2, .bool a3] 33)) (below_step h4 ((Below.refl _ _).alloc (Nat.le_refl _) (.cells #[.bool b0, .bool b1, .bool b2, .bool b3] 33))))
  have s2 := h2.size
  have s4 := h4.size
  rw [Z37_s] at s2
  simp at s4
  exact ⟨(Z37_0 w T).below k4, (Z37_1 w T).below k4, (B4.new w2 a0 a1 a2 a3).below (below_step h4 ((Below.refl _ _).alloc (Nat.le_refl _) _)), B4.new w4 b0 b1 b2 b3, s2, by omega, below_step (Z37_b w T) k4⟩
theorem Lay.off {w W W' : World} {T T' : Nat → Nat} {qa qb : Nat} {a0 a1 a2 a3 b0 b1 b2 b3 : Bool} (h : Lay w W T qa qb a0 a1 a2 a3 b0 b1 b2 b3) (ho : Off w.heap.size W W') (ht : Rb W' w.heap.size T') : Lay w W' T' qa qb a0 a1 a2 a3 b0 b1 b2 b3 :=
  ⟨ht, h.z.off ho (by omega), h.a.off ho (by have := h.ha; omega), h.b.off ho (by have := h.hb; omega), h.ha, h.hb, h.bel.trans (ho.below (Nat.le_refl _) h.bel.size)⟩

set_option maxRecDepth 100000 in
set_option maxHeartbeats 3200000 in
theorem rdrop_in (T : Nat → Nat) (hT : ∀ i, T i < 16) (c p a b : Nat) (hc : c < 4) (hp : p < 6) (ha : a < 16) (hb : b < 16) (w : World) : Calls Try.prog 16 #[.agg (rfA T), .int .i64 (c : Int), .int .i64 (p : Int), .int .i64 (a : Int), .int .i64 (b : Int)] w fun e w' => e = .returned (.agg (rfA (drT T c p a b))) ∧ Below w.heap.size w w' := by
  have h1 := pl_nat hc hp
  have hz := zero37
  obtain ⟨a0, a1, a2, a3, hA⟩ := Bt.mk' a
  obtain ⟨b0, b1, b2, b3, hB⟩ := Bt.mk' b
  have HA : Hid (Bt a a0 a1 a2 a3) := hA
  have HB : Hid (Bt b b0 b1 b2 b3) := hB
  clear hA hB
  go_enter Try.func16, Try.ntmps16
  go_wp2_with (first
    | (go_at_call 31; refine (In_any c p _).mono ?_; rw [h1]; rintro e wx ⟨rfl, hw⟩; subst wx)
    | (go_at_call 30; with_reducible refine (bits_in hb HB.out _).mono ?_; rintro e w4 ⟨rfl, hb4⟩; have HL := Lay.mk' (b0 := b0) (b1 := b1) (b2 := b2) (b3 := b3) hb2 hb4)
    | (go_at_call 30; with_reducible refine (bits_in ha HA.out _).mono ?_; rintro e w2 ⟨rfl, hb2⟩))
  have HL' : Hid (Lay w (w4.alloc (.cells #[.bool b0, .bool b1, .bool b2, .bool b3] 33)) (TT T c p (cp T c p) (ow T c p)) w2.heap.size w4.heap.size a0 a1 a2 a3 b0 b1 b2 b3) := by unfold Hid; rw [TT_self]; exact HL
  clear HL
  generalize w2.heap.size = qa at *
  go_loopw [15] (fun i wq => ∃ (k X Y : Nat), k ≤ 4 ∧ i = .int .i64 k ∧ Hid (Lay w wq (TT T c p X Y) qa w4.heap.size a0 a1 a2 a3 b0 b1 b2 b3 ∧ X < 16 ∧ Y < 16 ∧ (∀ j, X.testBit j = if j < k then (cp T c p).testBit j && !a.testBit j else (cp T c p).testBit j) ∧ (∀ j, Y.testBit j = if j < k then (ow T c p).testBit j && !(a.testBit j || b.testBit j) else (ow T c p).testBit j))) (fun i _ => 4 - (intOf i).toNat)
  case atStart => exact ⟨0, _, _, by omega, rfl, ⟨HL'.out, hT _, hT _, fun j => by simp, fun j => by simp⟩⟩
  case round =>
    clear HL'
    obtain ⟨k, X, Y, hk, rfl, HI⟩ := hrel
    rename World => wq
    by_cases hlt : k < 4
    · have ca := HI.out.1.a.bit HA.out k hlt
      have cb := HI.out.1.b.bit HB.out k hlt
      have gc := HI.out.1.t.c hc hp hlt
      have gw := HI.out.1.t.o hc hp hlt
      have f0 := HI.out.1.t.fz (c * 24 + p * 4 + k)
      have f1 := HI.out.1.t.fz (96 + c * 24 + p * 4 + k)
      rw [TT_cp hp] at gc
      rw [TT_ow hp] at gw
      clear hz
      cases hxa : a.testBit k
      · rw [hxa] at ca
        cases hxb : b.testBit k
        · rw [hxb] at cb
          have HQ : Hid (a.testBit k = false ∧ b.testBit k = false) := ⟨hxa, hxb⟩
          clear hxa hxb
          go_wp2
          go_roundw
          case rel =>
            refine ⟨k + 1, X, Y, by omega, by go_num, ⟨HI.out.1, HI.out.2.1, HI.out.2.2.1, fun j => ?_, fun j => ?_⟩⟩
            · rw [HI.out.2.2.2.1 j]; exact step_none (k := k) (x := fun j => (cp T c p).testBit j) (y := fun j => (cp T c p).testBit j && !a.testBit j) (by show ((cp T c p).testBit k && !a.testBit k) = (cp T c p).testBit k; rw [HQ.out.1]; simp)
            · rw [HI.out.2.2.2.2 j]; exact step_none (k := k) (x := fun j => (ow T c p).testBit j) (y := fun j => (ow T c p).testBit j && !(a.testBit j || b.testBit j)) (by show ((ow T c p).testBit k && !(a.testBit k || b.testBit k)) = (ow T c p).testBit k; rw [HQ.out.1, HQ.out.2]; simp)
          case measure => simp [intOf]; omega
        · rw [hxb] at cb
          have HQ : Hid (a.testBit k = false ∧ b.testBit k = true) := ⟨hxa, hxb⟩
          clear hxa hxb
          go_wp2
          go_roundw
          case rel =>
            refine ⟨k + 1, X, setb Y k false, by omega, by go_num, ⟨HI.out.1.off ((Off.refl _ _).set _ _) (HI.out.1.t.putO hc hp hlt false), HI.out.2.1, setb_lt HI.out.2.2.1 hlt _, fun j => ?_, fun j => ?_⟩⟩
            · rw [HI.out.2.2.2.1 j]; exact step_none (k := k) (x := fun j => (cp T c p).testBit j) (y := fun j => (cp T c p).testBit j && !a.testBit j) (by show ((cp T c p).testBit k && !a.testBit k) = (cp T c p).testBit k; rw [HQ.out.1]; simp)
            · rw [setb_bit, HI.out.2.2.2.2 j]; exact step_set (k := k) (x := fun j => (ow T c p).testBit j) (y := fun j => (ow T c p).testBit j && !(a.testBit j || b.testBit j)) (by show ((ow T c p).testBit k && !(a.testBit k || b.testBit k)) = false; rw [HQ.out.1, HQ.out.2]; simp)
          case measure => simp [intOf]; omega
      · rw [hxa] at ca
        have HQ : Hid (a.testBit k = true) := hxa
        clear hxa
        have hL1 := HI.out.1.off ((Off.refl _ _).set (c * 24 + p * 4 + k) (.bool false)) (HI.out.1.t.putC hc hp hlt false)
        go_upto_region 10 with fail
        clear ca cb gc gw f0 f1
        generalize (wq.setCell ⟨w.heap.size, c * 24 + p * 4 + k, none⟩ (.bool false)) = W1 at *
        have ca := hL1.a.bit HA.out k hlt
        have gw := hL1.t.o hc hp hlt
        have f1 := hL1.t.fz (96 + c * 24 + p * 4 + k)
        rw [HQ.out] at ca
        go_wp2
        go_roundw
        case rel =>
          refine ⟨k + 1, setb X k false, setb Y k false, by omega, by go_num, ⟨hL1.off ((Off.refl _ _).set _ _) (hL1.t.putO hc hp hlt false), setb_lt HI.out.2.1 hlt _, setb_lt HI.out.2.2.1 hlt _, fun j => ?_, fun j => ?_⟩⟩
          · rw [setb_bit, HI.out.2.2.2.1 j]; exact step_set (k := k) (x := fun j => (cp T c p).testBit j) (y := fun j => (cp T c p).testBit j && !a.testBit j) (by show ((cp T c p).testBit k && !a.testBit k) = false; rw [HQ.out]; simp)
          · rw [setb_bit, HI.out.2.2.2.2 j]; exact step_set (k := k) (x := fun j => (ow T c p).testBit j) (y := fun j => (ow T c p).testBit j && !(a.testBit j || b.testBit j)) (by show ((ow T c p).testBit k && !(a.testBit k || b.testBit k)) = false; rw [HQ.out]; simp)
        case measure => simp [intOf]; omega
    · obtain rfl : k = 4 := by omega
      have hX : X = sub (cp T c p) a := eq16 HI.out.2.1 (lsub (hT _) ha) fun j hj => by rw [HI.out.2.2.2.1 j, if_pos hj, bit_sub]
      have hY : Y = sub (ow T c p) (a ||| b) := eq16 HI.out.2.2.1 (lsub (hT _) (lor ha hb)) fun j hj => by rw [HI.out.2.2.2.2 j, if_pos hj, bit_sub, bit_or]
      have HT4 : Hid (Lay w wq (drT T c p a b) qa w4.heap.size a0 a1 a2 a3 b0 b1 b2 b3) := by
        have := HI.out.1
        rw [hX, hY] at this
        exact this
      clear hX hY
      go_upto_region 12 with fail
      refine wp_region_lit ?_
      refine wpList_load37 rfl _ rfl w.heap.size _ rfl HT4.out.t ?_
      refine wpList_store37 rfl _ _ rfl (w.heap.size + 1) _ _ rfl rfl HT4.out.z ?_
      intro w9 hR9 ho9
      refine wpList_nil ?_
      clear hz
      go_wp2
      have hl9 := loadV37 hR9
      refine bodyPost_ret (results_cell Try.results16 (by rfl) hl9) (by rfl) ?_
      exact ⟨rfl, HT4.out.bel.trans (ho9.below (by omega) HT4.out.bel.size)⟩

theorem bits_at (m : Int) (w : World) : ∃ x0 x1 x2 x3, Calls Try.prog 30 #[.int .i64 m] w fun e w' => e = .returned (.tuple #[.agg #[.bool x0, .bool x1, .bool x2, .bool x3], .bool (maB m)]) ∧ Below w.heap.size w w' := ⟨_, _, _, _, bits_any m w⟩

set_option maxRecDepth 100000 in
set_option maxHeartbeats 3200000 in
theorem rdrop_any (T : Nat → Nat) (hT : ∀ i, T i < 16) (c p a b : Int) (w : World) : Calls Try.prog 16 #[.agg (rfA T), .int .i64 c, .int .i64 p, .int .i64 a, .int .i64 b] w fun e w' => e = .returned (.agg (rfA (dT T c p a b))) ∧ Below w.heap.size w w' := by
  cases h : argB c p a b
  · have e1 : dT T c p a b = T := by rw [dT, h]; rfl
    rw [e1]
    have hz := zero37
    obtain ⟨a0, hA0⟩ : ∃ x, (maB a && a.toNat.testBit 0) = x := ⟨_, rfl⟩
    obtain ⟨a1, hA1⟩ : ∃ x, (maB a && a.toNat.testBit 1) = x := ⟨_, rfl⟩
    obtain ⟨a2, hA2⟩ : ∃ x, (maB a && a.toNat.testBit 2) = x := ⟨_, rfl⟩
    obtain ⟨a3, hA3⟩ : ∃ x, (maB a && a.toNat.testBit 3) = x := ⟨_, rfl⟩
    obtain ⟨b0, hB0⟩ : ∃ x, (maB b && b.toNat.testBit 0) = x := ⟨_, rfl⟩
    obtain ⟨b1, hB1⟩ : ∃ x, (maB b && b.toNat.testBit 1) = x := ⟨_, rfl⟩
    obtain ⟨b2, hB2⟩ : ∃ x, (maB b && b.toNat.testBit 2) = x := ⟨_, rfl⟩
    obtain ⟨b3, hB3⟩ : ∃ x, (maB b && b.toNat.testBit 3) = x := ⟨_, rfl⟩
    have HA : Hid (∀ W, Calls Try.prog 30 #[.int .i64 a] W fun e w' => e = .returned (.tuple #[.agg #[.bool a0, .bool a1, .bool a2, .bool a3], .bool (maB a)]) ∧ Below W.heap.size W w') := fun W => by rw [← hA0, ← hA1, ← hA2, ← hA3]; exact bits_any a W
    have HB : Hid (∀ W, Calls Try.prog 30 #[.int .i64 b] W fun e w' => e = .returned (.tuple #[.agg #[.bool b0, .bool b1, .bool b2, .bool b3], .bool (maB b)]) ∧ Below W.heap.size W w') := fun W => by rw [← hB0, ← hB1, ← hB2, ← hB3]; exact bits_any b W
    clear hA0 hA1 hA2 hA3 hB0 hB1 hB2 hB3 e1
    rcases arg_no h with h1 | ⟨h1, h2⟩ | ⟨h1, h2, h3⟩
    all_goals
      clear h
      go_enter Try.func16, Try.ntmps16
      go_upto_region 4 with (first
        | (go_at_call 31; refine (In_any c p _).mono ?_; rw [h1]; rintro e wx ⟨rfl, hw⟩; subst wx)
        | (go_at_call 30; with_reducible refine (HB.out _).mono ?_; (try rw [h3]); rintro e w4 ⟨rfl, hb4⟩; have HL := Lay.mk' (b0 := b0) (b1 := b1) (b2 := b2) (b3 := b3) hb2 hb4)
        | (go_at_call 30; with_reducible refine (HA.out _).mono ?_; (try rw [h2]); rintro e w2 ⟨rfl, hb2⟩))
      refine wp_region_lit ?_
      refine wpList_load37 rfl _ rfl w.heap.size _ rfl HL.t ?_
      refine wpList_store37 rfl _ _ rfl (w.heap.size + 1) _ _ rfl rfl HL.z ?_
      intro w9 hR9 ho9
      refine wpList_nil ?_
      clear hz
      go_wp2
      have hl9 := loadV37 hR9
      refine bodyPost_ret (results_cell Try.results16 (by rfl) hl9) (by rfl) ?_
      exact ⟨rfl, HL.bel.trans (ho9.below (by omega) HL.bel.size)⟩
  · obtain ⟨k, l, x, y, h1, h2, h3, h4, rfl, rfl, rfl, rfl⟩ := arg_yes h
    have e1 : dT T k l x y = drT T k l x y := by rw [dT, if_pos h]; simp
    rw [e1]
    exact rdrop_in T hT k l x y h1 h2 h3 h4 w

end Go.Proofs.Ytngfcnbcljcdfaa
