/- New, has, holdersFor, othersWait, Wants of package desk, walked. -/
import Derived.Test.YtllggjkhbecalaaDoorD0
namespace Go.Proofs.YtllggjkhbecalaaDoor
open Go.RowKit Go.Maps
set_option linter.unusedVariables false
set_option maxRecDepth 8000

section
variable {P : Program} {ops : Array Oper} {Q : Exit → Act → World → Prop} {md : Region.Mode} {S : World → Prop}
/-- An operation whose guard says no. -/
theorem held_skip {i : Nat} {oi : Oper} (d : Nat) {fuel : Nat} {listed : Array Bool} {a : Act} {w : World} (hi : ops[i]? = some oi) (hd : oi.dst = some d) (hs : Region.noSelect ops = true) (hf : Region.free md ops listed i = true) (hr : (Region.ready md ops listed).contains i = true)
    (hw : Region.wanted oi (yielded ops a.tmps) = false) (hQ : ∀ c a w, Q (.panic c) (a.put oi.dst undef) w → Q (.panic c) a w) (hS : S w) (h : wpAnyH P md ops Q S fuel (listed.setIfInBounds i true) (a.put (some d) undef) w) : wpAnyH P md ops Q S (fuel + 1) listed a w :=
  wpAnyH_take hi hs hf hr hQ (.inr ⟨hw, rfl⟩) hS (hd ▸ h)
end

/-- What a want's box holds, in every later world. -/
theorem box_cells (w : World) (x : Wt) {U : World} (hU : Below (w.alloc (wtO x)).heap.size (w.alloc (wtO x)) U) : U.cell? ⟨w.heap.size, 0, none⟩ = some (.int .i64 x.c) ∧ U.cell? ⟨w.heap.size, 1, none⟩ = some (.int .i64 x.p) ∧ U.cell? ⟨w.heap.size, 2, none⟩ = some (.int .i64 x.o) ∧ U.cell? ⟨w.heap.size, 3, none⟩ = some (.bool x.wr) :=
  wt_cells (heap_alloc_new w (wtO x)) hU

theorem new_desk (w : World) : Calls Tryd.prog 5 #[] w fun e w' => ∃ d g q, e = .returned (dp d) ∧ Dk w.heap.size (fun _ => False) w' d g q ⟨fun _ => 0, [], []⟩ 0 ∧ Below w.heap.size w w' := by
  go_enter Tryd.func5, Tryd.ntmps5
  go_wp2_with (first
    | (go_at_call 13; refine (Tab.new_any _).mono ?_; rintro e w1 ⟨rfl, ht1, hb1⟩)
    | (go_at_call 14; refine (newX _).mono ?_; rintro e w2 ⟨q, rfl, hq2, hb2⟩)
    | fail)
  go_ret
  have h1 : w.heap.size < w1.heap.size := ht1.lt
  have hb3 : Below w2.heap.size w2 (w2.alloc (.cells #[Tab.tp w.heap.size, qp q] 51)) := (Below.refl _ _).alloc (Nat.le_refl _) _
  refine ⟨w2.heap.size, w.heap.size, q, rfl, ⟨heap_alloc_new w2 _, (ht1.below hb2).below hb3, ⟨_, ?_, KC.nil⟩, ?_, ?_, Nat.le_refl _, fun h => h, fun h => h, Nice.nil⟩, ?_⟩
  · have h4 : Qw (w2.alloc (.cells #[Tab.tp w.heap.size, qp q] 51)) (fun k => w1.heap.size ≤ k ∧ k < w2.heap.size) q [] (fun _ => none) 0 := Qw.below (w := w2) (Qw.mono hq2 fun k hk ha => ⟨ha.1, hk⟩) hb3
    refine h4.mono fun k hk ha => ⟨by have := ha.1; omega, hk, ?_⟩
    rintro (h | h | h)
    · exact h
    · have := ha.2; omega
    · have := ha.1; omega
  · have := hb2.size; omega
  · have := hb2.size; omega
  · exact below_step (below_step hb1 hb2) hb3

theorem shr16 : ∀ m < 16, ∀ o < 4, (bits .and .i64 (((m : Nat) : Int) / 2 ^ o) 1 == 1) = m.testBit o := by decide +kernel
theorem has_nat (m o : Nat) (hm : m < 16) (ho : o < 4) (w : World) : Calls Tryd.prog 22 #[.int .i64 (m : Int), .int .i64 (o : Int)] w fun e w' => e = .returned (.bool (m.testBit o)) ∧ w' = w := by
  go_enter Tryd.func22, Tryd.ntmps22
  go_wp2
  go_ret
  exact ⟨ret_bool (shr16 m hm o ho), rfl⟩

theorem wants_any {B : Nat} {V : Nat → Prop} {w : World} {d g q : Nat} {S : St} {n : Nat} (H : Dk B V w d g q S n) : Calls Tryd.prog 10 #[dp d] w fun e w' => ∃ a c, e = .returned (.slice a S.L.length c) ∧ OwR wtC 4 43 w' a c S.L ∧ (∀ x, a = some x → x.block = w.heap.size) ∧ Below w.heap.size w w' := by
  have h1 := H.c1
  have HA : Hid (Calls Tryd.prog 23 #[qp q] w fun e w' => ∃ a c, e = .returned (.slice a S.L.length c) ∧ OwR wtC 4 43 w' a c S.L ∧ (∀ x, a = some x → x.block = w.heap.size) ∧ Below w.heap.size w w') := allK H
  clear H
  go_enter Tryd.func10, Tryd.ntmps10
  go_wp2_with (first
    | (go_at_call 23; refine HA.out.mono ?_; rintro e w1 ⟨a, c, rfl, h2, h3, h4⟩)
    | fail)
  go_ret
  exact ⟨a, c, rfl, h2, h3, h4⟩

set_option maxHeartbeats 1600000 in
theorem holdersFor_any {B : Nat} {V : Nat → Prop} {w : World} {d g q : Nat} {S : St} {n : Nat} (H : Dk B V w d g q S n) (x : Wt) : Calls Tryd.prog 24 #[dp d, wtV x] w fun e w' => ∃ ao cap, e = .returned (.slice ao (hoS S x).length cap) ∧ OwnI w' w.heap.size 3 .i64 ao cap (hoS S x) ∧ Below w.heap.size w w' := by
  have hb0 : Below w.heap.size w (w.alloc (wtO x)) := (Below.refl _ _).alloc (Nat.le_refl _) _
  have HW : Hid (Dk B V (w.alloc (wtO x)) d g q S n) := H.below hb0
  have HB : Hid (Below w.heap.size w (w.alloc (wtO x))) := hb0
  have HX : Hid (∀ U : World, Below (w.alloc (wtO x)).heap.size (w.alloc (wtO x)) U → U.cell? ⟨d, 0, none⟩ = some (Tab.tp g) ∧ U.cell? ⟨w.heap.size, 0, none⟩ = some (.int .i64 x.c) ∧ U.cell? ⟨w.heap.size, 1, none⟩ = some (.int .i64 x.p) ∧ U.cell? ⟨w.heap.size, 2, none⟩ = some (.int .i64 x.o) ∧ U.cell? ⟨w.heap.size, 3, none⟩ = some (.bool x.wr)) :=
    fun U hU => ⟨(HW.out.below hU).c0, box_cells w x hU⟩
  clear H hb0
  go_enter Tryd.func24, Tryd.ntmps24
  go_upto_region 1 with fail
  obtain ⟨b, hb⟩ : ∃ b, w.heap.size = b := ⟨_, rfl⟩
  rw [hb] at HX ⊢
  show Code.wp _ _ _ _ (w.alloc (wtO x))
  generalize w.alloc (wtO x) = W at *
  have HH : Hid (∀ U : World, Below W.heap.size W U → Calls Tryd.prog 40 #[Tab.tp g, .int .i64 x.c, .int .i64 x.p, .int .i64 x.o, .bool x.wr] U fun e w' => ∃ ao cap, e = .returned (.slice ao (hoS S x).length cap) ∧ OwnI w' b 3 .i64 ao cap (hoS S x) ∧ Below W.heap.size W w') := fun U hU => by
    refine (Tab.holders_any U g S.T (HW.out.below hU).tb x.c x.p x.o x.wr).mono ?_
    rintro e w' ⟨ao, k, cap, rfl, h1, rfl, h2⟩
    have hsz : b ≤ U.heap.size := hb ▸ Nat.le_trans HB.out.size hU.size
    exact ⟨ao, cap, rfl, h1.mono hsz, below_step hU h2⟩
  refine wp_region_held (S := fun U => Below W.heap.size W U) (by kernel_rfl) ?_
  have hS : Below W.heap.size W W.drew := bel0 W
  refine held_val (i := 0) ?_ 5 rfl rfl (by kernel_rfl) (by kernel_rfl) (by kernel_rfl) (by rfl) (fun _ _ _ h => h) hS ?_ ?_
  rotate_left
  · (intro w hSw; go_simp; first | done | with_reducible rfl)
  simp only [Act.put, List.setIfInBounds_toArray, List.set_cons_zero, List.set_cons_succ]
  refine held_val (i := 1) ?_ 6 rfl rfl (by kernel_rfl) (by kernel_rfl) (by kernel_rfl) (by rfl) (fun _ _ _ h => h) hS ?_ ?_
  rotate_left
  · (intro w hSw; go_simp; first | done | with_reducible rfl)
  simp only [Act.put, List.setIfInBounds_toArray, List.set_cons_zero, List.set_cons_succ]
  refine held_val (i := 2) ?_ 7 rfl rfl (by kernel_rfl) (by kernel_rfl) (by kernel_rfl) (by rfl) (fun _ _ _ h => h) hS ?_ ?_
  rotate_left
  · (intro w hSw; go_simp; first | done | with_reducible rfl)
  simp only [Act.put, List.setIfInBounds_toArray, List.set_cons_zero, List.set_cons_succ]
  refine held_val (i := 3) ?_ 8 rfl rfl (by kernel_rfl) (by kernel_rfl) (by kernel_rfl) (by rfl) (fun _ _ _ h => h) hS ?_ ?_
  rotate_left
  · (intro w hSw; obtain ⟨k0, k1, k2, k3, k4⟩ := HX.out w hSw; go_simp; first | done | with_reducible rfl)
  simp only [Act.put, List.setIfInBounds_toArray, List.set_cons_zero, List.set_cons_succ]
  refine held_val (i := 4) ?_ 9 rfl rfl (by kernel_rfl) (by kernel_rfl) (by kernel_rfl) (by rfl) (fun _ _ _ h => h) hS ?_ ?_
  rotate_left
  · (intro w hSw; go_simp; first | done | with_reducible rfl)
  simp only [Act.put, List.setIfInBounds_toArray, List.set_cons_zero, List.set_cons_succ]
  refine held_val (i := 5) ?_ 10 rfl rfl (by kernel_rfl) (by kernel_rfl) (by kernel_rfl) (by rfl) (fun _ _ _ h => h) hS ?_ ?_
  rotate_left
  · (intro w hSw; obtain ⟨k0, k1, k2, k3, k4⟩ := HX.out w hSw; go_simp; first | done | with_reducible rfl)
  simp only [Act.put, List.setIfInBounds_toArray, List.set_cons_zero, List.set_cons_succ]
  refine held_val (i := 6) ?_ 11 rfl rfl (by kernel_rfl) (by kernel_rfl) (by kernel_rfl) (by rfl) (fun _ _ _ h => h) hS ?_ ?_
  rotate_left
  · (intro w hSw; go_simp; first | done | with_reducible rfl)
  simp only [Act.put, List.setIfInBounds_toArray, List.set_cons_zero, List.set_cons_succ]
  refine held_val (i := 7) ?_ 12 rfl rfl (by kernel_rfl) (by kernel_rfl) (by kernel_rfl) (by rfl) (fun _ _ _ h => h) hS ?_ ?_
  rotate_left
  · (intro w hSw; obtain ⟨k0, k1, k2, k3, k4⟩ := HX.out w hSw; go_simp; first | done | with_reducible rfl)
  simp only [Act.put, List.setIfInBounds_toArray, List.set_cons_zero, List.set_cons_succ]
  refine held_val (i := 8) ?_ 13 rfl rfl (by kernel_rfl) (by kernel_rfl) (by kernel_rfl) (by rfl) (fun _ _ _ h => h) hS ?_ ?_
  rotate_left
  · (intro w hSw; go_simp; first | done | with_reducible rfl)
  simp only [Act.put, List.setIfInBounds_toArray, List.set_cons_zero, List.set_cons_succ]
  refine held_val (i := 9) ?_ 14 rfl rfl (by kernel_rfl) (by kernel_rfl) (by kernel_rfl) (by rfl) (fun _ _ _ h => h) hS ?_ ?_
  rotate_left
  · (intro w hSw; obtain ⟨k0, k1, k2, k3, k4⟩ := HX.out w hSw; go_simp; first | done | with_reducible rfl)
  simp only [Act.put, List.setIfInBounds_toArray, List.set_cons_zero, List.set_cons_succ]
  refine held_val (i := 10) ?_ 15 rfl rfl (by kernel_rfl) (by kernel_rfl) (by kernel_rfl) (by rfl) (fun _ _ _ h => h) hS ?_ ?_
  rotate_left
  · (intro w hSw; go_simp; first | done | with_reducible rfl)
  simp only [Act.put, List.setIfInBounds_toArray, List.set_cons_zero, List.set_cons_succ]
  refine held_val (i := 11) ?_ 16 rfl rfl (by kernel_rfl) (by kernel_rfl) (by kernel_rfl) (by rfl) (fun _ _ _ h => h) hS ?_ ?_
  rotate_left
  · (intro w hSw; obtain ⟨k0, k1, k2, k3, k4⟩ := HX.out w hSw; go_simp; first | done | with_reducible rfl)
  simp only [Act.put, List.setIfInBounds_toArray, List.set_cons_zero, List.set_cons_succ]
  refine held_call (i := 12) 17 40 #[Tab.tp g, .int .i64 x.c, .int .i64 x.p, .int .i64 x.o, .bool x.wr] rfl rfl (by kernel_rfl) (by rfl) (by simp [go_sem]) (HH.out _ hS) ?_
  rintro e w12 ⟨ao, cap, rfl, ho, hS12⟩
  refine ⟨_, rfl, hS12, ?_⟩
  have hS12 := hS12
  simp only [Act.put, List.setIfInBounds_toArray, List.set_cons_zero, List.set_cons_succ]
  refine held_val (i := 13) ?_ 4 rfl rfl (by kernel_rfl) (by kernel_rfl) (by kernel_rfl) (by rfl) (fun _ _ _ h => h) hS12 ?_ ?_
  rotate_left
  · (intro w hSw; go_simp; first | done | with_reducible rfl)
  simp only [Act.put, List.setIfInBounds_toArray, List.set_cons_zero, List.set_cons_succ]
  refine wpAnyH_done (by kernel_rfl) ?_ _
  go_wp2
  go_ret
  exact ⟨ao, cap, rfl, hb ▸ ho, hb ▸ below_step HB.out hS12⟩

/-! ### Does another one wait for the page? -/
set_option maxHeartbeats 1600000 in
theorem oth1_any (y x : Wt) (b : Nat) (w : World) (h0 : w.cell? ⟨b, 0, none⟩ = some (.int .i64 x.c)) (h1 : w.cell? ⟨b, 1, none⟩ = some (.int .i64 x.p)) : Calls Tryd.prog 70 #[wtV y, .pointer (some ⟨b, 0, none⟩)] w fun e w' => e = .returned (.bool (!(y.c == x.c) && y.p == x.p)) ∧ Below w.heap.size w w' := by
  have hg := World.block_lt_of_cell? w _ h0
  have hbl : Below w.heap.size w (w.alloc (wtO y)) := (Below.refl _ _).alloc (Nat.le_refl _) _
  have h0' : (w.alloc (wtO y)).cell? ⟨b, 0, none⟩ = some (.int .i64 x.c) := (hbl.cell hg).trans h0
  have h1' : (w.alloc (wtO y)).cell? ⟨b, 1, none⟩ = some (.int .i64 x.p) := (hbl.cell (p := ⟨b, 1, none⟩) hg).trans h1
  clear h0 h1 hbl
  cases e1 : (y.c == x.c)
  · have e2 : (y.c != x.c) = true := by simp at e1; simp [e1]
    go_enter Tryd.func70, Tryd.ntmps70
    go_wp2
    go_ret
    exact ⟨ret_bool (by simp), by go_grown⟩
  · have e2 : (y.c != x.c) = false := by simp at e1; simp [e1]
    go_enter Tryd.func70, Tryd.ntmps70
    go_wp2
    go_ret
    exact ⟨ret_bool (by simp), by go_grown⟩

def ot1 (y x : Wt) : Bool := !(y.c == x.c) && y.p == x.p
def otN (L : List Wt) (x : Wt) : Nat := L.findIdx (fun y => ot1 y x)
def otZ (L : List Wt) (x : Wt) : Int := if otN L x < L.length then (otN L x : Int) else -1
theorem otZ_iff (L : List Wt) (x : Wt) : decide (0 ≤ otZ L x) = othB L x := by
  unfold otZ othB
  by_cases h : otN L x < L.length
  · rw [if_pos h]
    have h1 := List.findIdx_getElem (w := h)
    have h2 : L.any (fun y => !(y.c == x.c) && y.p == x.p) = true := List.any_eq_true.2 ⟨_, List.getElem_mem h, h1⟩
    rw [h2]
    simp
  · rw [if_neg h]
    have h2 : L.any (fun y => !(y.c == x.c) && y.p == x.p) = false := by
      rw [Bool.eq_false_iff]
      intro h3
      obtain ⟨y, hy, h4⟩ := List.any_eq_true.1 h3
      exact h (List.findIdx_lt_length_of_exists ⟨y, hy, h4⟩)
    rw [h2]
    rfl

set_option maxHeartbeats 1600000 in
theorem index2_any (ao : Option Addr) (n cap : Nat) (L : List Wt) (x0 : Wt) (g : Nat) (w : World) (hL : RdR wtC w ao cap L) (hn : L.length = n) (hl : n ≤ 1000000) (hc : w.cell? ⟨g, 0, none⟩ = some (.int .i64 x0.c) ∧ w.cell? ⟨g, 1, none⟩ = some (.int .i64 x0.p)) :
    Calls Tryd.prog 44 #[.slice ao n cap, .func (.func 70) #[] #[.pointer (some ⟨g, 0, none⟩)]] w fun e w' => e = .returned (.int .i64 (otZ L x0)) ∧ Below w.heap.size w w' := by
  have HL : Hid (RdR wtC w ao cap L ∧ L.length = n) := ⟨hL, hn⟩
  have HC : Hid (w.cell? ⟨g, 0, none⟩ = some (.int .i64 x0.c) ∧ w.cell? ⟨g, 1, none⟩ = some (.int .i64 x0.p)) := hc
  clear hL hn hc
  go_enter Tryd.func44, Tryd.ntmps44
  go_wp2
  go_loopw [8] (fun i wr => ∃ k : Nat, k ≤ n ∧ i = .int .i64 k ∧ Below w.heap.size w wr ∧ Hid (∀ t (h : t < L.length), t < k → ot1 L[t] x0 = false)) (fun i _ => n - (intOf i).toNat)
  case atStart => exact ⟨0, Nat.zero_le _, rfl, Below.refl _ _, fun _ _ h => absurd h (by omega)⟩
  case round =>
    obtain ⟨k, hk, rfl, hbel, HI⟩ := hrel
    rename World => wr
    by_cases hlt : k < n
    · have hkl : k < L.length := by have := HL.out.2; omega
      have hbl := HL.out.1.below hbel
      obtain ⟨bk, off, rfl, -, hcc⟩ := hbl.at wtE hkl
      obtain ⟨z0, z1, z2, z3⟩ := wtIn _ _ _ _ hcc
      have hcg := (hbel.cell (p := ⟨g, 0, none⟩) (World.block_lt_of_cell? w _ HC.out.1)).trans HC.out.1
      have hcg1 := (hbel.cell (p := ⟨g, 1, none⟩) (World.block_lt_of_cell? w _ HC.out.2)).trans HC.out.2
      have HQ : Hid ((∀ t (h : t < L.length), t < k → ot1 L[t] x0 = false) ∧ (ot1 L[k] x0 = true → otZ L x0 = k) ∧ (ot1 L[k] x0 = false → ∀ t (h : t < L.length), t < k + 1 → ot1 L[t] x0 = false)) := by
        refine ⟨HI.out, fun h => ?_, fun h t ht hk => ?_⟩
        · have e : otN L x0 = k := by
            unfold otN
            rw [List.findIdx_eq hkl]
            exact ⟨h, fun j hj => HI.out j (by omega) hj⟩
          unfold otZ
          rw [e, if_pos hkl]
        · by_cases e : t = k
          · subst e; exact h
          · exact HI.out t ht (by omega)
      clear hcc hbl HI
      generalize L[k] = x at *
      have e0' : decide ((k : Int) < n) = true := by simp; omega
      cases hx : ot1 x x0
      · go_wp2_with (first
          | (go_at_call 70; refine (oth1_any x x0 g _ hcg hcg1).mono ?_; rw [show (!(x.c == x0.c) && x.p == x0.p) = _ from hx]; rintro e w1 ⟨rfl, hb1⟩)
          | fail)
        go_roundw
        case rel => exact ⟨k + 1, by omega, by go_num, below_step hbel hb1, HQ.out.2.2 hx⟩
        case measure => simp [intOf]; omega
      · go_wp2_with (first
          | (go_at_call 70; refine (oth1_any x x0 g _ hcg hcg1).mono ?_; rw [show (!(x.c == x0.c) && x.p == x0.p) = _ from hx]; rintro e w1 ⟨rfl, hb1⟩)
          | fail)
        go_ret
        exact ⟨ret_int (HQ.out.2.1 hx).symm, below_step hbel hb1⟩
    · obtain rfl : k = n := by omega
      go_wp2
      go_ret
      refine ⟨ret_int (Eq.symm ?_), hbel⟩
      have e : ¬ otN L x0 < L.length := by
        intro h
        have h1 := List.findIdx_getElem (w := h)
        have h2 := HI.out (otN L x0) h (by have := HL.out.2; omega)
        unfold otN at h1 h2
        rw [h2] at h1
        cases h1
      unfold otZ
      rw [if_neg e]

set_option maxHeartbeats 1600000 in
theorem contains_any (ao : Option Addr) (n cap : Nat) (L : List Wt) (x : Wt) (g : Nat) (w : World) (hL : RdR wtC w ao cap L) (hn : L.length = n) (hl : n ≤ 1000000) (hc : w.cell? ⟨g, 0, none⟩ = some (.int .i64 x.c) ∧ w.cell? ⟨g, 1, none⟩ = some (.int .i64 x.p)) :
    Calls Tryd.prog 69 #[.slice ao n cap, .func (.func 70) #[] #[.pointer (some ⟨g, 0, none⟩)]] w fun e w' => e = .returned (.bool (othB L x)) ∧ Below w.heap.size w w' := by
  have HI : Hid (Calls Tryd.prog 44 #[.slice ao n cap, .func (.func 70) #[] #[.pointer (some ⟨g, 0, none⟩)]] w fun e w' => e = .returned (.int .i64 (otZ L x)) ∧ Below w.heap.size w w') := index2_any ao n cap L x g w hL hn hl hc
  clear hL hn hc
  rw [← otZ_iff]
  go_enter Tryd.func69, Tryd.ntmps69
  go_wp2_with (first
    | (go_at_call 44; refine HI.out.mono ?_; rintro e w1 ⟨rfl, hb1⟩)
    | fail)
  go_ret
  exact ⟨ret_bool (by simp), hb1⟩

set_option maxHeartbeats 1600000 in
theorem othersWait_any {B : Nat} {V : Nat → Prop} {w : World} {d g q : Nat} {S : St} {n : Nat} (H : Dk B V w d g q S n) (x : Wt) : Calls Tryd.prog 65 #[dp d, wtV x] w fun e w' => e = .returned (.bool (othB S.L x)) ∧ Below w.heap.size w w' := by
  have hmf : ∀ (fn : Fn) (first cap : Array Value) (w : World), (Instr.makeFunc fn first cap).run Tryd.prog w = .ok (.func fn first cap) w := fun _ _ _ _ => rfl
  have hb0 : Below w.heap.size w (w.alloc (wtO x)) := (Below.refl _ _).alloc (Nat.le_refl _) _
  have h1 := (H.below hb0).c1
  have HA : Hid (Calls Tryd.prog 23 #[qp q] (w.alloc (wtO x)) fun e w' => ∃ a c, e = .returned (.slice a S.L.length c) ∧ Below w.heap.size w w' ∧ Hid (Calls Tryd.prog 69 #[.slice a S.L.length c, .func (.func 70) #[] #[.pointer (some ⟨w.heap.size, 0, none⟩)]] w' fun e w2 => e = .returned (.bool (othB S.L x)) ∧ Below w.heap.size w w2)) := by
    refine (allK (H.below hb0)).mono ?_
    rintro e w' ⟨a, c, rfl, h2, h3, h4⟩
    refine ⟨a, c, rfl, below_step hb0 h4, ?_⟩
    obtain ⟨k0, k1, -, -⟩ := box_cells w x h4
    refine (contains_any a _ c S.L x w.heap.size w' h2.rd rfl (by have := H.len; omega) ⟨k0, k1⟩).mono ?_
    rintro e w2 ⟨rfl, h5⟩
    exact ⟨rfl, below_step (below_step hb0 h4) h5⟩
  clear H hb0
  go_enter Tryd.func65, Tryd.ntmps65
  go_wp2_with (first
    | (go_at_call 23; refine HA.out.mono ?_; rintro e w1 ⟨a, c, rfl, hb1, HC⟩)
    | (go_at_call 69; refine HC.out.mono ?_; rintro e w2 ⟨rfl, hb2⟩)
    | fail)
  go_ret
  exact ⟨rfl, hb2⟩

end Go.Proofs.YtllggjkhbecalaaDoor
