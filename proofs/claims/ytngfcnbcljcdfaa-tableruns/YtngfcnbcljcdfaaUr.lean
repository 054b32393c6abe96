/- TableRuns: the walk. -/
import Derived.Test.YtngfcnbcljcdfaaUo
import Derived.Test.YtngfcnbcljcdfaaOa
import Derived.Deep.RegionHeld
import Derived.Deep.RegionHeldLaw
import Derived.Deep.CutBlock
import Derived.Deep.DeepCutAuto
namespace Go.Proofs.Ytngfcnbcljcdfaa
open Go.RowKit
set_option linter.unusedVariables false

/-- An act's block. -/
structure Ac5 (w : World) (b : Nat) (x : ActG) : Prop where
  blk : w.heap[b]? = some (.cells #[.int .i64 x.k, .int .i64 x.c, .int .i64 x.p, .int .i64 x.a, .int .i64 x.b] 32 (0, 0))
section
variable {w w' : World} {b : Nat} {x : ActG}
theorem Ac5.c0 (h : Ac5 w b x) : w.cell? ⟨b, 0, none⟩ = some (.int .i64 x.k) := by rw [cell_of_row _ _ _ _ _ _ h.blk]; rfl
theorem Ac5.c1 (h : Ac5 w b x) : w.cell? ⟨b, 1, none⟩ = some (.int .i64 x.c) := by rw [cell_of_row _ _ _ _ _ _ h.blk]; rfl
theorem Ac5.c2 (h : Ac5 w b x) : w.cell? ⟨b, 2, none⟩ = some (.int .i64 x.p) := by rw [cell_of_row _ _ _ _ _ _ h.blk]; rfl
theorem Ac5.c3 (h : Ac5 w b x) : w.cell? ⟨b, 3, none⟩ = some (.int .i64 x.a) := by rw [cell_of_row _ _ _ _ _ _ h.blk]; rfl
theorem Ac5.c4 (h : Ac5 w b x) : w.cell? ⟨b, 4, none⟩ = some (.int .i64 x.b) := by rw [cell_of_row _ _ _ _ _ _ h.blk]; rfl
theorem Ac5.lt (h : Ac5 w b x) : b < w.heap.size := (Array.getElem?_eq_some_iff.1 h.blk).1
theorem Ac5.keep (h : Ac5 w b x) (hb : w'.heap[b]? = w.heap[b]?) : Ac5 w' b x := ⟨hb.trans h.blk⟩
theorem Ac5.below (h : Ac5 w b x) (hb : Below w.heap.size w w') : Ac5 w' b x := h.keep (hb.block b h.lt)
theorem Ac5.off (h : Ac5 w b x) {g : Nat} (hb : Off g w w') (hne : b ≠ g) : Ac5 w' b x := h.keep (hb.block b h.lt hne)
end

/-- Both tables hold the same masks. -/
structure Two (w : World) (g q : Nat) (T : Nat → Nat) : Prop where
  tb : Tb w g T
  rb : Rb w q T
  so : Sole T
  ne : g ≠ q
theorem Two.below {w w' : World} {g q : Nat} {T : Nat → Nat} (h : Two w g q T) (hb : Below w.heap.size w w') : Two w' g q T := ⟨h.tb.below hb, h.rb.below hb, h.so, h.ne⟩

theorem rcopies_is (T : Nat → Nat) (hT : ∀ i, T i < 16) (c p : Int) (w : World) (z : Int) (hz : ((cpI T c p : Nat) : Int) = z) : Calls Try.prog 20 #[.agg (rfA T), .int .i64 c, .int .i64 p] w fun e w' => e = .returned (.int .i64 z) ∧ Below w.heap.size w w' := by subst hz; exact rcopies_any T hT c p w
theorem rowns_is (T : Nat → Nat) (hT : ∀ i, T i < 16) (c p : Int) (w : World) (z : Int) (hz : ((owI T c p : Nat) : Int) = z) : Calls Try.prog 22 #[.agg (rfA T), .int .i64 c, .int .i64 p] w fun e w' => e = .returned (.int .i64 z) ∧ Below w.heap.size w w' := by subst hz; exact rowns_any T hT c p w
theorem rfree_is (T : Nat → Nat) (hT : ∀ i, T i < 16) (c p : Int) (w : World) (z : Int) (hz : ((frI T c p : Nat) : Int) = z) : Calls Try.prog 23 #[.agg (rfA T), .int .i64 c, .int .i64 p] w fun e w' => e = .returned (.int .i64 z) ∧ Below w.heap.size w w' := by subst hz; exact rfree_any T hT c p w
theorem ralone_is (T : Nat → Nat) (hT : ∀ i, T i < 16) (hS : Sole T) (c p : Int) (w : World) (b : Bool) (hz : alI T c p = b) : Calls Try.prog 24 #[.agg (rfA T), .int .i64 c, .int .i64 p] w fun e w' => e = .returned (.bool b) ∧ Below w.heap.size w w' := by subst hz; exact ralone_any T hT hS c p w

/-- What the two tables' readers answer, alike, in every later world. -/
theorem contracts {wc : World} {g q : Nat} {T : Nat → Nat} (H : Two wc g q T) {c p : Int} {z1 z2 z3 : Int} {b4 : Bool} (h1 : ((cpI T c p : Nat) : Int) = z1) (h2 : ((owI T c p : Nat) : Int) = z2) (h3 : ((frI T c p : Nat) : Int) = z3) (h4 : alI T c p = b4) :
    Hid (∀ W, Below wc.heap.size wc W → Calls Try.prog 19 #[tp g, .int .i64 c, .int .i64 p] W fun e w' => e = .returned (.int .i64 z1) ∧ Below wc.heap.size wc w') ∧
    Hid (∀ W, Below wc.heap.size wc W → Calls Try.prog 21 #[tp g, .int .i64 c, .int .i64 p] W fun e w' => e = .returned (.int .i64 z2) ∧ Below wc.heap.size wc w') ∧
    Hid (∀ W, Below wc.heap.size wc W → Calls Try.prog 11 #[tp g, .int .i64 c, .int .i64 p] W fun e w' => e = .returned (.int .i64 z3) ∧ Below wc.heap.size wc w') ∧
    Hid (∀ W, Below wc.heap.size wc W → Calls Try.prog 12 #[tp g, .int .i64 c, .int .i64 p] W fun e w' => e = .returned (.bool b4) ∧ Below wc.heap.size wc w') ∧
    Hid (∀ W, Below wc.heap.size wc W → Calls Try.prog 20 #[.agg (rfA T), .int .i64 c, .int .i64 p] W fun e w' => e = .returned (.int .i64 z1) ∧ Below wc.heap.size wc w') ∧
    Hid (∀ W, Below wc.heap.size wc W → Calls Try.prog 22 #[.agg (rfA T), .int .i64 c, .int .i64 p] W fun e w' => e = .returned (.int .i64 z2) ∧ Below wc.heap.size wc w') ∧
    Hid (∀ W, Below wc.heap.size wc W → Calls Try.prog 23 #[.agg (rfA T), .int .i64 c, .int .i64 p] W fun e w' => e = .returned (.int .i64 z3) ∧ Below wc.heap.size wc w') ∧
    Hid (∀ W, Below wc.heap.size wc W → Calls Try.prog 24 #[.agg (rfA T), .int .i64 c, .int .i64 p] W fun e w' => e = .returned (.bool b4) ∧ Below wc.heap.size wc w') :=
  ⟨fun W hW => (copies_is W g T (H.tb.below hW) c p z1 h1).mono fun e w' h => ⟨h.1, h.2 ▸ hW⟩,
   fun W hW => (own_is W g T (H.tb.below hW) c p z2 h2).mono fun e w' h => ⟨h.1, h.2 ▸ hW⟩,
   fun W hW => (free_is W g T (H.tb.below hW) c p z3 h3).mono fun e w' h => ⟨h.1, below_step hW h.2⟩,
   fun W hW => (alone_is W g T (H.tb.below hW) c p b4 h4).mono fun e w' h => ⟨h.1, below_step hW h.2⟩,
   fun W hW => (rcopies_is T H.tb.le c p W z1 h1).mono fun e w' h => ⟨h.1, below_step hW h.2⟩,
   fun W hW => (rowns_is T H.tb.le c p W z2 h2).mono fun e w' h => ⟨h.1, below_step hW h.2⟩,
   fun W hW => (rfree_is T H.tb.le c p W z3 h3).mono fun e w' h => ⟨h.1, below_step hW h.2⟩,
   fun W hW => (ralone_is T H.tb.le H.so c p W b4 h4).mono fun e w' h => ⟨h.1, below_step hW h.2⟩⟩
set_option maxRecDepth 100000 in
set_option maxHeartbeats 12800000 in
theorem runs_main (a0 : Option Addr) (c0 n0 : Nat) (A : List ActG) (x1 : ActG) (w : World) (hA : ActsAt w a0 A) (hn : A.length = n0) (t0 : ¬ ((100 : Int) < (n0 : Int))) :
    Calls Try.prog 4 #[.slice a0 n0 c0, .agg #[.int .i64 x1.k, .int .i64 x1.c, .int .i64 x1.p, .int .i64 x1.a, .int .i64 x1.b]] w fun e w' => e = .returned (.bool true) ∧ Below w.heap.size w w' := by
  have HA : Hid (ActsAt w a0 A ∧ A.length = n0) := ⟨hA, hn⟩
  clear hA hn
  have hz := zero37
  have hQ : Ac5 (w.alloc (.cells #[.int .i64 x1.k, .int .i64 x1.c, .int .i64 x1.p, .int .i64 x1.a, .int .i64 x1.b] 32)) w.heap.size x1 := ⟨heap_alloc_new w _⟩
  have hB0 : Below w.heap.size w (w.alloc (.cells #[.int .i64 x1.k, .int .i64 x1.c, .int .i64 x1.p, .int .i64 x1.a, .int .i64 x1.b] 32)) := (Below.refl _ _).alloc (Nat.le_refl _) _
  go_enter Try.func4, Try.ntmps4
  go_upto_region 6 with (first
    | (go_at_call 8; refine (new_any _).mono ?_; rintro e w2 ⟨rfl, H2, hb2⟩; have hB2 : Below w.heap.size w w2 := below_step hB1 hb2; have hQ2 := hQ1.below hb2)
    | (go_at_call 9; refine (alive_any _).mono ?_; rintro e w1 ⟨rfl, hb1⟩; have hB1 : Below w.heap.size w w1 := below_step hB0 hb1; have hQ1 := hQ.below hb1))
  refine wp_region_lit ?_
  refine wpList_plain rfl fun K1 hK1 => ?_
  go_step
  refine hK1 _ _ ?_
  clear hK1 K1
  refine wpList_plain rfl fun K1 hK1 => ?_
  go_step
  refine hK1 _ _ ?_
  clear hK1 K1
  refine wpList_store37 rfl _ _ rfl w2.heap.size (fun _ => 0) (fun _ => 0) rfl rfl (Rb.new w2 _) ?_
  intro w3 hR3 ho3
  refine wpList_nil ?_
  have hb23 : Below w2.heap.size w2 w3 := ((Below.refl _ _).alloc (Nat.le_refl _) (.cells (rfA fun _ => 0) 37)).trans (ho3.below (Nat.le_refl _) (by simp))
  have H3 : Two w3 w1.heap.size w2.heap.size (fun _ => 0) := ⟨H2.below hb23, hR3, Sole.new, by have := H2.lt; omega⟩
  have hQ3 := hQ2.below hb23
  have hB3 := below_step hB2 hb23
  have hgH : w.heap.size < w1.heap.size := Nat.lt_of_lt_of_le (by simp) hb1.size
  have hgq := H2.lt
  have HI3 : Hid (Two w3 w1.heap.size w2.heap.size (fun _ => 0) ∧ Ac5 w3 w.heap.size x1) := ⟨H3, hQ3⟩
  have HG : Hid (w.heap.size < w1.heap.size ∧ w1.heap.size < w2.heap.size) := ⟨hgH, hgq⟩
  clear H3 hQ3 hb23 ho3 hR3 hB2 hQ2 hb2 H2 hB1 hQ1 hQ hB0 hb1 hgH hgq hz
  generalize w1.heap.size = g at *
  generalize w2.heap.size = q at *
  go_wp2
  go_loopw [24] (fun i wr => ∃ (k : Nat) (T : Nat → Nat), k ≤ n0 ∧ i = .int .i64 k ∧ Hid (Two wr g q T ∧ Ac5 wr w.heap.size x1) ∧ Below w.heap.size w wr) (fun i _ => n0 - (intOf i).toNat)
  case atStart => exact ⟨0, _, Nat.zero_le _, rfl, HI3.out, hB3⟩
  case round =>
    clear HI3 hB3
    obtain ⟨k, T, hk, rfl, HI, hbel⟩ := hrel
    rename World => wr
    by_cases hlt : k < n0
    · obtain ⟨bk, off, rfl, -, hcA⟩ := (HA.out.1.below hbel) (by intro e; have := HA.out.2; rw [e] at this; simp at this; omega)
      obtain ⟨i0, i1, i2, i3, i4⟩ := hcA k (by have := HA.out.2; omega)
      clear hcA
      generalize A[k]'(by have := HA.out.2; omega) = x at *
      have e0' : decide ((k : Int) < n0) = true := by simp; omega
      have hb' : Below wr.heap.size wr (wr.alloc (.cells #[.int .i64 x.k, .int .i64 x.c, .int .i64 x.p, .int .i64 x.a, .int .i64 x.b] 32)) := (Below.refl _ _).alloc (Nat.le_refl _) _
      have HJ : Hid (Two (wr.alloc (.cells #[.int .i64 x.k, .int .i64 x.c, .int .i64 x.p, .int .i64 x.a, .int .i64 x.b] 32)) g q T ∧ Ac5 (wr.alloc (.cells #[.int .i64 x.k, .int .i64 x.c, .int .i64 x.p, .int .i64 x.a, .int .i64 x.b] 32)) w.heap.size x1 ∧ Ac5 (wr.alloc (.cells #[.int .i64 x.k, .int .i64 x.c, .int .i64 x.p, .int .i64 x.a, .int .i64 x.b] 32)) wr.heap.size x ∧ Below w.heap.size w (wr.alloc (.cells #[.int .i64 x.k, .int .i64 x.c, .int .i64 x.p, .int .i64 x.a, .int .i64 x.b] 32))) := ⟨HI.out.1.below hb', HI.out.2.below hb', ⟨heap_alloc_new wr _⟩, below_step hbel hb'⟩
      have HGr : Hid (w.heap.size < wr.heap.size ∧ g < wr.heap.size ∧ q < wr.heap.size) := ⟨HI.out.2.lt, HI.out.1.tb.lt, HI.out.1.rb.lt⟩
      clear HI hbel hb'
      obtain ⟨ge, hge⟩ : ∃ ge, ge = wr.heap.size := ⟨_, rfl⟩
      rw [← hge] at HJ HGr
      have HGE : Hid (ge = wr.heap.size) := hge
      go_upto_region 10 with fail
      clear i0 i1 i2 i3 i4 HA
      rw [← HGE.out]
      generalize (wr.alloc (.cells #[.int .i64 x.k, .int .i64 x.c, .int .i64 x.p, .int .i64 x.a, .int .i64 x.b] 32)) = W0 at *
      clear hge HGE e0'
      have HL : Hid (∀ i, T i < 16) := HJ.out.1.tb.le
      have HN : Hid (g ≠ q) := HJ.out.1.ne
      have d0 := HJ.out.2.2.1.c0
      have d1 := HJ.out.2.2.1.c1
      have d2 := HJ.out.2.2.1.c2
      have d3 := HJ.out.2.2.1.c3
      have d4 := HJ.out.2.2.1.c4
      go_upto_block 2 with fail
      go_cut [9, 10] (fun v y wx => ∃ (T' : Nat → Nat) (B : Bool), v = .bool B ∧ y = .bool B ∧ Hid (Two wx g q T' ∧ Ac5 wx w.heap.size x1 ∧ Ac5 wx ge x) ∧ Below w.heap.size w wx)
      case first =>
        by_cases k0 : x.k = 0
        · have e0 : (x.k == 0) = true := by simp [k0]
          obtain ⟨B, hB⟩ : ∃ B, gOk T x.c x.p x.a x.b = B := ⟨_, rfl⟩
          have hgr := grant_any W0 g T HJ.out.1.tb x.c x.p x.a x.b B hB
          have hrg := rgrant_any T HL.out x.c x.p x.a x.b
          rw [hB] at hrg
          have HRG : Hid (∀ w, Calls Try.prog 14 #[.agg (rfA T), .int .i64 x.c, .int .i64 x.p, .int .i64 x.a, .int .i64 x.b] w fun e w' => e = .returned (.tuple #[.agg (rfA (gT T x.c x.p x.a x.b)), .bool B]) ∧ Below w.heap.size w w') := hrg
          clear k0 hB hrg
          go_upto_region 14 with (go_at_call 10; refine hgr.mono ?_; rintro e w4 ⟨rfl, H4, o4⟩)
          have hR4 : Rb w4 q T := HJ.out.1.rb.off o4 HN.out.symm
          have hq4 : Ac5 w4 w.heap.size x1 := HJ.out.2.1.off o4 (by have := HG.out; omega)
          have he4 : Ac5 w4 ge x := HJ.out.2.2.1.off o4 (by have := HGr.out; omega)
          have hB4 : Below w.heap.size w w4 := HJ.out.2.2.2.trans (o4.below (by have := HG.out; omega) HJ.out.2.2.2.size)
          clear d1 d2 d3 d4
          have d1 := he4.c1
          have d2 := he4.c2
          have d3 := he4.c3
          have d4 := he4.c4
          clear d0
          refine wp_region_lit ?_
          refine wpList_load37 rfl _ rfl q T rfl hR4 ?_
          refine wpList_plain rfl fun K1 hK1 => ?_
          go_step
          refine hK1 _ _ ?_
          clear hK1 K1
          refine wpList_plain rfl fun K1 hK1 => ?_
          go_step
          refine hK1 _ _ ?_
          clear hK1 K1
          refine wpList_plain rfl fun K1 hK1 => ?_
          go_step
          refine hK1 _ _ ?_
          clear hK1 K1
          refine wpList_plain rfl fun K1 hK1 => ?_
          go_step
          refine hK1 _ _ ?_
          clear hK1 K1
          refine wpList_plain rfl fun K1 hK1 => ?_
          go_step
          refine hK1 _ _ ?_
          clear hK1 K1
          refine wpList_plain rfl fun K1 hK1 => ?_
          go_step
          refine hK1 _ _ ?_
          clear hK1 K1
          refine wpList_plain rfl fun K1 hK1 => ?_
          go_step
          refine hK1 _ _ ?_
          clear hK1 K1
          refine wpList_plain rfl fun K1 hK1 => ?_
          go_step
          refine hK1 _ _ ?_
          clear hK1 K1
          refine wpList_callP rfl 14 #[.agg (rfA T), .int .i64 x.c, .int .i64 x.p, .int .i64 x.a, .int .i64 x.b] (by simp [go_sem]) (HRG.out w4) ?_
          rintro e w5 ⟨rfl, hb5⟩
          refine ⟨_, rfl, ?_⟩
          refine wpList_plain rfl fun K1 hK1 => ?_
          go_step
          refine hK1 _ _ ?_
          clear hK1 K1
          refine wpList_plain rfl fun K1 hK1 => ?_
          go_step
          refine hK1 _ _ ?_
          clear hK1 K1
          refine wpList_plain rfl fun K1 hK1 => ?_
          go_step
          refine hK1 _ _ ?_
          clear hK1 K1
          refine wpList_store37 rfl _ _ rfl q (gT T x.c x.p x.a x.b) T rfl rfl (hR4.below hb5) ?_
          intro w6 hR6 ho6
          refine wpList_plain rfl fun K1 hK1 => ?_
          go_step
          refine hK1 _ _ ?_
          clear hK1 K1
          refine wpList_nil ?_
          have hTw : Two w6 g q (gT T x.c x.p x.a x.b) := ⟨(H4.below hb5).off ho6 HN.out, hR6, HJ.out.1.so.gT _ _ _ _, HN.out⟩
          have hq6 : Ac5 w6 w.heap.size x1 := (hq4.below hb5).off ho6 (by have := HG.out; omega)
          have he6 : Ac5 w6 ge x := (he4.below hb5).off ho6 (by have := HGr.out; omega)
          have hB6 : Below w.heap.size w w6 := (below_step hB4 hb5).trans (ho6.below (by have := HG.out; omega) (below_step hB4 hb5).size)
          have HF : Hid (Two w6 g q (gT T x.c x.p x.a x.b) ∧ Ac5 w6 w.heap.size x1 ∧ Ac5 w6 ge x) := ⟨hTw, hq6, he6⟩
          clear hTw hq6 he6 hR6 ho6 hb5 H4 hq4 he4 hB4 d1 d2 d3 d4
          go_wp2
          go_meet
          exact ⟨_, B, rfl, rfl, HF.out, hB6⟩
        by_cases k1 : x.k = 1
        · have e0 : (x.k == 0) = false := by simpa using k0
          have e1 : (x.k == 1) = true := by simp [k1]
          have hgr := drop_any W0 g T HJ.out.1.tb x.c x.p x.a x.b
          have HRG : Hid (∀ w, Calls Try.prog 16 #[.agg (rfA T), .int .i64 x.c, .int .i64 x.p, .int .i64 x.a, .int .i64 x.b] w fun e w' => e = .returned (.agg (rfA (dT T x.c x.p x.a x.b))) ∧ Below w.heap.size w w') := rdrop_any T HL.out x.c x.p x.a x.b
          clear k0 k1
          go_upto_region 17 with (go_at_call 15; refine hgr.mono ?_; rintro e w4 ⟨rfl, H4, o4⟩)
          have hR4 : Rb w4 q T := HJ.out.1.rb.off o4 HN.out.symm
          have hq4 : Ac5 w4 w.heap.size x1 := HJ.out.2.1.off o4 (by have := HG.out; omega)
          have he4 : Ac5 w4 ge x := HJ.out.2.2.1.off o4 (by have := HGr.out; omega)
          have hB4 : Below w.heap.size w w4 := HJ.out.2.2.2.trans (o4.below (by have := HG.out; omega) HJ.out.2.2.2.size)
          clear d1 d2 d3 d4
          have d1 := he4.c1
          have d2 := he4.c2
          have d3 := he4.c3
          have d4 := he4.c4
          clear d0
          refine wp_region_lit ?_
          refine wpList_load37 rfl _ rfl q T rfl hR4 ?_
          refine wpList_plain rfl fun K1 hK1 => ?_
          go_step
          refine hK1 _ _ ?_
          clear hK1 K1
          refine wpList_plain rfl fun K1 hK1 => ?_
          go_step
          refine hK1 _ _ ?_
          clear hK1 K1
          refine wpList_plain rfl fun K1 hK1 => ?_
          go_step
          refine hK1 _ _ ?_
          clear hK1 K1
          refine wpList_plain rfl fun K1 hK1 => ?_
          go_step
          refine hK1 _ _ ?_
          clear hK1 K1
          refine wpList_plain rfl fun K1 hK1 => ?_
          go_step
          refine hK1 _ _ ?_
          clear hK1 K1
          refine wpList_plain rfl fun K1 hK1 => ?_
          go_step
          refine hK1 _ _ ?_
          clear hK1 K1
          refine wpList_plain rfl fun K1 hK1 => ?_
          go_step
          refine hK1 _ _ ?_
          clear hK1 K1
          refine wpList_plain rfl fun K1 hK1 => ?_
          go_step
          refine hK1 _ _ ?_
          clear hK1 K1
          refine wpList_callP rfl 16 #[.agg (rfA T), .int .i64 x.c, .int .i64 x.p, .int .i64 x.a, .int .i64 x.b] (by simp [go_sem]) (HRG.out w4) ?_
          rintro e w5 ⟨rfl, hb5⟩
          refine ⟨_, rfl, ?_⟩
          refine wpList_store37 rfl _ _ rfl q (dT T x.c x.p x.a x.b) T rfl rfl (hR4.below hb5) ?_
          intro w6 hR6 ho6
          refine wpList_nil ?_
          have hTw : Two w6 g q (dT T x.c x.p x.a x.b) := ⟨(H4.below hb5).off ho6 HN.out, hR6, HJ.out.1.so.dT _ _ _ _, HN.out⟩
          have hq6 : Ac5 w6 w.heap.size x1 := (hq4.below hb5).off ho6 (by have := HG.out; omega)
          have he6 : Ac5 w6 ge x := (he4.below hb5).off ho6 (by have := HGr.out; omega)
          have hB6 : Below w.heap.size w w6 := (below_step hB4 hb5).trans (ho6.below (by have := HG.out; omega) (below_step hB4 hb5).size)
          have HF : Hid (Two w6 g q (dT T x.c x.p x.a x.b) ∧ Ac5 w6 w.heap.size x1 ∧ Ac5 w6 ge x) := ⟨hTw, hq6, he6⟩
          clear hTw hq6 he6 hR6 ho6 hb5 H4 hq4 he4 hB4 d1 d2 d3 d4
          go_wp2
          go_meet
          exact ⟨_, false, rfl, rfl, HF.out, hB6⟩
        by_cases k2 : x.k = 2
        · have e0 : (x.k == 0) = false := by simpa using k0
          have e1 : (x.k == 1) = false := by simpa using k1
          have e2 : (x.k == 2) = true := by simp [k2]
          have hgr := clear_any W0 g T HJ.out.1.tb x.c
          have HRG : Hid (∀ w, Calls Try.prog 18 #[.agg (rfA T), .int .i64 x.c] w fun e w' => e = .returned (.agg (rfA (cT T x.c))) ∧ Below w.heap.size w w') := rclear_any T HL.out x.c
          clear k0 k1 k2
          go_upto_region 20 with (go_at_call 17; refine hgr.mono ?_; rintro e w4 ⟨rfl, H4, o4⟩)
          have hR4 : Rb w4 q T := HJ.out.1.rb.off o4 HN.out.symm
          have hq4 : Ac5 w4 w.heap.size x1 := HJ.out.2.1.off o4 (by have := HG.out; omega)
          have he4 : Ac5 w4 ge x := HJ.out.2.2.1.off o4 (by have := HGr.out; omega)
          have hB4 : Below w.heap.size w w4 := HJ.out.2.2.2.trans (o4.below (by have := HG.out; omega) HJ.out.2.2.2.size)
          clear d1 d2 d3 d4
          have d1 := he4.c1
          have d2 := he4.c2
          have d3 := he4.c3
          have d4 := he4.c4
          clear d0
          refine wp_region_lit ?_
          refine wpList_load37 rfl _ rfl q T rfl hR4 ?_
          refine wpList_plain rfl fun K1 hK1 => ?_
          go_step
          refine hK1 _ _ ?_
          clear hK1 K1
          refine wpList_plain rfl fun K1 hK1 => ?_
          go_step
          refine hK1 _ _ ?_
          clear hK1 K1
          refine wpList_callP rfl 18 #[.agg (rfA T), .int .i64 x.c] (by simp [go_sem]) (HRG.out w4) ?_
          rintro e w5 ⟨rfl, hb5⟩
          refine ⟨_, rfl, ?_⟩
          refine wpList_store37 rfl _ _ rfl q (cT T x.c) T rfl rfl (hR4.below hb5) ?_
          intro w6 hR6 ho6
          refine wpList_nil ?_
          have hTw : Two w6 g q (cT T x.c) := ⟨(H4.below hb5).off ho6 HN.out, hR6, HJ.out.1.so.cT _, HN.out⟩
          have hq6 : Ac5 w6 w.heap.size x1 := (hq4.below hb5).off ho6 (by have := HG.out; omega)
          have he6 : Ac5 w6 ge x := (he4.below hb5).off ho6 (by have := HGr.out; omega)
          have hB6 : Below w.heap.size w w6 := (below_step hB4 hb5).trans (ho6.below (by have := HG.out; omega) (below_step hB4 hb5).size)
          have HF : Hid (Two w6 g q (cT T x.c) ∧ Ac5 w6 w.heap.size x1 ∧ Ac5 w6 ge x) := ⟨hTw, hq6, he6⟩
          clear hTw hq6 he6 hR6 ho6 hb5 H4 hq4 he4 hB4 d1 d2 d3 d4
          go_wp2
          go_meet
          exact ⟨_, false, rfl, rfl, HF.out, hB6⟩
        have e0 : (x.k == 0) = false := by simpa using k0
        have e1 : (x.k == 1) = false := by simpa using k1
        have e2 : (x.k == 2) = false := by simpa using k2
        clear k0 k1 k2
        go_wp2
        go_meet
        exact ⟨T, false, rfl, rfl, ⟨HJ.out.1, HJ.out.2.1, HJ.out.2.2.1⟩, HJ.out.2.2.2⟩
      case rest =>
        obtain ⟨T', B, rfl, rfl, HT, hbx⟩ := hcut
        rename World => wc
        clear HJ HL d0 d1 d2 d3 d4
        obtain ⟨z1, hz1⟩ : ∃ z : Int, ((cpI T' x.c x.p : Nat) : Int) = z := ⟨_, rfl⟩
        obtain ⟨z2, hz2⟩ : ∃ z : Int, ((owI T' x.c x.p : Nat) : Int) = z := ⟨_, rfl⟩
        have hl := HT.out.1.tb.le
        have K19 : Hid (∀ W, Below wc.heap.size wc W → Calls Try.prog 19 #[tp g, .int .i64 x.c, .int .i64 x.p] W fun e w' => e = .returned (.int .i64 z1) ∧ Below wc.heap.size wc w') := fun W hW => (copies_is W g T' (HT.out.1.tb.below hW) x.c x.p z1 hz1).mono fun e w' h => ⟨h.1, h.2 ▸ hW⟩
        have K21 : Hid (∀ W, Below wc.heap.size wc W → Calls Try.prog 21 #[tp g, .int .i64 x.c, .int .i64 x.p] W fun e w' => e = .returned (.int .i64 z2) ∧ Below wc.heap.size wc w') := fun W hW => (own_is W g T' (HT.out.1.tb.below hW) x.c x.p z2 hz2).mono fun e w' h => ⟨h.1, h.2 ▸ hW⟩
        have K20 : Hid (∀ W, Below wc.heap.size wc W → Calls Try.prog 20 #[.agg (rfA T'), .int .i64 x.c, .int .i64 x.p] W fun e w' => e = .returned (.int .i64 z1) ∧ Below wc.heap.size wc w') := fun W hW => (rcopies_is T' hl x.c x.p W z1 hz1).mono fun e w' h => ⟨h.1, below_step hW h.2⟩
        have K22 : Hid (∀ W, Below wc.heap.size wc W → Calls Try.prog 22 #[.agg (rfA T'), .int .i64 x.c, .int .i64 x.p] W fun e w' => e = .returned (.int .i64 z2) ∧ Below wc.heap.size wc w') := fun W hW => (rowns_is T' hl x.c x.p W z2 hz2).mono fun e w' h => ⟨h.1, below_step hW h.2⟩
        have HSS : Hid (∀ W, Below wc.heap.size wc W → (Instr.loadAt 37 (.pointer (some ⟨q, 0, none⟩))).run Try.prog W = .ok (.agg (rfA T')) W ∧ W.cell? ⟨ge, 1, none⟩ = some (.int .i64 x.c) ∧ W.cell? ⟨ge, 2, none⟩ = some (.int .i64 x.p)) := fun W hW => ⟨load37 (HT.out.1.rb.below hW), (HT.out.2.2.below hW).c1, (HT.out.2.2.below hW).c2⟩
        have HTW : Hid (∀ W, Below wc.heap.size wc W → (Two W g q T' ∧ Ac5 W w.heap.size x1) ∧ Below w.heap.size w W) := fun W hW => ⟨⟨HT.out.1.below hW, HT.out.2.1.below hW⟩, below_step hbx hW⟩
        clear hz1 hz2 hl HT hbx
        have hbD : Below wc.heap.size wc wc.drew := ⟨rfl, rfl, rfl, Nat.le_refl _, fun _ _ => rfl⟩
        have HCL : Hid (∀ W, Below wc.heap.size wc W → W.cell? ⟨ge, 1, none⟩ = some (.int .i64 x.c) ∧ W.cell? ⟨ge, 2, none⟩ = some (.int .i64 x.p)) := fun W hW => (HSS.out W hW).2
        go_upto_region 21 with fail
        refine wp_region_sure (fun W => Below wc.heap.size wc W) (by kernel_rfl) hbD ?_
        refine Sure.val (i := 0) ?_ 87 rfl rfl (by kernel_rfl) (by kernel_rfl) (by kernel_rfl) (by rfl) ?_ ?_
        rotate_left
        · (intro w hSw; go_simp; first | done | with_reducible rfl)
        simp only [Act.put, List.setIfInBounds_toArray, List.set_cons_zero, List.set_cons_succ]
        refine Sure.val (i := 1) ?_ 88 rfl rfl (by kernel_rfl) (by kernel_rfl) (by kernel_rfl) (by rfl) ?_ ?_
        rotate_left
        · (intro w hSw; go_simp; first | done | with_reducible rfl)
        simp only [Act.put, List.setIfInBounds_toArray, List.set_cons_zero, List.set_cons_succ]
        refine Sure.val (i := 2) ?_ 89 rfl rfl (by kernel_rfl) (by kernel_rfl) (by kernel_rfl) (by rfl) ?_ ?_
        rotate_left
        · (intro w hSw; go_simp; first | done | with_reducible rfl)
        simp only [Act.put, List.setIfInBounds_toArray, List.set_cons_zero, List.set_cons_succ]
        refine Sure.val (i := 3) ?_ 90 rfl rfl (by kernel_rfl) (by kernel_rfl) (by kernel_rfl) (by rfl) ?_ ?_
        rotate_left
        · (intro w hSw; go_simp; first | done | with_reducible rfl)
        simp only [Act.put, List.setIfInBounds_toArray, List.set_cons_zero, List.set_cons_succ]
        refine Sure.val (i := 4) ?_ 91 rfl rfl (by kernel_rfl) (by kernel_rfl) (by kernel_rfl) (by rfl) ?_ ?_
        rotate_left
        · (intro w hSw; go_simp; first | done | with_reducible rfl)
        simp only [Act.put, List.setIfInBounds_toArray, List.set_cons_zero, List.set_cons_succ]
        refine Sure.val (i := 5) ?_ 92 rfl rfl (by kernel_rfl) (by kernel_rfl) (by kernel_rfl) (by rfl) ?_ ?_
        rotate_left
        · (intro w hSw; go_simp; first | done | with_reducible rfl)
        simp only [Act.put, List.setIfInBounds_toArray, List.set_cons_zero, List.set_cons_succ]
        refine Sure.val (i := 6) ?_ 93 rfl rfl (by kernel_rfl) (by kernel_rfl) (by kernel_rfl) (by rfl) ?_ ?_
        rotate_left
        · (intro w hSw; obtain ⟨c1, c2⟩ := HCL.out w hSw; go_simp; first | done | with_reducible rfl)
        simp only [Act.put, List.setIfInBounds_toArray, List.set_cons_zero, List.set_cons_succ]
        refine Sure.val (i := 7) ?_ 94 rfl rfl (by kernel_rfl) (by kernel_rfl) (by kernel_rfl) (by rfl) ?_ ?_
        rotate_left
        · (intro w hSw; go_simp; first | done | with_reducible rfl)
        simp only [Act.put, List.setIfInBounds_toArray, List.set_cons_zero, List.set_cons_succ]
        refine Sure.val (i := 8) ?_ 95 rfl rfl (by kernel_rfl) (by kernel_rfl) (by kernel_rfl) (by rfl) ?_ ?_
        rotate_left
        · (intro w hSw; obtain ⟨c1, c2⟩ := HCL.out w hSw; go_simp; first | done | with_reducible rfl)
        simp only [Act.put, List.setIfInBounds_toArray, List.set_cons_zero, List.set_cons_succ]
        refine Sure.call (i := 9) (.int .i64 z1) 96 19 #[tp g, .int .i64 x.c, .int .i64 x.p] rfl rfl (by kernel_rfl) (by kernel_rfl) (by kernel_rfl) (by rfl) (fun w hSw => by simp [go_sem]) K19.out ?_
        simp only [Act.put, List.setIfInBounds_toArray, List.set_cons_zero, List.set_cons_succ]
        refine Sure.val (i := 10) (.agg (rfA T')) 97 rfl rfl (by kernel_rfl) (by kernel_rfl) (by kernel_rfl) (by rfl) (fun w hSw => exec_load37 _ rfl rfl ((HTW.out w hSw).1.1.rb)) ?_
        simp only [Act.put, List.setIfInBounds_toArray, List.set_cons_zero, List.set_cons_succ]
        refine Sure.val (i := 11) ?_ 98 rfl rfl (by kernel_rfl) (by kernel_rfl) (by kernel_rfl) (by rfl) ?_ ?_
        rotate_left
        · (intro w hSw; go_simp; first | done | with_reducible rfl)
        simp only [Act.put, List.setIfInBounds_toArray, List.set_cons_zero, List.set_cons_succ]
        refine Sure.val (i := 12) ?_ 99 rfl rfl (by kernel_rfl) (by kernel_rfl) (by kernel_rfl) (by rfl) ?_ ?_
        rotate_left
        · (intro w hSw; obtain ⟨c1, c2⟩ := HCL.out w hSw; go_simp; first | done | with_reducible rfl)
        simp only [Act.put, List.setIfInBounds_toArray, List.set_cons_zero, List.set_cons_succ]
        refine Sure.val (i := 13) ?_ 100 rfl rfl (by kernel_rfl) (by kernel_rfl) (by kernel_rfl) (by rfl) ?_ ?_
        rotate_left
        · (intro w hSw; go_simp; first | done | with_reducible rfl)
        simp only [Act.put, List.setIfInBounds_toArray, List.set_cons_zero, List.set_cons_succ]
        refine Sure.val (i := 14) ?_ 101 rfl rfl (by kernel_rfl) (by kernel_rfl) (by kernel_rfl) (by rfl) ?_ ?_
        rotate_left
        · (intro w hSw; obtain ⟨c1, c2⟩ := HCL.out w hSw; go_simp; first | done | with_reducible rfl)
        simp only [Act.put, List.setIfInBounds_toArray, List.set_cons_zero, List.set_cons_succ]
        refine Sure.call (i := 15) (.int .i64 z1) 102 20 #[.agg (rfA T'), .int .i64 x.c, .int .i64 x.p] rfl rfl (by kernel_rfl) (by kernel_rfl) (by kernel_rfl) (by rfl) (fun w hSw => by simp [go_sem]) K20.out ?_
        simp only [Act.put, List.setIfInBounds_toArray, List.set_cons_zero, List.set_cons_succ]
        refine Sure.val (i := 16) ?_ 103 rfl rfl (by kernel_rfl) (by kernel_rfl) (by kernel_rfl) (by rfl) ?_ ?_
        rotate_left
        · (intro w hSw; go_simp; first | done | with_reducible rfl)
        simp only [Act.put, List.setIfInBounds_toArray, List.set_cons_zero, List.set_cons_succ]
        refine Sure.val (i := 17) ?_ 104 rfl rfl (by kernel_rfl) (by kernel_rfl) (by kernel_rfl) (by rfl) ?_ ?_
        rotate_left
        · (intro w hSw; go_simp; first | done | with_reducible rfl)
        simp only [Act.put, List.setIfInBounds_toArray, List.set_cons_zero, List.set_cons_succ]
        refine Sure.val (i := 18) ?_ 105 rfl rfl (by kernel_rfl) (by kernel_rfl) (by kernel_rfl) (by rfl) ?_ ?_
        rotate_left
        · (intro w hSw; go_simp; first | done | with_reducible rfl)
        simp only [Act.put, List.setIfInBounds_toArray, List.set_cons_zero, List.set_cons_succ]
        refine Sure.val (i := 19) ?_ 106 rfl rfl (by kernel_rfl) (by kernel_rfl) (by kernel_rfl) (by rfl) ?_ ?_
        rotate_left
        · (intro w hSw; go_simp; first | done | with_reducible rfl)
        simp only [Act.put, List.setIfInBounds_toArray, List.set_cons_zero, List.set_cons_succ]
        refine Sure.val (i := 20) ?_ 107 rfl rfl (by kernel_rfl) (by kernel_rfl) (by kernel_rfl) (by rfl) ?_ ?_
        rotate_left
        · (intro w hSw; go_simp; first | done | with_reducible rfl)
        simp only [Act.put, List.setIfInBounds_toArray, List.set_cons_zero, List.set_cons_succ]
        refine Sure.val (i := 21) ?_ 108 rfl rfl (by kernel_rfl) (by kernel_rfl) (by kernel_rfl) (by rfl) ?_ ?_
        rotate_left
        · (intro w hSw; obtain ⟨c1, c2⟩ := HCL.out w hSw; go_simp; first | done | with_reducible rfl)
        simp only [Act.put, List.setIfInBounds_toArray, List.set_cons_zero, List.set_cons_succ]
        refine Sure.val (i := 22) ?_ 109 rfl rfl (by kernel_rfl) (by kernel_rfl) (by kernel_rfl) (by rfl) ?_ ?_
        rotate_left
        · (intro w hSw; go_simp; first | done | with_reducible rfl)
        simp only [Act.put, List.setIfInBounds_toArray, List.set_cons_zero, List.set_cons_succ]
        refine Sure.val (i := 23) ?_ 110 rfl rfl (by kernel_rfl) (by kernel_rfl) (by kernel_rfl) (by rfl) ?_ ?_
        rotate_left
        · (intro w hSw; obtain ⟨c1, c2⟩ := HCL.out w hSw; go_simp; first | done | with_reducible rfl)
        simp only [Act.put, List.setIfInBounds_toArray, List.set_cons_zero, List.set_cons_succ]
        refine Sure.call (i := 24) (.int .i64 z2) 111 21 #[tp g, .int .i64 x.c, .int .i64 x.p] rfl rfl (by kernel_rfl) (by kernel_rfl) (by kernel_rfl) (by rfl) (fun w hSw => by simp [go_sem]) K21.out ?_
        simp only [Act.put, List.setIfInBounds_toArray, List.set_cons_zero, List.set_cons_succ]
        refine Sure.val (i := 25) (.agg (rfA T')) 112 rfl rfl (by kernel_rfl) (by kernel_rfl) (by kernel_rfl) (by rfl) (fun w hSw => exec_load37 _ rfl rfl ((HTW.out w hSw).1.1.rb)) ?_
        simp only [Act.put, List.setIfInBounds_toArray, List.set_cons_zero, List.set_cons_succ]
        refine Sure.val (i := 26) ?_ 113 rfl rfl (by kernel_rfl) (by kernel_rfl) (by kernel_rfl) (by rfl) ?_ ?_
        rotate_left
        · (intro w hSw; go_simp; first | done | with_reducible rfl)
        simp only [Act.put, List.setIfInBounds_toArray, List.set_cons_zero, List.set_cons_succ]
        refine Sure.val (i := 27) ?_ 114 rfl rfl (by kernel_rfl) (by kernel_rfl) (by kernel_rfl) (by rfl) ?_ ?_
        rotate_left
        · (intro w hSw; obtain ⟨c1, c2⟩ := HCL.out w hSw; go_simp; first | done | with_reducible rfl)
        simp only [Act.put, List.setIfInBounds_toArray, List.set_cons_zero, List.set_cons_succ]
        refine Sure.val (i := 28) ?_ 115 rfl rfl (by kernel_rfl) (by kernel_rfl) (by kernel_rfl) (by rfl) ?_ ?_
        rotate_left
        · (intro w hSw; go_simp; first | done | with_reducible rfl)
        simp only [Act.put, List.setIfInBounds_toArray, List.set_cons_zero, List.set_cons_succ]
        refine Sure.val (i := 29) ?_ 116 rfl rfl (by kernel_rfl) (by kernel_rfl) (by kernel_rfl) (by rfl) ?_ ?_
        rotate_left
        · (intro w hSw; obtain ⟨c1, c2⟩ := HCL.out w hSw; go_simp; first | done | with_reducible rfl)
        simp only [Act.put, List.setIfInBounds_toArray, List.set_cons_zero, List.set_cons_succ]
        refine Sure.call (i := 30) (.int .i64 z2) 117 22 #[.agg (rfA T'), .int .i64 x.c, .int .i64 x.p] rfl rfl (by kernel_rfl) (by kernel_rfl) (by kernel_rfl) (by rfl) (fun w hSw => by simp [go_sem]) K22.out ?_
        simp only [Act.put, List.setIfInBounds_toArray, List.set_cons_zero, List.set_cons_succ]
        refine Sure.val (i := 31) ?_ 118 rfl rfl (by kernel_rfl) (by kernel_rfl) (by kernel_rfl) (by rfl) ?_ ?_
        rotate_left
        · (intro w hSw; go_simp; first | done | with_reducible rfl)
        simp only [Act.put, List.setIfInBounds_toArray, List.set_cons_zero, List.set_cons_succ]
        refine Sure.val (i := 32) ?_ 119 rfl rfl (by kernel_rfl) (by kernel_rfl) (by kernel_rfl) (by rfl) ?_ ?_
        rotate_left
        · (intro w hSw; go_simp; first | done | with_reducible rfl)
        simp only [Act.put, List.setIfInBounds_toArray, List.set_cons_zero, List.set_cons_succ]
        refine Sure.done (by kernel_rfl) ?_ _
        intro w' hSw'
        obtain ⟨hI', hB'⟩ := HTW.out w' hSw'
        have HI' : Hid (Two w' g q T' ∧ Ac5 w' w.heap.size x1) := hI'
        clear hI' HTW HSS HCL K19 K20 K21 K22 hbD hSw' HGr HN
        go_wp2
        go_roundw
        case rel => exact ⟨k + 1, T', by omega, by go_num, HI'.out, hB'⟩
        case measure => simp [intOf]; omega
    · obtain rfl : k = n0 := by omega
      have e0' : decide ((k : Int) < k) = false := by simp
      clear HA
      go_wp2
      go_loopw [11] (fun i wr => ∃ c : Nat, c ≤ 4 ∧ i = .int .i64 c ∧ Hid (Two wr g q T ∧ Ac5 wr w.heap.size x1) ∧ Below w.heap.size w wr) (fun i _ => 4 - (intOf i).toNat)
      case atStart => exact ⟨0, by omega, rfl, HI.out, hbel⟩
      case round =>
        clear HI hbel
        obtain ⟨c, hc, rfl, HI, hbel⟩ := hrel
        by_cases hc4 : c < 4
        · have e4 : decide ((c : Int) < 4) = true := by simp; omega
          go_wp2
          go_loopw [12] (fun i wr => ∃ p : Nat, p ≤ 6 ∧ i = .int .i64 p ∧ Hid (Two wr g q T ∧ Ac5 wr w.heap.size x1) ∧ Below w.heap.size w wr) (fun i _ => 6 - (intOf i).toNat)
          case atStart => exact ⟨0, by omega, rfl, HI.out, hbel⟩
          case round =>
            clear HI hbel
            obtain ⟨p, hp, rfl, HI, hbel⟩ := hrel
            rename World => wc
            by_cases hp6 : p < 6
            · have e6 : decide ((p : Int) < 6) = true := by simp; omega
              obtain ⟨z1, hz1⟩ : ∃ z : Int, ((cpI T c p : Nat) : Int) = z := ⟨_, rfl⟩
              obtain ⟨z2, hz2⟩ : ∃ z : Int, ((owI T c p : Nat) : Int) = z := ⟨_, rfl⟩
              obtain ⟨z3, hz3⟩ : ∃ z : Int, ((frI T c p : Nat) : Int) = z := ⟨_, rfl⟩
              obtain ⟨b4, hb4⟩ : ∃ z, alI T c p = z := ⟨_, rfl⟩
              have hl := HI.out.1.tb.le
              have KS := contracts HI.out.1 hz1 hz2 hz3 hb4
              obtain ⟨K19, K21, K11, K12, K20, K22, K23, K24⟩ := KS
              have HTW : Hid (∀ W, Below wc.heap.size wc W → (Two W g q T ∧ Ac5 W w.heap.size x1) ∧ Below w.heap.size w W) := fun W hW => ⟨⟨HI.out.1.below hW, HI.out.2.below hW⟩, below_step hbel hW⟩
              clear hz1 hz2 hz3 hb4 hl HI hbel
              have hbD : Below wc.heap.size wc wc.drew := ⟨rfl, rfl, rfl, Nat.le_refl _, fun _ _ => rfl⟩
              go_upto_region 30 with fail
              refine wp_region_sure (fun W => Below wc.heap.size wc W) (by kernel_rfl) hbD ?_
              refine Sure.val (i := 0) ?_ 129 rfl rfl (by kernel_rfl) (by kernel_rfl) (by kernel_rfl) (by rfl) ?_ ?_
              rotate_left
              · (intro w hSw; go_simp; first | done | with_reducible rfl)
              simp only [Act.put, List.setIfInBounds_toArray, List.set_cons_zero, List.set_cons_succ]
              refine Sure.val (i := 1) ?_ 130 rfl rfl (by kernel_rfl) (by kernel_rfl) (by kernel_rfl) (by rfl) ?_ ?_
              rotate_left
              · (intro w hSw; go_simp; first | done | with_reducible rfl)
              simp only [Act.put, List.setIfInBounds_toArray, List.set_cons_zero, List.set_cons_succ]
              refine Sure.val (i := 2) ?_ 131 rfl rfl (by kernel_rfl) (by kernel_rfl) (by kernel_rfl) (by rfl) ?_ ?_
              rotate_left
              · (intro w hSw; go_simp; first | done | with_reducible rfl)
              simp only [Act.put, List.setIfInBounds_toArray, List.set_cons_zero, List.set_cons_succ]
              refine Sure.call (i := 3) (.int .i64 z1) 132 19 #[tp g, .int .i64 (c : Int), .int .i64 (p : Int)] rfl rfl (by kernel_rfl) (by kernel_rfl) (by kernel_rfl) (by rfl) (fun w hSw => by simp [go_sem]) K19.out ?_
              simp only [Act.put, List.setIfInBounds_toArray, List.set_cons_zero, List.set_cons_succ]
              refine Sure.val (i := 4) (.agg (rfA T)) 133 rfl rfl (by kernel_rfl) (by kernel_rfl) (by kernel_rfl) (by rfl) (fun w hSw => exec_load37 _ rfl rfl ((HTW.out w hSw).1.1.rb)) ?_
              simp only [Act.put, List.setIfInBounds_toArray, List.set_cons_zero, List.set_cons_succ]
              refine Sure.val (i := 5) ?_ 134 rfl rfl (by kernel_rfl) (by kernel_rfl) (by kernel_rfl) (by rfl) ?_ ?_
              rotate_left
              · (intro w hSw; go_simp; first | done | with_reducible rfl)
              simp only [Act.put, List.setIfInBounds_toArray, List.set_cons_zero, List.set_cons_succ]
              refine Sure.val (i := 6) ?_ 135 rfl rfl (by kernel_rfl) (by kernel_rfl) (by kernel_rfl) (by rfl) ?_ ?_
              rotate_left
              · (intro w hSw; go_simp; first | done | with_reducible rfl)
              simp only [Act.put, List.setIfInBounds_toArray, List.set_cons_zero, List.set_cons_succ]
              refine Sure.call (i := 7) (.int .i64 z1) 136 20 #[.agg (rfA T), .int .i64 (c : Int), .int .i64 (p : Int)] rfl rfl (by kernel_rfl) (by kernel_rfl) (by kernel_rfl) (by rfl) (fun w hSw => by simp [go_sem]) K20.out ?_
              simp only [Act.put, List.setIfInBounds_toArray, List.set_cons_zero, List.set_cons_succ]
              refine Sure.val (i := 8) ?_ 137 rfl rfl (by kernel_rfl) (by kernel_rfl) (by kernel_rfl) (by rfl) ?_ ?_
              rotate_left
              · (intro w hSw; go_simp; first | done | with_reducible rfl)
              simp only [Act.put, List.setIfInBounds_toArray, List.set_cons_zero, List.set_cons_succ]
              refine Sure.val (i := 9) ?_ 138 rfl rfl (by kernel_rfl) (by kernel_rfl) (by kernel_rfl) (by rfl) ?_ ?_
              rotate_left
              · (intro w hSw; go_simp; first | done | with_reducible rfl)
              simp only [Act.put, List.setIfInBounds_toArray, List.set_cons_zero, List.set_cons_succ]
              refine Sure.val (i := 10) ?_ 139 rfl rfl (by kernel_rfl) (by kernel_rfl) (by kernel_rfl) (by rfl) ?_ ?_
              rotate_left
              · (intro w hSw; go_simp; first | done | with_reducible rfl)
              simp only [Act.put, List.setIfInBounds_toArray, List.set_cons_zero, List.set_cons_succ]
              refine Sure.val (i := 11) ?_ 140 rfl rfl (by kernel_rfl) (by kernel_rfl) (by kernel_rfl) (by rfl) ?_ ?_
              rotate_left
              · (intro w hSw; go_simp; first | done | with_reducible rfl)
              simp only [Act.put, List.setIfInBounds_toArray, List.set_cons_zero, List.set_cons_succ]
              refine Sure.val (i := 12) ?_ 141 rfl rfl (by kernel_rfl) (by kernel_rfl) (by kernel_rfl) (by rfl) ?_ ?_
              rotate_left
              · (intro w hSw; go_simp; first | done | with_reducible rfl)
              simp only [Act.put, List.setIfInBounds_toArray, List.set_cons_zero, List.set_cons_succ]
              refine Sure.call (i := 13) (.int .i64 z2) 142 21 #[tp g, .int .i64 (c : Int), .int .i64 (p : Int)] rfl rfl (by kernel_rfl) (by kernel_rfl) (by kernel_rfl) (by rfl) (fun w hSw => by simp [go_sem]) K21.out ?_
              simp only [Act.put, List.setIfInBounds_toArray, List.set_cons_zero, List.set_cons_succ]
              refine Sure.val (i := 14) (.agg (rfA T)) 143 rfl rfl (by kernel_rfl) (by kernel_rfl) (by kernel_rfl) (by rfl) (fun w hSw => exec_load37 _ rfl rfl ((HTW.out w hSw).1.1.rb)) ?_
              simp only [Act.put, List.setIfInBounds_toArray, List.set_cons_zero, List.set_cons_succ]
              refine Sure.val (i := 15) ?_ 144 rfl rfl (by kernel_rfl) (by kernel_rfl) (by kernel_rfl) (by rfl) ?_ ?_
              rotate_left
              · (intro w hSw; go_simp; first | done | with_reducible rfl)
              simp only [Act.put, List.setIfInBounds_toArray, List.set_cons_zero, List.set_cons_succ]
              refine Sure.val (i := 16) ?_ 145 rfl rfl (by kernel_rfl) (by kernel_rfl) (by kernel_rfl) (by rfl) ?_ ?_
              rotate_left
              · (intro w hSw; go_simp; first | done | with_reducible rfl)
              simp only [Act.put, List.setIfInBounds_toArray, List.set_cons_zero, List.set_cons_succ]
              refine Sure.call (i := 17) (.int .i64 z2) 146 22 #[.agg (rfA T), .int .i64 (c : Int), .int .i64 (p : Int)] rfl rfl (by kernel_rfl) (by kernel_rfl) (by kernel_rfl) (by rfl) (fun w hSw => by simp [go_sem]) K22.out ?_
              simp only [Act.put, List.setIfInBounds_toArray, List.set_cons_zero, List.set_cons_succ]
              refine Sure.val (i := 18) ?_ 147 rfl rfl (by kernel_rfl) (by kernel_rfl) (by kernel_rfl) (by rfl) ?_ ?_
              rotate_left
              · (intro w hSw; go_simp; first | done | with_reducible rfl)
              simp only [Act.put, List.setIfInBounds_toArray, List.set_cons_zero, List.set_cons_succ]
              refine Sure.val (i := 19) ?_ 148 rfl rfl (by kernel_rfl) (by kernel_rfl) (by kernel_rfl) (by rfl) ?_ ?_
              rotate_left
              · (intro w hSw; go_simp; first | done | with_reducible rfl)
              simp only [Act.put, List.setIfInBounds_toArray, List.set_cons_zero, List.set_cons_succ]
              refine Sure.val (i := 20) ?_ 149 rfl rfl (by kernel_rfl) (by kernel_rfl) (by kernel_rfl) (by rfl) ?_ ?_
              rotate_left
              · (intro w hSw; go_simp; first | done | with_reducible rfl)
              simp only [Act.put, List.setIfInBounds_toArray, List.set_cons_zero, List.set_cons_succ]
              refine Sure.val (i := 21) ?_ 150 rfl rfl (by kernel_rfl) (by kernel_rfl) (by kernel_rfl) (by rfl) ?_ ?_
              rotate_left
              · (intro w hSw; go_simp; first | done | with_reducible rfl)
              simp only [Act.put, List.setIfInBounds_toArray, List.set_cons_zero, List.set_cons_succ]
              refine Sure.val (i := 22) ?_ 151 rfl rfl (by kernel_rfl) (by kernel_rfl) (by kernel_rfl) (by rfl) ?_ ?_
              rotate_left
              · (intro w hSw; go_simp; first | done | with_reducible rfl)
              simp only [Act.put, List.setIfInBounds_toArray, List.set_cons_zero, List.set_cons_succ]
              refine Sure.val (i := 23) ?_ 152 rfl rfl (by kernel_rfl) (by kernel_rfl) (by kernel_rfl) (by rfl) ?_ ?_
              rotate_left
              · (intro w hSw; go_simp; first | done | with_reducible rfl)
              simp only [Act.put, List.setIfInBounds_toArray, List.set_cons_zero, List.set_cons_succ]
              refine Sure.call (i := 24) (.int .i64 z3) 153 11 #[tp g, .int .i64 (c : Int), .int .i64 (p : Int)] rfl rfl (by kernel_rfl) (by kernel_rfl) (by kernel_rfl) (by rfl) (fun w hSw => by simp [go_sem]) K11.out ?_
              simp only [Act.put, List.setIfInBounds_toArray, List.set_cons_zero, List.set_cons_succ]
              refine Sure.val (i := 25) (.agg (rfA T)) 154 rfl rfl (by kernel_rfl) (by kernel_rfl) (by kernel_rfl) (by rfl) (fun w hSw => exec_load37 _ rfl rfl ((HTW.out w hSw).1.1.rb)) ?_
              simp only [Act.put, List.setIfInBounds_toArray, List.set_cons_zero, List.set_cons_succ]
              refine Sure.val (i := 26) ?_ 155 rfl rfl (by kernel_rfl) (by kernel_rfl) (by kernel_rfl) (by rfl) ?_ ?_
              rotate_left
              · (intro w hSw; go_simp; first | done | with_reducible rfl)
              simp only [Act.put, List.setIfInBounds_toArray, List.set_cons_zero, List.set_cons_succ]
              refine Sure.val (i := 27) ?_ 156 rfl rfl (by kernel_rfl) (by kernel_rfl) (by kernel_rfl) (by rfl) ?_ ?_
              rotate_left
              · (intro w hSw; go_simp; first | done | with_reducible rfl)
              simp only [Act.put, List.setIfInBounds_toArray, List.set_cons_zero, List.set_cons_succ]
              refine Sure.call (i := 28) (.int .i64 z3) 157 23 #[.agg (rfA T), .int .i64 (c : Int), .int .i64 (p : Int)] rfl rfl (by kernel_rfl) (by kernel_rfl) (by kernel_rfl) (by rfl) (fun w hSw => by simp [go_sem]) K23.out ?_
              simp only [Act.put, List.setIfInBounds_toArray, List.set_cons_zero, List.set_cons_succ]
              refine Sure.val (i := 29) ?_ 158 rfl rfl (by kernel_rfl) (by kernel_rfl) (by kernel_rfl) (by rfl) ?_ ?_
              rotate_left
              · (intro w hSw; go_simp; first | done | with_reducible rfl)
              simp only [Act.put, List.setIfInBounds_toArray, List.set_cons_zero, List.set_cons_succ]
              refine Sure.val (i := 30) ?_ 159 rfl rfl (by kernel_rfl) (by kernel_rfl) (by kernel_rfl) (by rfl) ?_ ?_
              rotate_left
              · (intro w hSw; go_simp; first | done | with_reducible rfl)
              simp only [Act.put, List.setIfInBounds_toArray, List.set_cons_zero, List.set_cons_succ]
              refine Sure.val (i := 31) ?_ 160 rfl rfl (by kernel_rfl) (by kernel_rfl) (by kernel_rfl) (by rfl) ?_ ?_
              rotate_left
              · (intro w hSw; go_simp; first | done | with_reducible rfl)
              simp only [Act.put, List.setIfInBounds_toArray, List.set_cons_zero, List.set_cons_succ]
              refine Sure.val (i := 32) ?_ 161 rfl rfl (by kernel_rfl) (by kernel_rfl) (by kernel_rfl) (by rfl) ?_ ?_
              rotate_left
              · (intro w hSw; go_simp; first | done | with_reducible rfl)
              simp only [Act.put, List.setIfInBounds_toArray, List.set_cons_zero, List.set_cons_succ]
              refine Sure.val (i := 33) ?_ 162 rfl rfl (by kernel_rfl) (by kernel_rfl) (by kernel_rfl) (by rfl) ?_ ?_
              rotate_left
              · (intro w hSw; go_simp; first | done | with_reducible rfl)
              simp only [Act.put, List.setIfInBounds_toArray, List.set_cons_zero, List.set_cons_succ]
              refine Sure.val (i := 34) ?_ 163 rfl rfl (by kernel_rfl) (by kernel_rfl) (by kernel_rfl) (by rfl) ?_ ?_
              rotate_left
              · (intro w hSw; go_simp; first | done | with_reducible rfl)
              simp only [Act.put, List.setIfInBounds_toArray, List.set_cons_zero, List.set_cons_succ]
              refine Sure.call (i := 35) (.bool b4) 164 12 #[tp g, .int .i64 (c : Int), .int .i64 (p : Int)] rfl rfl (by kernel_rfl) (by kernel_rfl) (by kernel_rfl) (by rfl) (fun w hSw => by simp [go_sem]) K12.out ?_
              simp only [Act.put, List.setIfInBounds_toArray, List.set_cons_zero, List.set_cons_succ]
              refine Sure.val (i := 36) (.agg (rfA T)) 165 rfl rfl (by kernel_rfl) (by kernel_rfl) (by kernel_rfl) (by rfl) (fun w hSw => exec_load37 _ rfl rfl ((HTW.out w hSw).1.1.rb)) ?_
              simp only [Act.put, List.setIfInBounds_toArray, List.set_cons_zero, List.set_cons_succ]
              refine Sure.val (i := 37) ?_ 166 rfl rfl (by kernel_rfl) (by kernel_rfl) (by kernel_rfl) (by rfl) ?_ ?_
              rotate_left
              · (intro w hSw; go_simp; first | done | with_reducible rfl)
              simp only [Act.put, List.setIfInBounds_toArray, List.set_cons_zero, List.set_cons_succ]
              refine Sure.val (i := 38) ?_ 167 rfl rfl (by kernel_rfl) (by kernel_rfl) (by kernel_rfl) (by rfl) ?_ ?_
              rotate_left
              · (intro w hSw; go_simp; first | done | with_reducible rfl)
              simp only [Act.put, List.setIfInBounds_toArray, List.set_cons_zero, List.set_cons_succ]
              refine Sure.call (i := 39) (.bool b4) 168 24 #[.agg (rfA T), .int .i64 (c : Int), .int .i64 (p : Int)] rfl rfl (by kernel_rfl) (by kernel_rfl) (by kernel_rfl) (by rfl) (fun w hSw => by simp [go_sem]) K24.out ?_
              simp only [Act.put, List.setIfInBounds_toArray, List.set_cons_zero, List.set_cons_succ]
              refine Sure.val (i := 40) ?_ 169 rfl rfl (by kernel_rfl) (by kernel_rfl) (by kernel_rfl) (by rfl) ?_ ?_
              rotate_left
              · (intro w hSw; go_simp; first | done | with_reducible rfl)
              simp only [Act.put, List.setIfInBounds_toArray, List.set_cons_zero, List.set_cons_succ]
              refine Sure.val (i := 41) ?_ 170 rfl rfl (by kernel_rfl) (by kernel_rfl) (by kernel_rfl) (by rfl) ?_ ?_
              rotate_left
              · (intro w hSw; go_simp; first | done | with_reducible rfl)
              simp only [Act.put, List.setIfInBounds_toArray, List.set_cons_zero, List.set_cons_succ]
              refine Sure.done (by kernel_rfl) ?_ _
              intro w' hSw'
              obtain ⟨hI', hB'⟩ := HTW.out w' hSw'
              have HI' : Hid (Two w' g q T ∧ Ac5 w' w.heap.size x1) := hI'
              clear hI' HTW K19 K20 K21 K22 K11 K12 K23 K24 hbD hSw'
              go_wp2
              go_roundw
              case rel => exact ⟨p + 1, by omega, by go_num, HI'.out, hB'⟩
              case measure => simp [intOf]; omega
            · obtain rfl : p = 6 := by omega
              go_wp2
              go_roundw
              case rel => exact ⟨c + 1, by omega, by go_num, HI.out, hbel⟩
              case measure => simp [intOf]; omega
        · obtain rfl : c = 4 := by omega
          rename World => wc
          have e4 : decide (((4 : Nat) : Int) < 4) = false := by simp
          go_upto_region 32 with fail
          obtain ⟨LA, hLA⟩ : ∃ L, hoI T x1.c x1.p x1.a true = L := ⟨_, rfl⟩
          obtain ⟨LB, hLB⟩ : ∃ L, hoI T x1.c x1.p x1.a false = L := ⟨_, rfl⟩
          obtain ⟨nA, hnA⟩ : ∃ n, LA.length = n := ⟨_, rfl⟩
          obtain ⟨nB, hnB⟩ : ∃ n, LB.length = n := ⟨_, rfl⟩
          have hnA4 : nA ≤ 9223372036854775807 := by have := hoI_len T x1.c x1.p x1.a true; rw [hLA, hnA] at this; omega
          have hnB4 : nB ≤ 9223372036854775807 := by have := hoI_len T x1.c x1.p x1.a false; rw [hLB, hnB] at this; omega
          have HLs : Hid (hoI T x1.c x1.p x1.a true = LA ∧ LA.length = nA ∧ hoI T x1.c x1.p x1.a false = LB ∧ LB.length = nB ∧ nA ≤ 9223372036854775807 ∧ nB ≤ 9223372036854775807) := ⟨hLA, hnA, hLB, hnB, hnA4, hnB4⟩
          have hbD : Below wc.heap.size wc wc.drew := ⟨rfl, rfl, rfl, Nat.le_refl _, fun _ _ => rfl⟩
          have KA : Hid (∀ W, Below wc.heap.size wc W → Calls Try.prog 13 #[tp g, .int .i64 x1.c, .int .i64 x1.p, .int .i64 x1.a, .bool true] W fun e w' => ∃ ao cap, e = .returned (.slice ao nA cap) ∧ RdI w' .i64 ao cap LA ∧ Below W.heap.size W w') := fun W hW => (holders_is W g T (HI.out.1.tb.below hW) x1.c x1.p x1.a true LA nA hLA hnA).mono fun e w' ⟨ao, cap, h1, h2, h3⟩ => ⟨ao, cap, h1, h2.rd, h3⟩
          have KB : Hid (∀ W, Below wc.heap.size wc W → Calls Try.prog 13 #[tp g, .int .i64 x1.c, .int .i64 x1.p, .int .i64 x1.a, .bool false] W fun e w' => ∃ ao cap, e = .returned (.slice ao nB cap) ∧ RdI w' .i64 ao cap LB ∧ Below W.heap.size W w') := fun W hW => (holders_is W g T (HI.out.1.tb.below hW) x1.c x1.p x1.a false LB nB hLB hnB).mono fun e w' ⟨ao, cap, h1, h2, h3⟩ => ⟨ao, cap, h1, h2.rd, h3⟩
          have HSS : Hid (∀ W, Below wc.heap.size wc W → W.cell? ⟨w.heap.size, 1, none⟩ = some (.int .i64 x1.c) ∧ W.cell? ⟨w.heap.size, 2, none⟩ = some (.int .i64 x1.p) ∧ W.cell? ⟨w.heap.size, 3, none⟩ = some (.int .i64 x1.a)) := fun W hW => ⟨(HI.out.2.below hW).c1, (HI.out.2.below hW).c2, (HI.out.2.below hW).c3⟩
          clear hLA hLB hnA hnB hnA4 hnB4
          go_cut [13, 14] (fun v u wx => ∃ (aoA : Option Addr) (capA : Nat) (aoB : Option Addr) (capB : Nat), v = .slice aoA nA capA ∧ u = .slice aoB nB capB ∧ Hid (RdI wx .i64 aoA capA LA ∧ RdI wx .i64 aoB capB LB) ∧ Below wc.heap.size wc wx)
          case first =>
            go_region_held (fun W => W.cell? ⟨w.heap.size, 1, none⟩ = some (.int .i64 x1.c) ∧ W.cell? ⟨w.heap.size, 2, none⟩ = some (.int .i64 x1.p) ∧ W.cell? ⟨w.heap.size, 3, none⟩ = some (.int .i64 x1.a))
              (first | with_reducible exact (HSS.out _ hbD) | with_reducible exact (HSS.out _ hBA) | with_reducible exact (HSS.out _ hBB) | fail)
              ((first
                | (go_at_call 13; (with_reducible refine (KA.out _ (by first | with_reducible exact hbD | with_reducible exact hBB)).mono ?_); rintro e wA ⟨aoA, capA, rfl, hrA, hbA⟩; have hBA : Below wc.heap.size wc wA := (by first | exact below_step hbD hbA | exact below_step hBB hbA))
                | (go_at_call 13; (with_reducible refine (KB.out _ (by first | with_reducible exact hbD | with_reducible exact hBA)).mono ?_); rintro e wB ⟨aoB, capB, rfl, hrB, hbB⟩; have hBB : Below wc.heap.size wc wB := (by first | exact below_step hbD hbB | exact below_step hBA hbB))))
            all_goals go_wp2
            all_goals go_meet
            all_goals first
              | exact ⟨aoA, capA, aoB, capB, rfl, rfl, ⟨hrA.below hbB, hrB⟩, hBB⟩
              | exact ⟨aoA, capA, aoB, capB, rfl, rfl, ⟨hrA, hrB.below hbA⟩, hBA⟩
          case rest =>
            obtain ⟨aoA, capA, aoB, capB, rfl, rfl, HAB, hbx⟩ := hcut
            rename World => wx
            have HIx : Hid (Two wx g q T ∧ Ac5 wx w.heap.size x1) := ⟨HI.out.1.below hbx, HI.out.2.below hbx⟩
            have hbelx := below_step hbel hbx
            clear KA KB HSS hbD HI hbx hbel
            obtain ⟨z1, hz1⟩ : ∃ z : Int, ((cpI T x1.c x1.p : Nat) : Int) = z := ⟨_, rfl⟩
            obtain ⟨z2, hz2⟩ : ∃ z : Int, ((owI T x1.c x1.p : Nat) : Int) = z := ⟨_, rfl⟩
            obtain ⟨z3, hz3⟩ : ∃ z : Int, ((frI T x1.c x1.p : Nat) : Int) = z := ⟨_, rfl⟩
            obtain ⟨b4, hb4⟩ : ∃ z, alI T x1.c x1.p = z := ⟨_, rfl⟩
            obtain ⟨-, -, K11, K12, -, -, K23, K24⟩ := contracts HIx.out.1 hz1 hz2 hz3 hb4
            have HL : Hid (∀ i, T i < 16) := HIx.out.1.tb.le
            have HTW : Hid (∀ W, Below wx.heap.size wx W → (Two W g q T ∧ Ac5 W w.heap.size x1) ∧ Below w.heap.size w W) := fun W hW => ⟨⟨HIx.out.1.below hW, HIx.out.2.below hW⟩, below_step hbelx hW⟩
            have HCL : Hid (∀ W, Below wx.heap.size wx W → W.cell? ⟨w.heap.size, 1, none⟩ = some (.int .i64 x1.c) ∧ W.cell? ⟨w.heap.size, 2, none⟩ = some (.int .i64 x1.p) ∧ W.cell? ⟨w.heap.size, 3, none⟩ = some (.int .i64 x1.a)) := fun W hW => ⟨(HIx.out.2.below hW).c1, (HIx.out.2.below hW).c2, (HIx.out.2.below hW).c3⟩
            clear hz1 hz2 hz3 hb4 HIx hbelx
            have hb0 : Below wx.heap.size wx wx.drew := ⟨rfl, rfl, rfl, Nat.le_refl _, fun _ _ => rfl⟩
            go_upto_region 33 with fail
            refine wp_region_held (S := fun W => Below wx.heap.size wx W) (by kernel_rfl) ?_
            show wpAnyH _ _ _ _ _ _ _ _ wx.drew
            refine held_val (i := 0) ?_ 187 rfl rfl (by kernel_rfl) (by kernel_rfl) (by kernel_rfl) (by rfl) (fun _ _ _ h => h) hb0 ?_ ?_
            rotate_left
            · (intro w hSw; go_simp; first | done | with_reducible rfl)
            simp only [Act.put, List.setIfInBounds_toArray, List.set_cons_zero, List.set_cons_succ]
            refine held_val (i := 1) (.agg (rfA T)) 188 rfl rfl (by kernel_rfl) (by kernel_rfl) (by kernel_rfl) (by rfl) (fun _ _ _ h => h) hb0 (fun w hSw => exec_load37 _ rfl rfl ((HTW.out w hSw).1.1.rb)) ?_
            simp only [Act.put, List.setIfInBounds_toArray, List.set_cons_zero, List.set_cons_succ]
            refine held_val (i := 2) ?_ 189 rfl rfl (by kernel_rfl) (by kernel_rfl) (by kernel_rfl) (by rfl) (fun _ _ _ h => h) hb0 ?_ ?_
            rotate_left
            · (intro w hSw; go_simp; first | done | with_reducible rfl)
            simp only [Act.put, List.setIfInBounds_toArray, List.set_cons_zero, List.set_cons_succ]
            refine held_val (i := 3) ?_ 190 rfl rfl (by kernel_rfl) (by kernel_rfl) (by kernel_rfl) (by rfl) (fun _ _ _ h => h) hb0 ?_ ?_
            rotate_left
            · (intro w hSw; obtain ⟨c1, c2, c3⟩ := HCL.out w hSw; go_simp; first | done | with_reducible rfl)
            simp only [Act.put, List.setIfInBounds_toArray, List.set_cons_zero, List.set_cons_succ]
            refine held_val (i := 4) ?_ 191 rfl rfl (by kernel_rfl) (by kernel_rfl) (by kernel_rfl) (by rfl) (fun _ _ _ h => h) hb0 ?_ ?_
            rotate_left
            · (intro w hSw; go_simp; first | done | with_reducible rfl)
            simp only [Act.put, List.setIfInBounds_toArray, List.set_cons_zero, List.set_cons_succ]
            refine held_val (i := 5) ?_ 192 rfl rfl (by kernel_rfl) (by kernel_rfl) (by kernel_rfl) (by rfl) (fun _ _ _ h => h) hb0 ?_ ?_
            rotate_left
            · (intro w hSw; obtain ⟨c1, c2, c3⟩ := HCL.out w hSw; go_simp; first | done | with_reducible rfl)
            simp only [Act.put, List.setIfInBounds_toArray, List.set_cons_zero, List.set_cons_succ]
            refine held_val (i := 6) ?_ 193 rfl rfl (by kernel_rfl) (by kernel_rfl) (by kernel_rfl) (by rfl) (fun _ _ _ h => h) hb0 ?_ ?_
            rotate_left
            · (intro w hSw; go_simp; first | done | with_reducible rfl)
            simp only [Act.put, List.setIfInBounds_toArray, List.set_cons_zero, List.set_cons_succ]
            refine held_val (i := 7) ?_ 194 rfl rfl (by kernel_rfl) (by kernel_rfl) (by kernel_rfl) (by rfl) (fun _ _ _ h => h) hb0 ?_ ?_
            rotate_left
            · (intro w hSw; obtain ⟨c1, c2, c3⟩ := HCL.out w hSw; go_simp; first | done | with_reducible rfl)
            simp only [Act.put, List.setIfInBounds_toArray, List.set_cons_zero, List.set_cons_succ]
            refine held_call (i := 8) 195 26 #[.agg (rfA T), .int .i64 x1.c, .int .i64 x1.p, .int .i64 x1.a, .bool true] rfl rfl (by kernel_rfl) (by rfl) (by simp [go_sem]) (rholders_is T x1.c x1.p x1.a true _ LA nA HLs.out.1 HLs.out.2.1) ?_
            rintro e wE ⟨aoE, capE, rfl, hoE, hbE⟩
            have hb1 : Below wx.heap.size wx wE := below_step hb0 hbE
            refine ⟨_, rfl, hb1, ?_⟩
            simp only [Act.put, List.setIfInBounds_toArray, List.set_cons_zero, List.set_cons_succ]
            refine held_call (i := 9) 196 25 #[.slice aoA nA capA, .slice aoE nA capE] rfl rfl (by kernel_rfl) (by rfl) (by simp [go_sem]) (sameInts_true aoA capA nA aoE capE LA wE (HAB.out.1.below hb1) hoE.rd HLs.out.2.1 HLs.out.2.2.2.2.1) ?_
            rintro e wF ⟨rfl, hbF⟩
            have hb2 : Below wx.heap.size wx wF := below_step hb1 hbF
            refine ⟨_, rfl, hb2, ?_⟩
            simp only [Act.put, List.setIfInBounds_toArray, List.set_cons_zero, List.set_cons_succ]
            refine held_val (i := 10) ?_ 197 rfl rfl (by kernel_rfl) (by kernel_rfl) (by kernel_rfl) (by rfl) (fun _ _ _ h => h) hb2 ?_ ?_
            rotate_left
            · (intro w hSw; go_simp; first | done | with_reducible rfl)
            simp only [Act.put, List.setIfInBounds_toArray, List.set_cons_zero, List.set_cons_succ]
            refine held_val (i := 11) ?_ 198 rfl rfl (by kernel_rfl) (by kernel_rfl) (by kernel_rfl) (by rfl) (fun _ _ _ h => h) hb2 ?_ ?_
            rotate_left
            · (intro w hSw; go_simp; first | done | with_reducible rfl)
            simp only [Act.put, List.setIfInBounds_toArray, List.set_cons_zero, List.set_cons_succ]
            refine held_val (i := 12) (.agg (rfA T)) 199 rfl rfl (by kernel_rfl) (by kernel_rfl) (by kernel_rfl) (by rfl) (fun _ _ _ h => h) hb2 (fun w hSw => exec_load37 _ rfl rfl ((HTW.out w hSw).1.1.rb)) ?_
            simp only [Act.put, List.setIfInBounds_toArray, List.set_cons_zero, List.set_cons_succ]
            refine held_val (i := 13) ?_ 200 rfl rfl (by kernel_rfl) (by kernel_rfl) (by kernel_rfl) (by rfl) (fun _ _ _ h => h) hb2 ?_ ?_
            rotate_left
            · (intro w hSw; go_simp; first | done | with_reducible rfl)
            simp only [Act.put, List.setIfInBounds_toArray, List.set_cons_zero, List.set_cons_succ]
            refine held_val (i := 14) ?_ 201 rfl rfl (by kernel_rfl) (by kernel_rfl) (by kernel_rfl) (by rfl) (fun _ _ _ h => h) hb2 ?_ ?_
            rotate_left
            · (intro w hSw; obtain ⟨c1, c2, c3⟩ := HCL.out w hSw; go_simp; first | done | with_reducible rfl)
            simp only [Act.put, List.setIfInBounds_toArray, List.set_cons_zero, List.set_cons_succ]
            refine held_val (i := 15) ?_ 202 rfl rfl (by kernel_rfl) (by kernel_rfl) (by kernel_rfl) (by rfl) (fun _ _ _ h => h) hb2 ?_ ?_
            rotate_left
            · (intro w hSw; go_simp; first | done | with_reducible rfl)
            simp only [Act.put, List.setIfInBounds_toArray, List.set_cons_zero, List.set_cons_succ]
            refine held_val (i := 16) ?_ 203 rfl rfl (by kernel_rfl) (by kernel_rfl) (by kernel_rfl) (by rfl) (fun _ _ _ h => h) hb2 ?_ ?_
            rotate_left
            · (intro w hSw; obtain ⟨c1, c2, c3⟩ := HCL.out w hSw; go_simp; first | done | with_reducible rfl)
            simp only [Act.put, List.setIfInBounds_toArray, List.set_cons_zero, List.set_cons_succ]
            refine held_val (i := 17) ?_ 204 rfl rfl (by kernel_rfl) (by kernel_rfl) (by kernel_rfl) (by rfl) (fun _ _ _ h => h) hb2 ?_ ?_
            rotate_left
            · (intro w hSw; go_simp; first | done | with_reducible rfl)
            simp only [Act.put, List.setIfInBounds_toArray, List.set_cons_zero, List.set_cons_succ]
            refine held_val (i := 18) ?_ 205 rfl rfl (by kernel_rfl) (by kernel_rfl) (by kernel_rfl) (by rfl) (fun _ _ _ h => h) hb2 ?_ ?_
            rotate_left
            · (intro w hSw; obtain ⟨c1, c2, c3⟩ := HCL.out w hSw; go_simp; first | done | with_reducible rfl)
            simp only [Act.put, List.setIfInBounds_toArray, List.set_cons_zero, List.set_cons_succ]
            refine held_call (i := 19) 206 26 #[.agg (rfA T), .int .i64 x1.c, .int .i64 x1.p, .int .i64 x1.a, .bool false] rfl rfl (by kernel_rfl) (by rfl) (by simp [go_sem]) (rholders_is T x1.c x1.p x1.a false _ LB nB HLs.out.2.2.1 HLs.out.2.2.2.1) ?_
            rintro e wG ⟨aoG, capG, rfl, hoG, hbG⟩
            have hb3 : Below wx.heap.size wx wG := below_step hb2 hbG
            refine ⟨_, rfl, hb3, ?_⟩
            simp only [Act.put, List.setIfInBounds_toArray, List.set_cons_zero, List.set_cons_succ]
            refine held_call (i := 20) 207 25 #[.slice aoB nB capB, .slice aoG nB capG] rfl rfl (by kernel_rfl) (by rfl) (by simp [go_sem]) (sameInts_true aoB capB nB aoG capG LB wG (HAB.out.2.below hb3) hoG.rd HLs.out.2.2.2.1 HLs.out.2.2.2.2.2) ?_
            rintro e wH ⟨rfl, hbH⟩
            have hb4' : Below wx.heap.size wx wH := below_step hb3 hbH
            refine ⟨_, rfl, hb4', ?_⟩
            simp only [Act.put, List.setIfInBounds_toArray, List.set_cons_zero, List.set_cons_succ]
            refine held_val (i := 21) ?_ 208 rfl rfl (by kernel_rfl) (by kernel_rfl) (by kernel_rfl) (by rfl) (fun _ _ _ h => h) hb4' ?_ ?_
            rotate_left
            · (intro w hSw; go_simp; first | done | with_reducible rfl)
            simp only [Act.put, List.setIfInBounds_toArray, List.set_cons_zero, List.set_cons_succ]
            refine held_val (i := 22) ?_ 209 rfl rfl (by kernel_rfl) (by kernel_rfl) (by kernel_rfl) (by rfl) (fun _ _ _ h => h) hb4' ?_ ?_
            rotate_left
            · (intro w hSw; go_simp; first | done | with_reducible rfl)
            simp only [Act.put, List.setIfInBounds_toArray, List.set_cons_zero, List.set_cons_succ]
            refine Sure.held _ _ _ _ hb4' ?_
            refine Sure.val (i := 23) ?_ 210 rfl rfl (by kernel_rfl) (by kernel_rfl) (by kernel_rfl) (by rfl) ?_ ?_
            rotate_left
            · (intro w hSw; go_simp; first | done | with_reducible rfl)
            simp only [Act.put, List.setIfInBounds_toArray, List.set_cons_zero, List.set_cons_succ]
            refine Sure.val (i := 24) ?_ 211 rfl rfl (by kernel_rfl) (by kernel_rfl) (by kernel_rfl) (by rfl) ?_ ?_
            rotate_left
            · (intro w hSw; go_simp; first | done | with_reducible rfl)
            simp only [Act.put, List.setIfInBounds_toArray, List.set_cons_zero, List.set_cons_succ]
            refine Sure.val (i := 25) ?_ 212 rfl rfl (by kernel_rfl) (by kernel_rfl) (by kernel_rfl) (by rfl) ?_ ?_
            rotate_left
            · (intro w hSw; obtain ⟨c1, c2, c3⟩ := HCL.out w hSw; go_simp; first | done | with_reducible rfl)
            simp only [Act.put, List.setIfInBounds_toArray, List.set_cons_zero, List.set_cons_succ]
            refine Sure.val (i := 26) ?_ 213 rfl rfl (by kernel_rfl) (by kernel_rfl) (by kernel_rfl) (by rfl) ?_ ?_
            rotate_left
            · (intro w hSw; go_simp; first | done | with_reducible rfl)
            simp only [Act.put, List.setIfInBounds_toArray, List.set_cons_zero, List.set_cons_succ]
            refine Sure.val (i := 27) ?_ 214 rfl rfl (by kernel_rfl) (by kernel_rfl) (by kernel_rfl) (by rfl) ?_ ?_
            rotate_left
            · (intro w hSw; obtain ⟨c1, c2, c3⟩ := HCL.out w hSw; go_simp; first | done | with_reducible rfl)
            simp only [Act.put, List.setIfInBounds_toArray, List.set_cons_zero, List.set_cons_succ]
            refine Sure.call (i := 28) (.int .i64 z3) 215 11 #[tp g, .int .i64 x1.c, .int .i64 x1.p] rfl rfl (by kernel_rfl) (by kernel_rfl) (by kernel_rfl) (by rfl) (fun w hSw => by simp [go_sem]) K11.out ?_
            simp only [Act.put, List.setIfInBounds_toArray, List.set_cons_zero, List.set_cons_succ]
            refine Sure.val (i := 29) (.agg (rfA T)) 216 rfl rfl (by kernel_rfl) (by kernel_rfl) (by kernel_rfl) (by rfl) (fun w hSw => exec_load37 _ rfl rfl ((HTW.out w hSw).1.1.rb)) ?_
            simp only [Act.put, List.setIfInBounds_toArray, List.set_cons_zero, List.set_cons_succ]
            refine Sure.val (i := 30) ?_ 217 rfl rfl (by kernel_rfl) (by kernel_rfl) (by kernel_rfl) (by rfl) ?_ ?_
            rotate_left
            · (intro w hSw; go_simp; first | done | with_reducible rfl)
            simp only [Act.put, List.setIfInBounds_toArray, List.set_cons_zero, List.set_cons_succ]
            refine Sure.val (i := 31) ?_ 218 rfl rfl (by kernel_rfl) (by kernel_rfl) (by kernel_rfl) (by rfl) ?_ ?_
            rotate_left
            · (intro w hSw; obtain ⟨c1, c2, c3⟩ := HCL.out w hSw; go_simp; first | done | with_reducible rfl)
            simp only [Act.put, List.setIfInBounds_toArray, List.set_cons_zero, List.set_cons_succ]
            refine Sure.val (i := 32) ?_ 219 rfl rfl (by kernel_rfl) (by kernel_rfl) (by kernel_rfl) (by rfl) ?_ ?_
            rotate_left
            · (intro w hSw; go_simp; first | done | with_reducible rfl)
            simp only [Act.put, List.setIfInBounds_toArray, List.set_cons_zero, List.set_cons_succ]
            refine Sure.val (i := 33) ?_ 220 rfl rfl (by kernel_rfl) (by kernel_rfl) (by kernel_rfl) (by rfl) ?_ ?_
            rotate_left
            · (intro w hSw; obtain ⟨c1, c2, c3⟩ := HCL.out w hSw; go_simp; first | done | with_reducible rfl)
            simp only [Act.put, List.setIfInBounds_toArray, List.set_cons_zero, List.set_cons_succ]
            refine Sure.call (i := 34) (.int .i64 z3) 221 23 #[.agg (rfA T), .int .i64 x1.c, .int .i64 x1.p] rfl rfl (by kernel_rfl) (by kernel_rfl) (by kernel_rfl) (by rfl) (fun w hSw => by simp [go_sem]) K23.out ?_
            simp only [Act.put, List.setIfInBounds_toArray, List.set_cons_zero, List.set_cons_succ]
            refine Sure.val (i := 35) ?_ 222 rfl rfl (by kernel_rfl) (by kernel_rfl) (by kernel_rfl) (by rfl) ?_ ?_
            rotate_left
            · (intro w hSw; go_simp; first | done | with_reducible rfl)
            simp only [Act.put, List.setIfInBounds_toArray, List.set_cons_zero, List.set_cons_succ]
            refine Sure.val (i := 36) ?_ 223 rfl rfl (by kernel_rfl) (by kernel_rfl) (by kernel_rfl) (by rfl) ?_ ?_
            rotate_left
            · (intro w hSw; go_simp; first | done | with_reducible rfl)
            simp only [Act.put, List.setIfInBounds_toArray, List.set_cons_zero, List.set_cons_succ]
            refine Sure.val (i := 37) ?_ 224 rfl rfl (by kernel_rfl) (by kernel_rfl) (by kernel_rfl) (by rfl) ?_ ?_
            rotate_left
            · (intro w hSw; go_simp; first | done | with_reducible rfl)
            simp only [Act.put, List.setIfInBounds_toArray, List.set_cons_zero, List.set_cons_succ]
            refine Sure.val (i := 38) ?_ 225 rfl rfl (by kernel_rfl) (by kernel_rfl) (by kernel_rfl) (by rfl) ?_ ?_
            rotate_left
            · (intro w hSw; go_simp; first | done | with_reducible rfl)
            simp only [Act.put, List.setIfInBounds_toArray, List.set_cons_zero, List.set_cons_succ]
            refine Sure.val (i := 39) ?_ 226 rfl rfl (by kernel_rfl) (by kernel_rfl) (by kernel_rfl) (by rfl) ?_ ?_
            rotate_left
            · (intro w hSw; go_simp; first | done | with_reducible rfl)
            simp only [Act.put, List.setIfInBounds_toArray, List.set_cons_zero, List.set_cons_succ]
            refine Sure.val (i := 40) ?_ 227 rfl rfl (by kernel_rfl) (by kernel_rfl) (by kernel_rfl) (by rfl) ?_ ?_
            rotate_left
            · (intro w hSw; obtain ⟨c1, c2, c3⟩ := HCL.out w hSw; go_simp; first | done | with_reducible rfl)
            simp only [Act.put, List.setIfInBounds_toArray, List.set_cons_zero, List.set_cons_succ]
            refine Sure.val (i := 41) ?_ 228 rfl rfl (by kernel_rfl) (by kernel_rfl) (by kernel_rfl) (by rfl) ?_ ?_
            rotate_left
            · (intro w hSw; go_simp; first | done | with_reducible rfl)
            simp only [Act.put, List.setIfInBounds_toArray, List.set_cons_zero, List.set_cons_succ]
            refine Sure.val (i := 42) ?_ 229 rfl rfl (by kernel_rfl) (by kernel_rfl) (by kernel_rfl) (by rfl) ?_ ?_
            rotate_left
            · (intro w hSw; obtain ⟨c1, c2, c3⟩ := HCL.out w hSw; go_simp; first | done | with_reducible rfl)
            simp only [Act.put, List.setIfInBounds_toArray, List.set_cons_zero, List.set_cons_succ]
            refine Sure.call (i := 43) (.bool b4) 230 12 #[tp g, .int .i64 x1.c, .int .i64 x1.p] rfl rfl (by kernel_rfl) (by kernel_rfl) (by kernel_rfl) (by rfl) (fun w hSw => by simp [go_sem]) K12.out ?_
            simp only [Act.put, List.setIfInBounds_toArray, List.set_cons_zero, List.set_cons_succ]
            refine Sure.val (i := 44) (.agg (rfA T)) 231 rfl rfl (by kernel_rfl) (by kernel_rfl) (by kernel_rfl) (by rfl) (fun w hSw => exec_load37 _ rfl rfl ((HTW.out w hSw).1.1.rb)) ?_
            simp only [Act.put, List.setIfInBounds_toArray, List.set_cons_zero, List.set_cons_succ]
            refine Sure.val (i := 45) ?_ 232 rfl rfl (by kernel_rfl) (by kernel_rfl) (by kernel_rfl) (by rfl) ?_ ?_
            rotate_left
            · (intro w hSw; go_simp; first | done | with_reducible rfl)
            simp only [Act.put, List.setIfInBounds_toArray, List.set_cons_zero, List.set_cons_succ]
            refine Sure.val (i := 46) ?_ 233 rfl rfl (by kernel_rfl) (by kernel_rfl) (by kernel_rfl) (by rfl) ?_ ?_
            rotate_left
            · (intro w hSw; obtain ⟨c1, c2, c3⟩ := HCL.out w hSw; go_simp; first | done | with_reducible rfl)
            simp only [Act.put, List.setIfInBounds_toArray, List.set_cons_zero, List.set_cons_succ]
            refine Sure.val (i := 47) ?_ 234 rfl rfl (by kernel_rfl) (by kernel_rfl) (by kernel_rfl) (by rfl) ?_ ?_
            rotate_left
            · (intro w hSw; go_simp; first | done | with_reducible rfl)
            simp only [Act.put, List.setIfInBounds_toArray, List.set_cons_zero, List.set_cons_succ]
            refine Sure.val (i := 48) ?_ 235 rfl rfl (by kernel_rfl) (by kernel_rfl) (by kernel_rfl) (by rfl) ?_ ?_
            rotate_left
            · (intro w hSw; obtain ⟨c1, c2, c3⟩ := HCL.out w hSw; go_simp; first | done | with_reducible rfl)
            simp only [Act.put, List.setIfInBounds_toArray, List.set_cons_zero, List.set_cons_succ]
            refine Sure.call (i := 49) (.bool b4) 236 24 #[.agg (rfA T), .int .i64 x1.c, .int .i64 x1.p] rfl rfl (by kernel_rfl) (by kernel_rfl) (by kernel_rfl) (by rfl) (fun w hSw => by simp [go_sem]) K24.out ?_
            simp only [Act.put, List.setIfInBounds_toArray, List.set_cons_zero, List.set_cons_succ]
            refine Sure.val (i := 50) ?_ 237 rfl rfl (by kernel_rfl) (by kernel_rfl) (by kernel_rfl) (by rfl) ?_ ?_
            rotate_left
            · (intro w hSw; go_simp; first | done | with_reducible rfl)
            simp only [Act.put, List.setIfInBounds_toArray, List.set_cons_zero, List.set_cons_succ]
            refine Sure.val (i := 51) ?_ 238 rfl rfl (by kernel_rfl) (by kernel_rfl) (by kernel_rfl) (by rfl) ?_ ?_
            rotate_left
            · (intro w hSw; go_simp; first | done | with_reducible rfl)
            simp only [Act.put, List.setIfInBounds_toArray, List.set_cons_zero, List.set_cons_succ]
            refine Sure.val (i := 52) ?_ 4 rfl rfl (by kernel_rfl) (by kernel_rfl) (by kernel_rfl) (by rfl) ?_ ?_
            rotate_left
            · (intro w hSw; go_simp; first | done | with_reducible rfl)
            simp only [Act.put, List.setIfInBounds_toArray, List.set_cons_zero, List.set_cons_succ]
            refine Sure.done (by kernel_rfl) ?_ _
            intro w' hSw'
            have hB' := (HTW.out w' hSw').2
            go_wp2
            go_ret
            exact ⟨rfl, hB'⟩

end Go.Proofs.Ytngfcnbcljcdfaa
