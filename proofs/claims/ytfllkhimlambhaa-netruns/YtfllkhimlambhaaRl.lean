/- The walk of NetRuns. -/
import Derived.Test.YtfllkhimlambhaaRk
namespace Go.Proofs.Ytfllkhimlambhaa
open Go.RowKit
set_option linter.unusedVariables false
set_option maxRecDepth 100000

theorem OwnI.keep5 {w w' : World} {base : Nat} {a : Option Addr} {c : Nat} {zs : List Int} (h : OwnI w base 5 .u8 a c zs) (hb : ∀ (k : Nat) (cs : Array Value), w.heap[k]? = some (.cells cs 5) → w'.heap[k]? = w.heap[k]?) : OwnI w' base 5 .u8 a c zs := by
  obtain ⟨h1, h2⟩ := h
  refine ⟨h1, ?_⟩
  rcases h2 with h2 | ⟨g, cp, cur, hv, hg, hh, r⟩
  · exact .inl h2
  · exact .inr ⟨g, cp, cur, hv, hg, (hb _ _ hh).trans hh, r⟩
theorem OwnI.off5 {V : Nat → Prop} {w w' : World} {base : Nat} {a : Option Addr} {c : Nat} {zs : List Int} (h : OwnI w base 5 .u8 a c zs) (hO : OffN V w w') : OwnI w' base 5 .u8 a c zs := h.keep5 fun k cs hc => hO.kt k cs 5 (0, 0) hc (by decide) (by decide)
theorem OwnI.some0 {w : World} {base : Nat} {a : Option Addr} {c : Nat} {zs : List Int} (h : OwnI w base 5 .u8 a c zs) (hn : 0 < zs.length) : ∃ o, a = some ⟨o, 0, none⟩ := by
  obtain ⟨_, h2⟩ := h
  rcases h2 with ⟨hv, hn2⟩ | ⟨g, cp, cur, hv, _⟩
  · rw [List.length_map] at hn2
    omega
  · simp only [Value.slice.injEq] at hv
    exact ⟨g, hv.1⟩
theorem OwnI.block5 {w : World} {base o c : Nat} {zs : List Int} (h : OwnI w base 5 .u8 (some ⟨o, 0, none⟩) c zs) : ∃ cs, w.heap[o]? = some (.cells cs 5) := by
  obtain ⟨_, h2⟩ := h
  rcases h2 with ⟨hv, _⟩ | ⟨g, cp, cur, hv, hg, hh, _⟩
  · simp at hv
  · simp only [Value.slice.injEq, Option.some.injEq, Addr.mk.injEq] at hv
    obtain ⟨⟨rfl, _⟩, _⟩ := hv
    exact ⟨cur, hh⟩

/-- Both nets between two acts. -/
def Two (B g q : Nat) (w0 w : World) : Prop := ∃ R T, Mid (fun _ => False) B g q w0 w R T T

/-- Behind the acts: what is left of the program's net while it is taken lane by lane. -/
def En0 (B g q : Nat) (w0 w : World) (R : Nat → Rw) (T : Nat → List It) (l : Nat) : Prop := Bx w q R ∧ Below B w0 w ∧ B ≤ w.heap.size ∧ ∃ (V U : Nat → Prop) (T1 : Nat → List It), Net w g V T1 ∧ (∀ k, V k → B ≤ k) ∧ Rf w U R T ∧ ∀ j, l ≤ j → j < 8 → T1 j = T j
def En (B g q : Nat) (w0 w : World) (R : Nat → Rw) (T : Nat → List It) (l t : Nat) : Prop := Bx w q R ∧ Below B w0 w ∧ B ≤ w.heap.size ∧ ∃ (V U : Nat → Prop) (T1 : Nat → List It), Net w g V T1 ∧ (∀ k, V k → B ≤ k) ∧ Rf w U R T ∧ (∀ j, l < j → j < 8 → T1 j = T j) ∧ T1 l = (T l).drop t

section
variable {B g q : Nat} {w0 w w' : World} {R : Nat → Rw} {T : Nat → List It} {l t : Nat}
theorem En0.of {T1 : Nat → List It} (H : Mid (fun _ => False) B g q w0 w R T T) : En0 B g q w0 w R T 0 := by
  obtain ⟨h1, h2, h3, h4, h5, V, U, h6, h7, h8, h9⟩ := H
  exact ⟨h1, h3, h5, V, U, T, h6, h7, h8, fun _ _ _ => rfl⟩
theorem En0.below (H : En0 B g q w0 w R T l) (hb : Below w.heap.size w w') : En0 B g q w0 w' R T l := by
  obtain ⟨h1, h2, h3, V, U, T1, h4, h5, h6, h7⟩ := H
  exact ⟨h1.below hb, h2.trans (hb.mono h3), Nat.le_trans h3 hb.size, V, U, T1, h4.below hb, h5, h6.below hb, h7⟩
theorem En.below (H : En B g q w0 w R T l t) (hb : Below w.heap.size w w') : En B g q w0 w' R T l t := by
  obtain ⟨h1, h2, h3, V, U, T1, h4, h5, h6, h7⟩ := H
  exact ⟨h1.below hb, h2.trans (hb.mono h3), Nat.le_trans h3 hb.size, V, U, T1, h4.below hb, h5, h6.below hb, h7⟩
theorem En0.start (H : En0 B g q w0 w R T l) (hl : l < 8) : En B g q w0 w R T l 0 := by
  obtain ⟨h1, h2, h3, V, U, T1, h4, h5, h6, h7⟩ := H
  exact ⟨h1, h2, h3, V, U, T1, h4, h5, h6, fun j hj h8 => h7 j (by omega) h8, h7 l (Nat.le_refl _) hl⟩
theorem En.next (H : En B g q w0 w R T l t) : En0 B g q w0 w R T (l + 1) := by
  obtain ⟨h1, h2, h3, V, U, T1, h4, h5, h6, h7, h8⟩ := H
  exact ⟨h1, h2, h3, V, U, T1, h4, h5, h6, fun j hj h8 => h7 j (by omega) h8⟩
theorem En0.len (H : En0 B g q w0 w R T l) (hl : l < 8) : Calls Try.prog 12 #[np g, .int .i64 (l : Int)] w fun e w' => e = .returned (.int .i64 ((T l).length : Int)) ∧ w' = w := by
  obtain ⟨h1, h2, h3, V, U, T1, h4, h5, h6, h7⟩ := H
  refine (len_any h4 (l : Int)).mono ?_
  rintro e w' ⟨rfl, h⟩
  exact ⟨ret_int (by rw [lenZ_nat _ hl, h7 l (Nat.le_refl _) hl]), h⟩
/-- The document's frame at a place. -/
theorem En.at (H : En B g q w0 w R T l t) (hl : l < 8) (ht : t < (T l).length) : ∃ rb x, (R l).ao = some ⟨rb, 0, none⟩ ∧ w.cell? ⟨rb, t * 2, none⟩ = some (.slice x.ao x.n x.cap) ∧ w.cell? ⟨rb, t * 2 + 1, none⟩ = some (.bool x.sp) ∧ (T l)[t]? = some x.it ∧ Fb w (fun _ => True) x := by
  obtain ⟨h1, h2, h3, V, U, T1, h4, h5, ⟨F, h6, hT⟩, h7⟩ := H
  have hl2 : (F l).length = (T l).length := by rw [← hT l hl, List.length_map]
  obtain ⟨rb, x, k1, k2, k3, k4, k5, k6⟩ := h6.at l t hl (by omega)
  exact ⟨rb, x, k1, k5, k6, by rw [← hT l hl, List.getElem?_map, k2]; rfl, k4.mono fun _ _ _ => trivial⟩
theorem En.take (H : En B g q w0 w R T l t) (hl : l < 8) (ht : t < (T l).length) {n : Nat} {x : Fv} (hx : w.heap[n]? = some (itO x)) (hf : Fb w (fun _ => True) x) (hxi : (T l)[t]? = some x.it) : Calls Try.prog 14 #[np g, .int .i64 (l : Int), .int .i64 0] w fun e w' => ∃ y : Fv, e = .returned (.tuple #[.slice y.ao y.n y.cap, .bool true]) ∧ w'.heap[n]? = some (itO x) ∧ (convert 33 9 (.slice y.ao y.n y.cap)).run Try.prog w' = .ok (.string (strOfNums (ci x.bs))) w' ∧ (convert 33 9 (.slice x.ao x.n x.cap)).run Try.prog w' = .ok (.string (strOfNums (ci x.bs))) w' ∧ Hid (En B g q w0 w' R T l (t + 1)) := by
  obtain ⟨h1, h2, h3, V, U, T1, h4, h5, h6, h7, h8⟩ := H
  refine (take_yes h4 l hl 0 (by rw [h8, List.length_drop]; omega)).mono ?_
  rintro e w' ⟨y, rfl, k1, k2, k3⟩
  have hy : y.it = x.it := by
    rw [h8, List.getElem?_drop, Nat.add_zero, hxi] at k1
    exact (Option.some.inj k1).symm
  have hs := k3.2.size
  refine ⟨y, rfl, (k3.2.kt _ _ _ _ hx (by decide) (by decide)).trans hx, ?_, (hf.off k3.2).rd.str, h1.off k3.2, h2.trans (k3.2.off.below h5 h3), Nat.le_trans h3 hs, Grow w V, U, _, k3.1, ?_, h6.off k3.2, fun j hj h => ?_, ?_⟩
  · have e1 : y.bs = x.bs := congrArg Prod.fst hy
    rw [← e1]
    exact k2.rd.str
  · rintro k (h | h)
    · exact h5 k h
    · exact Nat.le_trans h3 h
  · rw [upd_other _ _ (by omega)]
    exact h7 j hj h
  · rw [upd_same, h8]
    unfold outL
    simp [List.drop_drop]
end

theorem two_new {B g : Nat} {w0 W : World} (hB : w0.heap.size = B) (hb : Below B w0 W) {w' : World} (hN : Net w' g (fun k => g ≤ k) (fun _ => [])) (hg : g = W.heap.size) (hb2 : Below W.heap.size W w') : Two B g w'.heap.size w0 (w'.alloc (rnO r0)) := by
  have hs : B ≤ W.heap.size := hB ▸ hb.size
  have hal : Below w'.heap.size w' (w'.alloc (rnO r0)) := (Below.refl _ _).alloc (Nat.le_refl _) _
  refine ⟨r0, fun _ => [], Bx.of (heap_alloc_new w' (rnO r0)), fun l _ x hx => (by cases hx), (hb.trans (hb2.mono hs)).trans (hal.mono (Nat.le_trans hs hb2.size)), Nat.le_trans hs hb2.size, Nat.le_trans (Nat.le_trans hs hb2.size) hal.size, fun k => g ≤ k, fun _ => False, hN.below hal, fun k hk => ?_, ⟨fun _ => [], Rn.nil _, fun _ _ => rfl⟩, fun k hk => hk.elim⟩
  omega

set_option maxHeartbeats 6400000 in
theorem runs_main (a0 : Option Addr) (c0 m : Nat) (A : List ActG) (w : World) (hA : ActsAt w a0 A) (hm : A.length = m) (h200 : m ≤ 200) : Calls Try.prog 4 #[.slice a0 m c0] w fun e w' => e = .returned (.bool true) ∧ Below w.heap.size w w' := by
  have hm2 : ¬ (200 : Int) < (m : Int) := by omega
  obtain ⟨B, hB⟩ : ∃ B, w.heap.size = B := ⟨_, rfl⟩
  have HI : Hid (ActsAt w a0 A ∧ A.length = m ∧ w.heap.size = B) := ⟨hA, hm, hB⟩
  have HA : Hid (Calls Try.prog 9 #[] w fun e w' => e = .returned (.bool true) ∧ Hid (Below B w w')) := hB ▸ alive_any w
  have HNew : Hid (∀ W, Below B w W → Calls Try.prog 8 #[] W fun e w' => e = .returned (np W.heap.size) ∧ Hid (Two B W.heap.size w'.heap.size w (w'.alloc (rnO r0)))) := by
    intro W hW
    refine (new_any W).mono ?_
    rintro e w' ⟨rfl, h1, h2⟩
    exact ⟨rfl, two_new hB hW h1 rfl h2⟩
  clear hA hm hB h200
  go_enter Try.func4, Try.ntmps4
  go_wp2_with (first
    | (go_at_call 8; refine (HNew.out _ HA1.out).mono ?_; rintro e w2 ⟨rfl, HN0⟩)
    | (go_at_call 9; refine HA.out.mono ?_; rintro e w1 ⟨rfl, HA1⟩))
  generalize w1.heap.size = g at *
  clear HA HNew HA1
  unfold r0 rnO at HN0
  obtain ⟨q, hq⟩ : ∃ q, w2.heap.size = q := ⟨_, rfl⟩
  rw [hq] at HN0 ⊢
  clear hq
  go_loopw [27] (fun i wr => ∃ j : Nat, j ≤ m ∧ i = .int .i64 j ∧ Hid (Two B g q w wr)) (fun i _ => m - (intOf i).toNat)
  case atStart => exact ⟨0, Nat.zero_le _, rfl, HN0⟩
  case round =>
    obtain ⟨j, hj, rfl, HJ⟩ := hrel
    clear HN0
    by_cases hlt : j < m
    · obtain ⟨R, T, HM⟩ := HJ.out
      have HM0 := hid_of HM
      clear HM
      have hjA : j < A.length := by rw [HI.out.2.1]; exact hlt
      have hAz := HI.out.1.below (HI.out.2.2 ▸ HM0.out.2.2.1)
      obtain ⟨b1, off1, hb1, hbl1, hcl1⟩ := hAz.cell (by intro e; rw [e] at hjA; simp at hjA)
      obtain ⟨d0, d1, d2, d3, d4, d5⟩ := hcl1 j hjA
      have HK0 : Hid (ActOk wr A[j]) := hAz.ok _ (List.getElem_mem hjA)
      have HXI : Hid (Rd8 w A[j].ao A[j].len A[j].cap A[j].bs) := (HI.out.1.ok _ (List.getElem_mem hjA)).rd
      clear hcl1 hAz HJ
      generalize A[j] = x at *
      rw [hb1]
      go_upto_region 10 with fail
      show Code.wp _ _ _ _ (wr.alloc (acO x))
      have hal : Below wr.heap.size wr (wr.alloc (acO x)) := (Below.refl _ _).alloc (Nat.le_refl _) _
      obtain ⟨n6, hn6⟩ : ∃ n, wr.heap.size = n := ⟨_, rfl⟩
      have HX0 : Hid ((wr.alloc (acO x)).heap[n6]? = some (acO x) ∧ Mid (fun _ => False) B g q w (wr.alloc (acO x)) R T T ∧ ActOk (wr.alloc (acO x)) x) := ⟨hn6 ▸ heap_alloc_new wr (acO x), HM0.out.below hal, HK0.out.below hal⟩
      rw [hn6]
      clear hal hn6 HM0 HK0 d0 d1 d2 d3 d4 d5
      generalize wr.alloc (acO x) = wa at *
      go_upto_region 12 with fail
      show Code.wp _ _ _ _ ((wa.alloc (.cells #[] 5)).alloc (.cells #[] 5))
      have hal : Below wa.heap.size wa ((wa.alloc (.cells #[] 5)).alloc (.cells #[] 5)) := (two_al wa _ _).1
      have HX : Hid (((wa.alloc (.cells #[] 5)).alloc (.cells #[] 5)).heap[n6]? = some (acO x) ∧ Mid (fun _ => False) B g q w ((wa.alloc (.cells #[] 5)).alloc (.cells #[] 5)) R T T ∧ ActOk ((wa.alloc (.cells #[] 5)).alloc (.cells #[] 5)) x) := ⟨(hal.block n6 (Array.getElem?_eq_some_iff.1 HX0.out.1).1).trans HX0.out.1, HX0.out.2.1.below hal, HX0.out.2.2.below hal⟩
      clear hal HX0
      generalize (wa.alloc (.cells #[] 5)).alloc (.cells #[] 5) = w2 at *
      generalize wa.heap.size = n7 at *
      obtain ⟨y0, y1, y2, y3, y4, y5⟩ := acCells HX.out.1
      have hem7 := Rd8.none' ⟨n7, 0, none⟩
      have hem8 := Rd8.none' ⟨n7 + 1, 0, none⟩
      have HAC : Hid (∀ V W, OffN V w2 W → W.heap[n6]? = some (acO x)) := fun V W h => (h.kt _ _ _ _ HX.out.1 (by decide) (by decide)).trans HX.out.1
      by_cases hk0 : x.k = 0
      · have e0 : (x.k == 0) = true := by simp [hk0]
        clear hk0
        have HO0 : Hid (Rd8 (w2.alloc (.cells #[] 5)) x.ao x.len x.cap x.bs ∧ x.len ≤ 140737488351232) := ⟨HX.out.2.2.rd.below ((Below.refl _ _).alloc (Nat.le_refl _) _), HX.out.2.2.sz⟩
        have hlen0 : (ci x.bs).length = x.len := by rw [ci_length]; exact HX.out.2.2.rd.len
        have hal2 : Below w2.heap.size w2 (w2.alloc (.cells #[] 5)) := (Below.refl _ _).alloc (Nat.le_refl _) _
        have HO1 : Hid (∀ (w5 : World) (a5 : Option Addr) (c5 : Nat), OwnI w5 w2.heap.size 5 .u8 a5 c5 (ci x.bs) → Below w2.heap.size (w2.alloc (.cells #[] 5)) w5 → w5.heap[n6]? = some (acO x) ∧ Hid (OwnI w5 w2.heap.size 5 .u8 a5 c5 (ci x.bs) ∧ Calls Try.prog 11 #[np g, .int .i64 x.l, .slice a5 x.len c5] w5 fun e w' => e = .returned (.bool (putB T x.l)) ∧ Hid ((Mid (fun k => w2.heap.size ≤ k ∧ k < w5.heap.size) B g q w w' R T (putT T x.l (x.bs, false)) ∧ OwnI w' w2.heap.size 5 .u8 a5 c5 (ci x.bs) ∧ Rd8 w' x.ao x.len x.cap x.bs) ∧ w'.heap[n6]? = some (acO x)))) := by
          intro w5 a5 c5 ho hb
          have hb5 := hal2.trans hb
          have hx5 := (hb5.block n6 (Array.getElem?_eq_some_iff.1 HX.out.1).1).trans HX.out.1
          refine ⟨hx5, ho, ?_⟩
          refine (t_put (HX.out.2.1.own hb5) x.l (bs := x.bs) ⟨ho.rd, HX.out.2.2.rd.len, HX.out.2.2.rd.byte⟩ (by have := HX.out.2.2.sz; omega)).mono ?_
          rintro e w' ⟨rfl, h1, V, hO⟩
          exact ⟨rfl, ⟨h1, OwnI.off5 ho hO, HXI.out.below (HI.out.2.2 ▸ h1.2.2.1)⟩, (hO.kt _ _ _ _ hx5 (by decide) (by decide)).trans hx5⟩
        have HU : Hid (∀ (w5 w6 : World) (a5 : Option Addr) (c5 : Nat), (Mid (fun k => w2.heap.size ≤ k ∧ k < w5.heap.size) B g q w w6 R T (putT T x.l (x.bs, false)) ∧ OwnI w6 w2.heap.size 5 .u8 a5 c5 (ci x.bs) ∧ Rd8 w6 x.ao x.len x.cap x.bs) → Calls Try.prog 13 #[rnV R, .int .i64 x.l, .agg #[.slice x.ao x.len x.cap, .bool false]] w6 fun e w' => ∃ R', e = .returned (.tuple #[rnV R', .bool (putB T x.l)]) ∧ Bx w' q R ∧ Hid (Mid (fun k => w2.heap.size ≤ k ∧ k < w5.heap.size) B g q w (st8 w' q R') R' (putT T x.l (x.bs, false)) (putT T x.l (x.bs, false)) ∧ OwnI (st8 w' q R') w2.heap.size 5 .u8 a5 c5 (ci x.bs))) := by
          rintro w5 w6 a5 c5 ⟨h1, h2, h3⟩
          refine (u_put x.l ⟨x.ao, x.len, x.cap, x.bs, false⟩ h1 h3 HX.out.2.2.sz).mono ?_
          rintro e w' ⟨R', rfl, hk, h4, hb⟩
          obtain ⟨s1, s2, s3, -⟩ := st8_facts R' hk
          exact ⟨R', rfl, hk, h4, (h2.below hb).keep5 fun k cs hc => s2 k (bx_ne hk hc (by decide))⟩
        have HB2 : Hid (B ≤ w2.heap.size) := HX.out.2.1.2.2.2.2.1
        obtain ⟨p0', p1', p2', p3', p4', p5'⟩ := acCells ((hal2.block n6 (Array.getElem?_eq_some_iff.1 HX.out.1).1).trans HX.out.1)
        clear hal2 p0' p1' p2' p3' p4'
        generalize putB T x.l = bq at *
        generalize putT T x.l (x.bs, false) = T1 at *
        go_wp2_with (first
          | (go_at_call 13; refine (HU.out w5 _ a5 c5 HN6.out.1).mono ?_; rintro e w7 ⟨R', rfl, hk7, HZ⟩; obtain ⟨g0, g1, g2, g3, g4, g5, g6, g7⟩ := hk7.all; have gf := hk7.fz; clear hk7)
          | (go_at_call 11; refine HP5.out.2.mono ?_; rintro e w6 ⟨rfl, HN6⟩; obtain ⟨v0, v1, v2, v3, v4, v5⟩ := acCells HN6.out.2; obtain ⟨b0, b1', b2, b3, b4, b5, b6, b7⟩ := HN6.out.1.1.1.all)
          | (at_builtin; refine wpList_append_rdI _ rfl (.tmp 37) (.tmp 39) 33 rfl w2.heap.size 5 .u8 (.int .u8 0) 1 Try.underlying33 info5 rfl rfl rfl (OwnI.fresh w2 _ _ _ (Nat.le_refl _)) HO0.out.1.rd rfl hlen0 (by have := HO0.out.2; omega) (by unfold maxLen; have := HO0.out.2; omega) (by simp) ?_; intro a5 c5 w5 ho5 hb5; simp only [List.nil_append] at ho5; obtain ⟨hx5, HP5⟩ := HO1.out w5 a5 c5 ho5 hb5; obtain ⟨r0', r1', r2', r3', r4', r5'⟩ := acCells hx5; clear ho5 hb5 hx5))
        unfold st8 at HZ
        have HL0 : Hid (∃ zs : List Int, zs.length = x.len ∧ OwnI ((((((((w7.setCell ⟨q, 0, none⟩ (.slice (R' 0).ao (R' 0).n (R' 0).cap)).setCell ⟨q, 1, none⟩ (.slice (R' 1).ao (R' 1).n (R' 1).cap)).setCell ⟨q, 2, none⟩ (.slice (R' 2).ao (R' 2).n (R' 2).cap)).setCell ⟨q, 3, none⟩ (.slice (R' 3).ao (R' 3).n (R' 3).cap)).setCell ⟨q, 4, none⟩ (.slice (R' 4).ao (R' 4).n (R' 4).cap)).setCell ⟨q, 5, none⟩ (.slice (R' 5).ao (R' 5).n (R' 5).cap)).setCell ⟨q, 6, none⟩ (.slice (R' 6).ao (R' 6).n (R' 6).cap)).setCell ⟨q, 7, none⟩ (.slice (R' 7).ao (R' 7).n (R' 7).cap)) w2.heap.size 5 .u8 a5 c5 zs ∧ Mid (fun k => w2.heap.size ≤ k ∧ k < w5.heap.size) B g q w ((((((((w7.setCell ⟨q, 0, none⟩ (.slice (R' 0).ao (R' 0).n (R' 0).cap)).setCell ⟨q, 1, none⟩ (.slice (R' 1).ao (R' 1).n (R' 1).cap)).setCell ⟨q, 2, none⟩ (.slice (R' 2).ao (R' 2).n (R' 2).cap)).setCell ⟨q, 3, none⟩ (.slice (R' 3).ao (R' 3).n (R' 3).cap)).setCell ⟨q, 4, none⟩ (.slice (R' 4).ao (R' 4).n (R' 4).cap)).setCell ⟨q, 5, none⟩ (.slice (R' 5).ao (R' 5).n (R' 5).cap)).setCell ⟨q, 6, none⟩ (.slice (R' 6).ao (R' 6).n (R' 6).cap)).setCell ⟨q, 7, none⟩ (.slice (R' 7).ao (R' 7).n (R' 7).cap)) R' T1 T1) := ⟨ci x.bs, hlen0, HZ.out.2, HZ.out.1⟩
        have HO5 := hid_of HP5.out.1
        clear HZ
        go_loopw [58] (fun i wz => ∃ t : Nat, t ≤ x.len ∧ i = .int .i64 t ∧ Hid (∃ zs : List Int, zs.length = x.len ∧ OwnI wz w2.heap.size 5 .u8 a5 c5 zs ∧ Mid (fun k => w2.heap.size ≤ k ∧ k < w5.heap.size) B g q w wz R' T1 T1)) (fun i _ => x.len - (intOf i).toNat)
        case atStart => exact ⟨0, Nat.zero_le _, rfl, HL0⟩
        case round =>
          obtain ⟨t, ht, rfl, HT⟩ := hrel
          rename World => wz
          clear HL0
          by_cases htl : t < x.len
          · obtain ⟨zs, hz1, hz2, hz3⟩ := HT.out
            obtain ⟨o, ho⟩ := hz2.some0 (by omega)
            have hcz := (ho ▸ hz2 : OwnI wz w2.heap.size 5 .u8 (some ⟨o, 0, none⟩) c5 zs).cellAt t (by omega)
            have hfz := (ho ▸ hz2 : OwnI wz w2.heap.size 5 .u8 (some ⟨o, 0, none⟩) c5 zs).frozenAt t
            have HST : Hid (∀ v : Int, Hid (∃ zs : List Int, zs.length = x.len ∧ OwnI (wz.setCell ⟨o, t, none⟩ (.int .u8 v)) w2.heap.size 5 .u8 a5 c5 zs ∧ Mid (fun k => w2.heap.size ≤ k ∧ k < w5.heap.size) B g q w (wz.setCell ⟨o, t, none⟩ (.int .u8 v)) R' T1 T1)) := by
              intro v
              have h5 := HO5.out
              rw [ho] at h5 hz2
              refine ⟨zs.set t v, by rw [List.length_set]; exact hz1, by rw [ho]; exact hz2.stored t v, ?_⟩
              exact hz3.bytes (by simp) rfl rfl rfl o h5.baseLe (Nat.le_trans HB2.out h5.baseLe.1) hz2.block5 (fun k hk => Below.heap_setCell _ _ _ _ (by simpa using hk))
            generalize zs[t] = zt at *
            have hxl : (t : Int) < (x.len : Int) := by omega
            have hxs : x.len ≤ 140737488351232 := HO0.out.2
            clear hz1 hz2 hz3
            rw [ho]
            go_wp2
            go_roundw
            case rel => exact ⟨t + 1, by omega, by go_num, ho ▸ HST.out _⟩
            case measure => simp [intOf]; omega
          · obtain ⟨zs, hz1, hz2, hz3⟩ := HT.out
            have HZ2 : Hid (Two B g q w wz) := ⟨R', T1, hz3.drop⟩
            clear hz1 hz2 hz3
            go_wp2
            go_roundw
            case rel => exact ⟨j + 1, by omega, by go_num, HZ2⟩
            case measure => simp [intOf]; omega
      · have e0 : (x.k == 0) = false := by simp [hk0]
        by_cases hk1 : x.k = 1
        · have e1 : (x.k == 1) = true := by simp [hk1]
          clear hk1 hk0
          have HN : Hid (Calls Try.prog 14 #[np g, .int .i64 x.l, .int .i64 x.n] w2 fun e w' => ∃ y : Fv, e = .returned (.tuple #[.slice y.ao y.n y.cap, .bool (hasB T x.l x.n)]) ∧ Hid ((Rd8 w' y.ao y.n y.cap (tkB T x.l x.n) ∧ (∀ a, y.ao = some a → ∃ cs, w'.heap[a.block]? = some (.cells cs 5)) ∧ Mid (fun _ => False) B g q w w' R T (tkT T x.l x.n)) ∧ w'.heap[n6]? = some (acO x))) := by
            refine (t_take HX.out.2.1 x.l x.n).mono ?_
            rintro e w' ⟨y, rfl, h1, h2, h3, V, hO⟩
            exact ⟨y, rfl, ⟨h1, h2, h3⟩, HAC.out V w' hO⟩
          have HU : Hid (∀ (W : World) (y : Fv), (Rd8 W y.ao y.n y.cap (tkB T x.l x.n) ∧ (∀ a, y.ao = some a → ∃ cs, W.heap[a.block]? = some (.cells cs 5)) ∧ Mid (fun _ => False) B g q w W R T (tkT T x.l x.n)) → Calls Try.prog 15 #[rnV R, .int .i64 x.l, .int .i64 x.n] W fun e w' => ∃ (R' : Nat → Rw) (y' : Fv), e = .returned (.tuple #[rnV R', .slice y'.ao y'.n y'.cap, .bool (hasB T x.l x.n)]) ∧ Bx w' q R ∧ (convert 33 9 (.slice y.ao y.n y.cap)).run Try.prog (st8 w' q R') = .ok (.string (strOfNums (ci (tkB T x.l x.n)))) (st8 w' q R') ∧ (convert 33 9 (.slice y'.ao y'.n y'.cap)).run Try.prog (st8 w' q R') = .ok (.string (strOfNums (ci (tkB T x.l x.n)))) (st8 w' q R') ∧ Hid (Mid (fun _ => False) B g q w (st8 w' q R') R' (tkT T x.l x.n) (tkT T x.l x.n))) := by
            rintro W y ⟨h1, h2, h3⟩
            refine (u_take x.l x.n h3).mono ?_
            rintro e w' ⟨R', y', rfl, hk, h4, h5, h6, hb⟩
            obtain ⟨s1, s2, s3, -⟩ := st8_facts R' hk
            have e1 : ∀ (n : Nat) (cs : Array Value), w'.heap[n]? = some (.cells cs 5) → (st8 w' q R').heap[n]? = w'.heap[n]? := fun n cs hc => s2 n (bx_ne hk hc (by decide))
            refine ⟨R', y', rfl, hk, Rd8.str ?_, Rd8.str ?_, h6⟩
            · refine (h1.below hb).keepB (by rw [s3]; exact Nat.le_refl _) fun a ha _ => ?_
              obtain ⟨cs, hc⟩ := h2 a ha
              exact e1 _ cs ((hb.block _ (Array.getElem?_eq_some_iff.1 hc).1).trans hc)
            · refine h4.keepB (by rw [s3]; exact Nat.le_refl _) fun a ha _ => ?_
              obtain ⟨cs, hc⟩ := h5 a ha
              exact e1 _ cs hc
          generalize hasB T x.l x.n = bq at *
          generalize tkT T x.l x.n = T1 at *
          generalize tkB T x.l x.n = bz at *
          go_wp2_with (first
            | (go_at_call 15; refine (HU.out _ _ HN3.out.1).mono ?_; rintro e w4 ⟨R', y4, rfl, hk4, hs1, hs2, HZ⟩; obtain ⟨g0, g1, g2, g3, g4, g5, g6, g7⟩ := hk4.all; have gf := hk4.fz; unfold st8 at hs1 hs2; clear hk4)
            | (go_at_call 14; refine HN.out.mono ?_; rintro e w3 ⟨y3, rfl, HN3⟩; obtain ⟨v0, v1, v2, v3, v4, v5⟩ := acCells HN3.out.2; obtain ⟨b0, b1', b2, b3, b4, b5, b6, b7⟩ := HN3.out.1.2.2.1.all))
          unfold st8 at HZ
          have HZ2 : Hid (Two B g q w ((((((((w4.setCell ⟨q, 0, none⟩ (.slice (R' 0).ao (R' 0).n (R' 0).cap)).setCell ⟨q, 1, none⟩ (.slice (R' 1).ao (R' 1).n (R' 1).cap)).setCell ⟨q, 2, none⟩ (.slice (R' 2).ao (R' 2).n (R' 2).cap)).setCell ⟨q, 3, none⟩ (.slice (R' 3).ao (R' 3).n (R' 3).cap)).setCell ⟨q, 4, none⟩ (.slice (R' 4).ao (R' 4).n (R' 4).cap)).setCell ⟨q, 5, none⟩ (.slice (R' 5).ao (R' 5).n (R' 5).cap)).setCell ⟨q, 6, none⟩ (.slice (R' 6).ao (R' 6).n (R' 6).cap)).setCell ⟨q, 7, none⟩ (.slice (R' 7).ao (R' 7).n (R' 7).cap))) := ⟨R', T1, HZ.out⟩
          go_roundw
          case rel => exact ⟨j + 1, by omega, by go_num, HZ2⟩
          case measure => simp [intOf]; omega
        · have e1 : (x.k == 1) = false := by simp [hk1]
          by_cases hk2 : x.k = 2
          · have e2 : (x.k == 2) = true := by simp [hk2]
            clear hk2 hk1 hk0
            have HN : Hid (Calls Try.prog 16 #[np g, .int .i64 x.l, .int .i64 x.n] w2 fun e w' => e = .returned (.bool (dbB T x.l x.n)) ∧ Hid (Mid (fun _ => False) B g q w w' R T (dbT T x.l x.n) ∧ w'.heap[n6]? = some (acO x))) := by
              refine (t_double HX.out.2.1 x.l x.n).mono ?_
              rintro e w' ⟨rfl, h1, V, hO⟩
              exact ⟨rfl, h1, HAC.out V w' hO⟩
            have HU : Hid (∀ W, Mid (fun _ => False) B g q w W R T (dbT T x.l x.n) → Calls Try.prog 17 #[rnV R, .int .i64 x.l, .int .i64 x.n] W fun e w' => ∃ R', e = .returned (.tuple #[rnV R', .bool (dbB T x.l x.n)]) ∧ Bx w' q R ∧ Hid (Mid (fun _ => False) B g q w (st8 w' q R') R' (dbT T x.l x.n) (dbT T x.l x.n))) := fun W h => u_double x.l x.n h
            generalize (dbB T x.l x.n) = bq at *
            generalize (dbT T x.l x.n) = T1 at *
            go_wp2_with (first
              | (go_at_call 17; refine (HU.out _ HN3.out.1).mono ?_; rintro e w4 ⟨R', rfl, hk4, HZ⟩; obtain ⟨g0, g1, g2, g3, g4, g5, g6, g7⟩ := hk4.all; have gf := hk4.fz; clear hk4)
              | (go_at_call 16; refine HN.out.mono ?_; rintro e w3 ⟨rfl, HN3⟩; obtain ⟨v0, v1, v2, v3, v4, v5⟩ := acCells HN3.out.2; obtain ⟨b0, b1', b2, b3, b4, b5, b6, b7⟩ := HN3.out.1.1.all))
            unfold st8 at HZ
            have HZ2 : Hid (Two B g q w ((((((((w4.setCell ⟨q, 0, none⟩ (.slice (R' 0).ao (R' 0).n (R' 0).cap)).setCell ⟨q, 1, none⟩ (.slice (R' 1).ao (R' 1).n (R' 1).cap)).setCell ⟨q, 2, none⟩ (.slice (R' 2).ao (R' 2).n (R' 2).cap)).setCell ⟨q, 3, none⟩ (.slice (R' 3).ao (R' 3).n (R' 3).cap)).setCell ⟨q, 4, none⟩ (.slice (R' 4).ao (R' 4).n (R' 4).cap)).setCell ⟨q, 5, none⟩ (.slice (R' 5).ao (R' 5).n (R' 5).cap)).setCell ⟨q, 6, none⟩ (.slice (R' 6).ao (R' 6).n (R' 6).cap)).setCell ⟨q, 7, none⟩ (.slice (R' 7).ao (R' 7).n (R' 7).cap))) := ⟨R', T1, HZ.out⟩
            go_roundw
            case rel => exact ⟨j + 1, by omega, by go_num, HZ2⟩
            case measure => simp [intOf]; omega
          · have e2 : (x.k == 2) = false := by simp [hk2]
            by_cases hk3 : x.k = 3
            · have e3 : (x.k == 3) = true := by simp [hk3]
              clear hk3 hk2 hk1 hk0
              have HN : Hid (Calls Try.prog 18 #[np g, .int .i64 x.l, .int .i64 x.n] w2 fun e w' => e = .returned (.bool (hasB T x.l x.n)) ∧ Hid (Mid (fun _ => False) B g q w w' R T (ltT T x.l x.n) ∧ w'.heap[n6]? = some (acO x))) := by
                refine (t_late HX.out.2.1 x.l x.n).mono ?_
                rintro e w' ⟨rfl, h1, V, hO⟩
                exact ⟨rfl, h1, HAC.out V w' hO⟩
              have HU : Hid (∀ W, Mid (fun _ => False) B g q w W R T (ltT T x.l x.n) → Calls Try.prog 19 #[rnV R, .int .i64 x.l, .int .i64 x.n] W fun e w' => ∃ R', e = .returned (.tuple #[rnV R', .bool (hasB T x.l x.n)]) ∧ Bx w' q R ∧ Hid (Mid (fun _ => False) B g q w (st8 w' q R') R' (ltT T x.l x.n) (ltT T x.l x.n))) := fun W h => u_late x.l x.n h
              generalize (hasB T x.l x.n) = bq at *
              generalize (ltT T x.l x.n) = T1 at *
              go_wp2_with (first
                | (go_at_call 19; refine (HU.out _ HN3.out.1).mono ?_; rintro e w4 ⟨R', rfl, hk4, HZ⟩; obtain ⟨g0, g1, g2, g3, g4, g5, g6, g7⟩ := hk4.all; have gf := hk4.fz; clear hk4)
                | (go_at_call 18; refine HN.out.mono ?_; rintro e w3 ⟨rfl, HN3⟩; obtain ⟨v0, v1, v2, v3, v4, v5⟩ := acCells HN3.out.2; obtain ⟨b0, b1', b2, b3, b4, b5, b6, b7⟩ := HN3.out.1.1.all))
              unfold st8 at HZ
              have HZ2 : Hid (Two B g q w ((((((((w4.setCell ⟨q, 0, none⟩ (.slice (R' 0).ao (R' 0).n (R' 0).cap)).setCell ⟨q, 1, none⟩ (.slice (R' 1).ao (R' 1).n (R' 1).cap)).setCell ⟨q, 2, none⟩ (.slice (R' 2).ao (R' 2).n (R' 2).cap)).setCell ⟨q, 3, none⟩ (.slice (R' 3).ao (R' 3).n (R' 3).cap)).setCell ⟨q, 4, none⟩ (.slice (R' 4).ao (R' 4).n (R' 4).cap)).setCell ⟨q, 5, none⟩ (.slice (R' 5).ao (R' 5).n (R' 5).cap)).setCell ⟨q, 6, none⟩ (.slice (R' 6).ao (R' 6).n (R' 6).cap)).setCell ⟨q, 7, none⟩ (.slice (R' 7).ao (R' 7).n (R' 7).cap))) := ⟨R', T1, HZ.out⟩
              go_roundw
              case rel => exact ⟨j + 1, by omega, by go_num, HZ2⟩
              case measure => simp [intOf]; omega
            · have e3 : (x.k == 3) = false := by simp [hk3]
              by_cases hk4 : x.k = 4
              · have e4 : (x.k == 4) = true := by simp [hk4]
                clear hk4 hk3 hk2 hk1 hk0
                have HN : Hid (Calls Try.prog 20 #[np g, .int .i64 x.l, .int .i64 x.n, .int .i64 x.a, .int .u16 (x.m : Int)] w2 fun e w' => e = .returned (.bool (slB T x.l x.n x.a x.m)) ∧ Hid (Mid (fun _ => False) B g q w w' R T (slT T x.l x.n x.a x.m) ∧ w'.heap[n6]? = some (acO x))) := by
                  refine (t_spoil HX.out.2.1 x.l x.n x.a x.m HX.out.2.2.m16 HX.out.2.2.alo HX.out.2.2.ahi).mono ?_
                  rintro e w' ⟨rfl, h1, V, hO⟩
                  exact ⟨rfl, h1, HAC.out V w' hO⟩
                have HU : Hid (∀ W, Mid (fun _ => False) B g q w W R T (slT T x.l x.n x.a x.m) → Calls Try.prog 21 #[rnV R, .int .i64 x.l, .int .i64 x.n, .int .i64 x.a, .int .u16 (x.m : Int)] W fun e w' => ∃ R', e = .returned (.tuple #[rnV R', .bool (slB T x.l x.n x.a x.m)]) ∧ Bx w' q R ∧ Hid (Mid (fun _ => False) B g q w (st8 w' q R') R' (slT T x.l x.n x.a x.m) (slT T x.l x.n x.a x.m))) := fun W h => u_spoil x.l x.n x.a x.m HX.out.2.2.m16 HX.out.2.2.alo HX.out.2.2.ahi h
                generalize (slB T x.l x.n x.a x.m) = bq at *
                generalize (slT T x.l x.n x.a x.m) = T1 at *
                go_wp2_with (first
                  | (go_at_call 21; refine (HU.out _ HN3.out.1).mono ?_; rintro e w4 ⟨R', rfl, hk4, HZ⟩; obtain ⟨g0, g1, g2, g3, g4, g5, g6, g7⟩ := hk4.all; have gf := hk4.fz; clear hk4)
                  | (go_at_call 20; refine HN.out.mono ?_; rintro e w3 ⟨rfl, HN3⟩; obtain ⟨v0, v1, v2, v3, v4, v5⟩ := acCells HN3.out.2; obtain ⟨b0, b1', b2, b3, b4, b5, b6, b7⟩ := HN3.out.1.1.all))
                unfold st8 at HZ
                have HZ2 : Hid (Two B g q w ((((((((w4.setCell ⟨q, 0, none⟩ (.slice (R' 0).ao (R' 0).n (R' 0).cap)).setCell ⟨q, 1, none⟩ (.slice (R' 1).ao (R' 1).n (R' 1).cap)).setCell ⟨q, 2, none⟩ (.slice (R' 2).ao (R' 2).n (R' 2).cap)).setCell ⟨q, 3, none⟩ (.slice (R' 3).ao (R' 3).n (R' 3).cap)).setCell ⟨q, 4, none⟩ (.slice (R' 4).ao (R' 4).n (R' 4).cap)).setCell ⟨q, 5, none⟩ (.slice (R' 5).ao (R' 5).n (R' 5).cap)).setCell ⟨q, 6, none⟩ (.slice (R' 6).ao (R' 6).n (R' 6).cap)).setCell ⟨q, 7, none⟩ (.slice (R' 7).ao (R' 7).n (R' 7).cap))) := ⟨R', T1, HZ.out⟩
                go_roundw
                case rel => exact ⟨j + 1, by omega, by go_num, HZ2⟩
                case measure => simp [intOf]; omega
              · have e4 : (x.k == 4) = false := by simp [hk4]
                have HZ2 : Hid (Two B g q w w2) := ⟨R, T, HX.out.2.1⟩
                go_wp2
                go_roundw
                case rel => exact ⟨j + 1, by omega, by go_num, HZ2⟩
                case measure => simp [intOf]; omega
    · obtain rfl : m = j := by omega
      clear hlt hj
      obtain ⟨R, T, HM⟩ := HJ.out
      have HE0 : Hid (En0 B g q w wr R T 0) := En0.of (T1 := T) HM
      clear HJ HM
      go_wp2
      go_loopw [159] (fun i wr => ∃ l : Nat, l ≤ 8 ∧ i = .int .i64 l ∧ Hid (En0 B g q w wr R T l)) (fun i _ => 8 - (intOf i).toNat)
      case atStart => exact ⟨0, Nat.zero_le _, rfl, HE0⟩
      case round =>
        obtain ⟨l, hl8, rfl, HL⟩ := hrel
        rename World => wy
        clear HE0
        by_cases hl : l < 8
        · have hlz : (l : Int) < 8 := by omega
          obtain ⟨N, hN⟩ : ∃ N, (T l).length = N := ⟨_, rfl⟩
          have HLd : Hid (En0 B g q w wy.drew R T l) := HL.out.below (bel0 wy)
          have HLn : Hid (Calls Try.prog 12 #[np g, .int .i64 (l : Int)] wy.drew fun e w' => e = .returned (.int .i64 (N : Int)) ∧ w' = wy.drew) := by
            have := HLd.out.len hl
            rwa [hN] at this
          have hRn : (R l).n = N := by
            obtain ⟨h1, h2, h3, V, U, T1, h4, h5, h6, h7⟩ := HLd.out
            rw [h6.len hl, hN]
          have HTN : Hid ((T l).length = N) := hN
          obtain ⟨ar, har⟩ : ∃ a, (R l).ao = a := ⟨_, rfl⟩
          obtain ⟨cr, hcr⟩ : ∃ c, (R l).cap = c := ⟨_, rfl⟩
          have HRA : Hid ((R l).ao = ar) := har
          have hc := HLd.out.1.c l hl
          rw [show sl (R l) = .slice (R l).ao (R l).n (R l).cap from rfl, har, hcr, hRn] at hc
          clear hN hRn har hcr
          go_upto_region 40 with fail
          refine wp_region_held (S := fun U => U = wy.drew) (by kernel_rfl) ?_
          refine held_val (i := 0) ?_ 162 rfl rfl (by kernel_rfl) (by kernel_rfl) (by kernel_rfl) (by rfl) (fun _ _ _ h => h) rfl ?_ ?_
          rotate_left
          · (intro w hSw; subst hSw; go_simp; first | done | with_reducible rfl)
          simp only [Act.put, List.setIfInBounds_toArray, List.set_cons_zero, List.set_cons_succ]
          refine held_val (i := 1) ?_ 163 rfl rfl (by kernel_rfl) (by kernel_rfl) (by kernel_rfl) (by rfl) (fun _ _ _ h => h) rfl ?_ ?_
          rotate_left
          · (intro w hSw; subst hSw; go_simp; first | done | with_reducible rfl)
          simp only [Act.put, List.setIfInBounds_toArray, List.set_cons_zero, List.set_cons_succ]
          refine held_val (i := 3) ?_ 165 rfl rfl (by kernel_rfl) (by kernel_rfl) (by kernel_rfl) (by rfl) (fun _ _ _ h => h) rfl ?_ ?_
          rotate_left
          · (intro w hSw; subst hSw; go_simp; first | done | with_reducible rfl)
          simp only [Act.put, List.setIfInBounds_toArray, List.set_cons_zero, List.set_cons_succ]
          refine held_val (i := 4) ?_ 166 rfl rfl (by kernel_rfl) (by kernel_rfl) (by kernel_rfl) (by rfl) (fun _ _ _ h => h) rfl ?_ ?_
          rotate_left
          · (intro w hSw; subst hSw; go_simp; first | done | with_reducible rfl)
          simp only [Act.put, List.setIfInBounds_toArray, List.set_cons_zero, List.set_cons_succ]
          refine held_val (i := 5) ?_ 167 rfl rfl (by kernel_rfl) (by kernel_rfl) (by kernel_rfl) (by rfl) (fun _ _ _ h => h) rfl ?_ ?_
          rotate_left
          · (intro w hSw; subst hSw; go_simp; first | done | with_reducible rfl)
          simp only [Act.put, List.setIfInBounds_toArray, List.set_cons_zero, List.set_cons_succ]
          refine held_val (i := 6) ?_ 168 rfl rfl (by kernel_rfl) (by kernel_rfl) (by kernel_rfl) (by rfl) (fun _ _ _ h => h) rfl ?_ ?_
          rotate_left
          · (intro w hSw; subst hSw; go_simp; first | done | with_reducible rfl)
          simp only [Act.put, List.setIfInBounds_toArray, List.set_cons_zero, List.set_cons_succ]
          refine held_call (i := 2) 164 12 #[np g, .int .i64 (l : Int)] rfl rfl (by kernel_rfl) (by rfl) (by simp [go_sem]) HLn.out ?_
          rintro e w8 ⟨rfl, hw8⟩
          refine ⟨_, rfl, hw8, ?_⟩
          subst w8
          simp only [Act.put, List.setIfInBounds_toArray, List.set_cons_zero, List.set_cons_succ]
          refine held_val (i := 7) ?_ 169 rfl rfl (by kernel_rfl) (by kernel_rfl) (by kernel_rfl) (by rfl) (fun _ _ _ h => h) rfl ?_ ?_
          rotate_left
          · (intro w hSw; subst hSw; go_simp; first | done | with_reducible rfl)
          simp only [Act.put, List.setIfInBounds_toArray, List.set_cons_zero, List.set_cons_succ]
          refine wpAnyH_done (by kernel_rfl) ?_ _
          generalize wy.drew = wd at *
          have HE1 : Hid (En B g q w wd R T l 0) := HLd.out.start hl
          clear HL HLn HLd
          go_wp2
          go_loopw [174] (fun i wr => ∃ t : Nat, t ≤ N ∧ i = .int .i64 t ∧ Hid (En B g q w wr R T l t)) (fun i _ => N - (intOf i).toNat)
          case atStart => exact ⟨0, Nat.zero_le _, rfl, HE1⟩
          case round =>
            obtain ⟨t, ht, rfl, HT⟩ := hrel
            rename World => wq
            clear HE1 hc
            by_cases htN : t < N
            · have htT : t < (T l).length := by rw [HTN.out]; exact htN
              obtain ⟨rb, x, ha, z0, z1, hxi, hfx⟩ := HT.out.at hl htT
              rw [HRA.out] at ha
              have hal : Below wq.heap.size wq (wq.alloc (itO x)) := (Below.refl _ _).alloc (Nat.le_refl _) _
              obtain ⟨n15, hn15⟩ : ∃ n, wq.heap.size = n := ⟨_, rfl⟩
              have HTk : Hid (Calls Try.prog 14 #[np g, .int .i64 (l : Int), .int .i64 0] (wq.alloc (itO x)) fun e w' => ∃ y : Fv, e = .returned (.tuple #[.slice y.ao y.n y.cap, .bool true]) ∧ w'.heap[n15]? = some (itO x) ∧ (convert 33 9 (.slice y.ao y.n y.cap)).run Try.prog w' = .ok (.string (strOfNums (ci x.bs))) w' ∧ (convert 33 9 (.slice x.ao x.n x.cap)).run Try.prog w' = .ok (.string (strOfNums (ci x.bs))) w' ∧ Hid (En B g q w w' R T l (t + 1))) := (HT.out.below hal).take hl htT (hn15 ▸ heap_alloc_new wq (itO x)) (hfx.below hal) hxi
              have htz : (t : Int) < (N : Int) := by omega
              have hN200 : (N : Int) ≤ 9223372036854775807 := by
                obtain ⟨h1, h2, h3, V, U, T1, h4, h5, ⟨F, h6, hTT⟩, h7⟩ := HT.out
                have h8 := h6.le l hl
                have h9 : (F l).length = (T l).length := by rw [← hTT l hl, List.length_map]
                have h10 := HTN.out
                omega
              rw [ha]
              clear hal hxi hfx htT
              go_upto_region 45 with fail
              show Code.wp _ _ _ _ (wq.alloc (itO x))
              try rw [hn15]
              clear hn15 z0 z1
              go_wp2_with (go_at_call 14; refine HTk.out.mono ?_; rintro e w9 ⟨y, rfl, hx9, hs1, hs2, HT9⟩; obtain ⟨p0, p1⟩ := itCells hx9)
              go_roundw
              case rel => exact ⟨t + 1, by omega, by go_num, HT9⟩
              case measure => simp [intOf]; omega
            · have HNx : Hid (En0 B g q w wq R T (l + 1)) := HT.out.next
              have htn : t = N := by omega
              clear HT
              subst htn
              go_wp2
              go_roundw
              case rel => exact ⟨l + 1, by omega, by go_num, HNx⟩
              case measure => simp [intOf]; omega
        · go_wp2
          go_ret
          exact ⟨rfl, by rw [HI.out.2.2]; exact HL.out.2.1⟩

end Go.Proofs.Ytfllkhimlambhaa
