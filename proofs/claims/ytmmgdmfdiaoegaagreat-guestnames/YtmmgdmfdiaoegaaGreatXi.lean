/- What packet and Packets of package link do, walked. What Packets of package link does, walked. What fits and Got of package link do, walked. -/
import Derived.Test.YtmmgdmfdiaoegaaGreatPm
namespace Go.Proofs.YtmmgdmfdiaoegaaGreat.Lnk
open Go.RowKit
set_option linter.unusedVariables false
set_option maxRecDepth 8000

/-- The packet of a body. -/
def mkPk (I : LkI) (h : Nat) (sq : Int) (bs : List Nat) : PkG := ⟨I.cl, I.ep, I.bo, sq, (h : Int), I.sv, bs⟩

abbrev pkZ : Obj := .cells #[.int .i64 0, .int .i64 0, .int .i64 0, .int .i64 0, .int .i64 0, .bool false, .slice none 0 0] 45

theorem put7_other (w : World) (N g : Nat) (hne : g ≠ N) (v0 v1 v2 v3 v4 v5 v6 : Value) : (((((((w.setCell ⟨N, 0, none⟩ v0).setCell ⟨N, 1, none⟩ v1).setCell ⟨N, 2, none⟩ v2).setCell ⟨N, 3, none⟩ v3).setCell ⟨N, 4, none⟩ v4).setCell ⟨N, 5, none⟩ v5).setCell ⟨N, 6, none⟩ v6).heap[g]? = w.heap[g]? := by
  have h := fun (W : World) (j : Nat) (v : Value) => Below.heap_setCell W ⟨N, j, none⟩ v g hne
  simp only [h]

theorem put7_in (w : World) (N : Nat) (P Q : PkG) (u z : Value) (h : PkIn w N 0 Q z) : PkIn (((((((w.setCell ⟨N, 0, none⟩ (.int .i64 P.cl)).setCell ⟨N, 1, none⟩ (.int .i64 P.ep)).setCell ⟨N, 2, none⟩ (.int .i64 P.bo)).setCell ⟨N, 3, none⟩ (.int .i64 P.sq)).setCell ⟨N, 4, none⟩ (.int .i64 P.ak)).setCell ⟨N, 5, none⟩ (.bool P.sv)).setCell ⟨N, 6, none⟩ u) N 0 P u := by
  have p := fun (W : World) (i j : Nat) (v : Value) (hne : j ≠ i) => put_other W N i j v hne
  have h0 := h.c0
  have h1 := h.c1
  have h2 := h.c2
  have h3 := h.c3
  have h4 := h.c4
  have h5 := h.c5
  have h6 := h.c6
  simp only [Nat.zero_add] at h1 h2 h3 h4 h5 h6
  refine ⟨?_, ?_, ?_, ?_, ?_, ?_, ?_⟩
  · rw [p _ 6 0 _ (by omega), p _ 5 0 _ (by omega), p _ 4 0 _ (by omega), p _ 3 0 _ (by omega), p _ 2 0 _ (by omega), p _ 1 0 _ (by omega)]
    exact World.cell?_setCell_same _ _ _ (by exact h0)
  · simp only [Nat.zero_add]
    rw [p _ 6 1 _ (by omega), p _ 5 1 _ (by omega), p _ 4 1 _ (by omega), p _ 3 1 _ (by omega), p _ 2 1 _ (by omega)]
    exact World.cell?_setCell_same _ _ _ (by rw [p _ 0 1 _ (by omega)]; exact h1)
  · simp only [Nat.zero_add]
    rw [p _ 6 2 _ (by omega), p _ 5 2 _ (by omega), p _ 4 2 _ (by omega), p _ 3 2 _ (by omega)]
    exact World.cell?_setCell_same _ _ _ (by rw [p _ 1 2 _ (by omega), p _ 0 2 _ (by omega)]; exact h2)
  · simp only [Nat.zero_add]
    rw [p _ 6 3 _ (by omega), p _ 5 3 _ (by omega), p _ 4 3 _ (by omega)]
    exact World.cell?_setCell_same _ _ _ (by rw [p _ 2 3 _ (by omega), p _ 1 3 _ (by omega), p _ 0 3 _ (by omega)]; exact h3)
  · simp only [Nat.zero_add]
    rw [p _ 6 4 _ (by omega), p _ 5 4 _ (by omega)]
    exact World.cell?_setCell_same _ _ _ (by rw [p _ 3 4 _ (by omega), p _ 2 4 _ (by omega), p _ 1 4 _ (by omega), p _ 0 4 _ (by omega)]; exact h4)
  · simp only [Nat.zero_add]
    rw [p _ 6 5 _ (by omega)]
    exact World.cell?_setCell_same _ _ _ (by rw [p _ 4 5 _ (by omega), p _ 3 5 _ (by omega), p _ 2 5 _ (by omega), p _ 1 5 _ (by omega), p _ 0 5 _ (by omega)]; exact h5)
  · simp only [Nat.zero_add]
    exact World.cell?_setCell_same _ _ _ (by rw [p _ 5 6 _ (by omega), p _ 4 6 _ (by omega), p _ 3 6 _ (by omega), p _ 2 6 _ (by omega), p _ 1 6 _ (by omega), p _ 0 6 _ (by omega)]; exact h6)

theorem put7_size (w : World) (N : Nat) (v0 v1 v2 v3 v4 v5 v6 : Value) : (((((((w.setCell ⟨N, 0, none⟩ v0).setCell ⟨N, 1, none⟩ v1).setCell ⟨N, 2, none⟩ v2).setCell ⟨N, 3, none⟩ v3).setCell ⟨N, 4, none⟩ v4).setCell ⟨N, 5, none⟩ v5).setCell ⟨N, 6, none⟩ v6).heap.size = w.heap.size := by simp [World.setCell]

theorem put7_below (B : Nat) (w0 w : World) (N : Nat) (hN : B ≤ N) (h : Below B w0 w) (v0 v1 v2 v3 v4 v5 v6 : Value) : Below B w0 (((((((w.setCell ⟨N, 0, none⟩ v0).setCell ⟨N, 1, none⟩ v1).setCell ⟨N, 2, none⟩ v2).setCell ⟨N, 3, none⟩ v3).setCell ⟨N, 4, none⟩ v4).setCell ⟨N, 5, none⟩ v5).setCell ⟨N, 6, none⟩ v6) :=
  ((((((h.setCell (p := ⟨N, 0, none⟩) hN v0).setCell (p := ⟨N, 1, none⟩) hN v1).setCell (p := ⟨N, 2, none⟩) hN v2).setCell (p := ⟨N, 3, none⟩) hN v3).setCell (p := ⟨N, 4, none⟩) hN v4).setCell (p := ⟨N, 5, none⟩) hN v5).setCell (p := ⟨N, 6, none⟩) hN v6

set_option maxHeartbeats 1600000 in
theorem packet_any (w : World) (B g : Nat) (ao : Option Addr) (n cap : Nat) (V : Nat → Prop) (I : LkI) (L : List (List Nat)) (s h : Nat) (H : Lk w B g ao n cap V I L s h) (sq : Int) (ax : Option Addr) (m cx : Nat) (bs : List Nat) (hr : Rd8 w ax m cx bs) (hm : m ≤ 140737488355328) :
    Calls Tryz.prog 48 #[lp g, .int .i64 sq, .slice ax m cx] w fun e w' => ∃ u, e = .returned (pkV (mkPk I h sq bs) u) ∧ By w' (fun k => w.heap.size ≤ k) u bs ∧ Below w.heap.size w w' := by
  have hg := H.hd.lt
  have HS : Hid (∀ W : World, W.heap[g]? = w.heap[g]? → (W.cell? ⟨g, 0, none⟩ = some (.int .i64 I.cl) ∧ W.cell? ⟨g, 1, none⟩ = some (.int .i64 I.ep) ∧ W.cell? ⟨g, 2, none⟩ = some (.int .i64 I.bo) ∧ W.cell? ⟨g, 6, none⟩ = some (.int .i64 (h : Int)) ∧ W.cell? ⟨g, 3, none⟩ = some (.bool I.sv))) := fun W hW => by
    have t := H.hd.keep hW
    exact ⟨t.c0, t.c1, t.c2, t.c6, t.c3⟩
  have hA : (w.alloc pkZ).drew.heap[g]? = w.heap[g]? := heap_alloc_old w _ hg
  have HC : Hid (Calls Tryz.prog 47 #[.slice ax m cx] (w.alloc pkZ).drew fun e w' => ∃ a1 c1, e = .returned (.slice a1 m c1) ∧ Below w.heap.size w w' ∧ By w' (fun k => w.heap.size ≤ k) (.slice a1 m c1) bs ∧ PkIn w' w.heap.size 0 ⟨0, 0, 0, 0, 0, false, []⟩ (.slice none 0 0) ∧ (∃ cs, w'.heap[w.heap.size]? = some (.cells cs 45 (0, 0))) ∧ ∀ j, w'.frozen? ⟨w.heap.size, j, none⟩ = false) := by
    refine (clone_any ax m cx bs (w.alloc pkZ).drew ((hr.alloc _).heap rfl) (by omega)).mono ?_
    rintro e w' ⟨a1, c1, rfl, hy, hb⟩
    have hb' : Below (w.alloc pkZ).heap.size (w.alloc pkZ) w' := ⟨hb.os, hb.tape, hb.output, hb.size, hb.block⟩
    have hN : w'.heap[w.heap.size]? = some pkZ := (hb'.block w.heap.size (by simp)).trans (heap_alloc_new w _)
    refine ⟨a1, c1, rfl, below_alloc (hb'.mono (by simp)), hy.mono fun k _ hk => by simp at hk; omega, ?_, ⟨_, hN⟩, fun j => frozen_of_row _ _ _ _ _ hN⟩
    exact (PkIn.new w ⟨0, 0, 0, 0, 0, false, []⟩ (.slice none 0 0)).below hb'
  have hgN : g ≠ w.heap.size := by omega
  go_enter Tryz.func48, Tryz.ntmps48
  go_upto_region 1 with fail
  first
    | go_region_held (fun W => (W.cell? ⟨g, 0, none⟩ = some (.int .i64 I.cl) ∧ W.cell? ⟨g, 1, none⟩ = some (.int .i64 I.ep) ∧ W.cell? ⟨g, 2, none⟩ = some (.int .i64 I.bo) ∧ W.cell? ⟨g, 6, none⟩ = some (.int .i64 (h : Int)) ∧ W.cell? ⟨g, 3, none⟩ = some (.bool I.sv)))
      (first | with_reducible exact HS.out _ hA | with_reducible exact HS.out _ hg1 | with_reducible exact HS.out _ ((put7_other _ _ _ hgN _ _ _ _ _ _ _).trans hg1) | fail)
      (first
        | (go_at_call 47; refine HC.out.mono ?_; rintro e w1 ⟨a1, c1, rfl, hb1, hy1, hP1, hT1, hF1⟩; have hg1 : w1.heap[g]? = w.heap[g]? := hb1.block g hg; have p0 := hP1.c0; have p1 := hP1.c1; have p2 := hP1.c2; have p3 := hP1.c3; have p4 := hP1.c4; have p5 := hP1.c5; have p6 := hP1.c6; simp only [Nat.zero_add] at p1 p2 p3 p4 p5 p6; have f0 := hF1 0; have f1 := hF1 1; have f2 := hF1 2; have f3 := hF1 3; have f4 := hF1 4; have f5 := hF1 5; have f6 := hF1 6; have HP1 : Hid (PkIn w1 w.heap.size 0 ⟨0, 0, 0, 0, 0, false, []⟩ (.slice none 0 0)) := hP1; clear hP1 hF1))
    | fail
  have hPN : PkIn (((((((w1.setCell ⟨w.heap.size, 0, none⟩ (.int .i64 I.cl)).setCell ⟨w.heap.size, 1, none⟩ (.int .i64 I.ep)).setCell ⟨w.heap.size, 2, none⟩ (.int .i64 I.bo)).setCell ⟨w.heap.size, 3, none⟩ (.int .i64 sq)).setCell ⟨w.heap.size, 4, none⟩ (.int .i64 (h : Int))).setCell ⟨w.heap.size, 5, none⟩ (.bool I.sv)).setCell ⟨w.heap.size, 6, none⟩ (.slice a1 m c1)) w.heap.size 0 (mkPk I h sq bs) (.slice a1 m c1) := put7_in w1 w.heap.size (mkPk I h sq bs) ⟨0, 0, 0, 0, 0, false, []⟩ (.slice a1 m c1) (.slice none 0 0) HP1.out
  have hyN : By (((((((w1.setCell ⟨w.heap.size, 0, none⟩ (.int .i64 I.cl)).setCell ⟨w.heap.size, 1, none⟩ (.int .i64 I.ep)).setCell ⟨w.heap.size, 2, none⟩ (.int .i64 I.bo)).setCell ⟨w.heap.size, 3, none⟩ (.int .i64 sq)).setCell ⟨w.heap.size, 4, none⟩ (.int .i64 (h : Int))).setCell ⟨w.heap.size, 5, none⟩ (.bool I.sv)).setCell ⟨w.heap.size, 6, none⟩ (.slice a1 m c1)) (fun k => w.heap.size ≤ k) (.slice a1 m c1) bs := by
    refine hy1.keepx (by rw [put7_size]; exact Nat.le_refl _) fun k cs fr hk => put7_other _ _ _ ?_ _ _ _ _ _ _ _
    intro e
    obtain ⟨cs', hT⟩ := hT1
    rw [e, hT] at hk
    simp at hk
  have hbN : Below w.heap.size w (((((((w1.setCell ⟨w.heap.size, 0, none⟩ (.int .i64 I.cl)).setCell ⟨w.heap.size, 1, none⟩ (.int .i64 I.ep)).setCell ⟨w.heap.size, 2, none⟩ (.int .i64 I.bo)).setCell ⟨w.heap.size, 3, none⟩ (.int .i64 sq)).setCell ⟨w.heap.size, 4, none⟩ (.int .i64 (h : Int))).setCell ⟨w.heap.size, 5, none⟩ (.bool I.sv)).setCell ⟨w.heap.size, 6, none⟩ (.slice a1 m c1)) := put7_below w.heap.size w w1 w.heap.size (Nat.le_refl _) hb1 _ _ _ _ _ _ _
  generalize (((((((w1.setCell ⟨w.heap.size, 0, none⟩ (.int .i64 I.cl)).setCell ⟨w.heap.size, 1, none⟩ (.int .i64 I.ep)).setCell ⟨w.heap.size, 2, none⟩ (.int .i64 I.bo)).setCell ⟨w.heap.size, 3, none⟩ (.int .i64 sq)).setCell ⟨w.heap.size, 4, none⟩ (.int .i64 (h : Int))).setCell ⟨w.heap.size, 5, none⟩ (.bool I.sv)).setCell ⟨w.heap.size, 6, none⟩ (.slice a1 m c1)) = W at *
  have q0 := hPN.c0
  have q1 := hPN.c1
  have q2 := hPN.c2
  have q3 := hPN.c3
  have q4 := hPN.c4
  have q5 := hPN.c5
  have q6 := hPN.c6
  simp only [Nat.zero_add] at q1 q2 q3 q4 q5 q6
  clear p0 p1 p2 p3 p4 p5 p6 f0 f1 f2 f3 f4 f5 f6
  go_wp2
  refine bodyPost_ret (by simp [results, Tryz.results48, go_sem, q0, q1, q2, q3, q4, q5, q6]; try rfl) rfl ?_
  exact ⟨_, rfl, hyN, hbN⟩

end Go.Proofs.YtmmgdmfdiaoegaaGreat.Lnk

namespace Go.Proofs.YtmmgdmfdiaoegaaGreat.Lnk
open Go.RowKit
set_option linter.unusedVariables false
set_option maxRecDepth 8000

/-- The packets of bodies, from a number on. -/
def pksFrom (I : LkI) (h : Nat) : Int → List (List Nat) → List PkG
  | _, [] => []
  | q, b :: L => mkPk I h q b :: pksFrom I h (q + 1) L

theorem pksFrom_length (I : LkI) (h : Nat) : ∀ (L : List (List Nat)) (q : Int), (pksFrom I h q L).length = L.length
  | [], _ => rfl
  | b :: L, q => by simp [pksFrom, pksFrom_length I h L]
theorem pksFrom_snoc (I : LkI) (h : Nat) (b : List Nat) : ∀ (L : List (List Nat)) (q : Int), pksFrom I h q (L ++ [b]) = pksFrom I h q L ++ [mkPk I h (q + L.length) b]
  | [], q => by simp [pksFrom]
  | c :: L, q => by
    simp only [List.cons_append, pksFrom, pksFrom_snoc I h b L, List.length_cons]
    have : q + 1 + (L.length : Int) = q + ((L.length + 1 : Nat) : Int) := by omega
    rw [this]
theorem pksFrom_get (I : LkI) (h : Nat) : ∀ (L : List (List Nat)) (q : Int) (i : Nat) (hi : i < L.length), (pksFrom I h q L)[i]? = some (mkPk I h (q + i) L[i])
  | b :: L, q, 0, _ => by simp [pksFrom]
  | b :: L, q, i + 1, hi => by
    have h1 := pksFrom_get I h L (q + 1) i (by simpa using hi)
    simp only [pksFrom, List.getElem?_cons_succ, h1, List.getElem_cons_succ]
    have : q + 1 + (i : Int) = q + ((i + 1 : Nat) : Int) := by omega
    rw [this]

/-- What is under way, as packets. -/
def pksOf (I : LkI) (L : List (List Nat)) (s h : Nat) : List PkG := if L = [] then [mkPk I h 0 []] else pksFrom I h ((s : Int) - (L.length : Int) + 1) L

set_option maxHeartbeats 1600000 in
theorem packets_any (w : World) (B g : Nat) (ao : Option Addr) (n cap : Nat) (V : Nat → Prop) (I : LkI) (L : List (List Nat)) (s h : Nat) (H : Lk w B g ao n cap V I L s h) :
    Calls Tryz.prog 32 #[lp g] w fun e w' => ∃ v, e = .returned v ∧ Pks w' w.heap.size (fun k => w.heap.size ≤ k) v (pksOf I L s h) ∧ Below w.heap.size w w' := by
  have h4 := H.hd.c4
  have hle := H.le
  have hsl := H.sl
  have hsm := H.sm
  have hlen := H.len
  by_cases h0 : n = 0
  · have hL : L = [] := List.eq_nil_of_length_eq_zero (by omega)
    have HL : Hid (pksOf I L s h = [mkPk I h 0 []]) := by unfold Hid pksOf; rw [if_pos hL]
    have hd : decide ((n : Int) = 0) = true := by simp; omega
    have hd2 : ((n : Int) == 0) = true := by simp; omega
    have HN : Hid (n = 0) := h0
    clear hlen hL h0 hle hsl
    go_enter Tryz.func32, Tryz.ntmps32
    go_wp2_with (first
      | (go_at_call 48; refine (packet_any _ _ _ _ _ _ _ _ _ _ _ H 0 none 0 0 [] (Rd8.empty _) (by omega)).mono ?_; rintro e w1 ⟨u, rfl, hy1, hb1⟩))
    go_ret
    refine ⟨_, rfl, ?_, ?_⟩
    · rw [HL.out]
      exact Pks.built w1 _ _ (mkPk I h 0 []) u hb1.size (hy1.below ((Below.refl _ _).alloc (Nat.le_refl _) _))
    · exact hb1.alloc hb1.size _
  · obtain ⟨vs, ho, hbs⟩ := H.row
    have hvl : vs.length = n := hbs.len.trans hlen
    obtain ⟨r, hr⟩ := ho.place (by omega)
    subst hr
    have HL : Hid (pksOf I L s h = pksFrom I h ((s : Int) - (n : Int) + 1) (L.take n)) := by
      unfold Hid pksOf
      rw [if_neg (by intro e; subst e; simp at hlen; omega), hlen, List.take_of_length_le (by omega)]
    have HB : Hid (∀ (k : Nat) (W : World), k < n → Below w.heap.size w W → ∃ ax m cx bs, W.cell? ⟨r, k, none⟩ = some (.slice ax m cx) ∧ Rd8 W ax m cx bs ∧ m ≤ 700 ∧ pksFrom I h ((s : Int) - (n : Int) + 1) (L.take k) ++ [mkPk I h ((s : Int) - (n : Int) + 1 + (k : Int)) bs] = pksFrom I h ((s : Int) - (n : Int) + 1) (L.take (k + 1)) ∧ (pksFrom I h ((s : Int) - (n : Int) + 1) (L.take k)).length = k) := by
      intro k W hk hb
      have hkL : k < L.length := by omega
      have hkv : k < vs.length := by omega
      obtain ⟨ax, m, cx, e, hr, _, _⟩ := (hbs.each k vs[k] L[k] (by simp) (by simp)).below hb
      have hc := World.ownsRow.cellAt (ho.below hb) k (by omega)
      refine ⟨ax, m, cx, L[k], ?_, hr, ?_, ?_, ?_⟩
      · rw [hc, ← e]; simp
      · have := H.sz L[k] (List.getElem_mem _)
        have := hr.len
        omega
      · rw [List.take_succ_eq_append_getElem hkL, pksFrom_snoc, List.length_take, Nat.min_eq_left (by omega)]
      · rw [pksFrom_length, List.length_take]; omega
    have HK : Hid (∀ W, Below w.heap.size w W → Lk W B g (some ⟨r, 0, none⟩) n cap V I L s h) := fun W hW => H.below hW
    have hd2 : ((n : Int) == 0) = false := by simp; omega
    have hw1 : IntKind.i64.wrap ((s : Int) - (n : Int) + 1) = (s : Int) - (n : Int) + 1 := by rw [IntKind.wrap_i64]; omega
    clear hlen hvl ho hbs
    go_enter Tryz.func32, Tryz.ntmps32
    go_wp2_with (first
      | (go_at_call 49; refine (known_any _ _ _ _ _ _ _ _ _ _ _ H).mono ?_; rintro e w0 ⟨rfl, j0, hw⟩; subst w0))
    go_loopw [4, 24] (fun v i wr => ∃ k : Nat, k ≤ n ∧ i = .int .i64 k ∧ Pks wr w.heap.size (fun k => w.heap.size ≤ k) v (pksFrom I h ((s : Int) - (n : Int) + 1) (L.take k)) ∧ Below w.heap.size w wr) (fun _ i _ => n - (intOf i).toNat)
    case atStart => exact ⟨0, Nat.zero_le _, rfl, by simpa [pksFrom] using Pks.nil _ _ _, ⟨rfl, rfl, rfl, Nat.le_refl _, fun _ _ => rfl⟩⟩
    case round =>
      obtain ⟨k, hk, rfl, hp, hbel⟩ := hrel
      by_cases hlt : k < n
      · obtain ⟨ax, m, cx, bs, hc, hr, hm, hsn, hpl⟩ := HB.out k _ hlt hbel
        have HH := HK.out _ hbel
        have HSN : Hid (pksFrom I h ((s : Int) - (n : Int) + 1) (L.take k) ++ [mkPk I h ((s : Int) - (n : Int) + 1 + (k : Int)) bs] = pksFrom I h ((s : Int) - (n : Int) + 1) (L.take (k + 1))) := hsn
        have HPL : Hid ((pksFrom I h ((s : Int) - (n : Int) + 1) (L.take k)).length = k) := hpl
        have hw2 : IntKind.i64.wrap ((s : Int) - (n : Int) + 1 + (k : Int)) = (s : Int) - (n : Int) + 1 + (k : Int) := by rw [IntKind.wrap_i64]; omega
        clear hsn hpl
        go_wp2_with (first
          | (at_builtin; refine wpList_append_pks _ rfl _ _ rfl w.heap.size rfl rfl hp2 (Pks.built w1 w.heap.size _ (mkPk I h ((s : Int) - (n : Int) + 1 + (k : Int)) bs) u hs1 hy2).rd (by rw [HPL.out]; simp; omega) (by simp; omega) ?_; intro v3 w3 hp3 hg3 _)
          | (go_at_call 48; refine (packet_any _ _ _ _ _ _ _ _ _ _ _ HH ((s : Int) - (n : Int) + 1 + (k : Int)) ax m cx bs hr (by omega)).mono ?_; rintro e w1 ⟨u, rfl, hy1, hb1⟩; have hbw : Below w.heap.size w w1 := below_step hbel hb1; have hs1 := hbw.size; have hp2 := (hp.below hb1).below ((Below.refl _ _).alloc (Nat.le_refl _) (pkO (mkPk I h ((s : Int) - (n : Int) + 1 + (k : Int)) bs) u)); have hy2 : By (w1.alloc (pkO (mkPk I h ((s : Int) - (n : Int) + 1 + (k : Int)) bs) u)) (fun k => w.heap.size ≤ k) u bs := (hy1.mono fun j _ hj => Nat.le_trans hbel.size hj).below ((Below.refl _ _).alloc (Nat.le_refl _) _)))
        go_roundw
        case rel => exact ⟨k + 1, by omega, by go_num, by rw [← HSN.out]; exact hp3, (hbw.alloc hs1 _).trans (hp2.grownBelow (by simp; omega) hg3)⟩
        case measure => simp [intOf]; omega
      · have hkn : k = n := by omega
        subst hkn
        go_wp2
        go_ret
        exact ⟨_, rfl, by rw [HL.out]; exact hp, hbel⟩

end Go.Proofs.YtmmgdmfdiaoegaaGreat.Lnk

namespace Go.Proofs.YtmmgdmfdiaoegaaGreat.Lnk
open Go.RowKit
set_option linter.unusedVariables false
set_option maxRecDepth 8000

/-- Can the packet be one of the other end? -/
def fitB (I : LkI) (s : Nat) (P : PkG) : Bool := P.cl == I.cl && P.ep == I.ep && P.bo == I.bo && P.sv != I.sv && decide (P.ak ≤ (s : Int))

set_option maxHeartbeats 800000 in
theorem fits_any (w : World) (B g : Nat) (ao : Option Addr) (n cap : Nat) (V : Nat → Prop) (I : LkI) (L : List (List Nat)) (s h : Nat) (H : Lk w B g ao n cap V I L s h) (P : PkG) (u : Value) (b : Bool) (hb : fitB I s P = b) :
    Calls Tryz.prog 51 #[lp g, pkV P u] w fun e w' => e = .returned (.bool b) ∧ Below w.heap.size w w' := by
  have HA := (H.below ((Below.refl _ _).alloc (Nat.le_refl _) (pkO P u))).hd
  have h0 := HA.c0
  have h1 := HA.c1
  have h2 := HA.c2
  have h3 := HA.c3
  have h5 := HA.c5
  clear HA
  obtain ⟨cl, ep, bo, sq, ak, sv, bs⟩ := P
  obtain ⟨icl, iep, ibo, isv⟩ := I
  simp only at h0 h1 h2 h3 h5
  have HB : Hid (fitB ⟨icl, iep, ibo, isv⟩ s ⟨cl, ep, bo, sq, ak, sv, bs⟩ = b) := hb
  clear hb
  have fin : ∀ j, Below w.heap.size w ((w.alloc (pkO ⟨cl, ep, bo, sq, ak, sv, bs⟩ u)).drewN j) := fun j => ⟨rfl, rfl, rfl, by simp, fun k hk => heap_alloc_old w _ hk⟩
  have HFI : Hid (∀ j, Below w.heap.size w ((w.alloc (pkO ⟨cl, ep, bo, sq, ak, sv, bs⟩ u)).drewN j)) := fin
  clear fin
  cases q1 : (cl == icl)
  · go_enter Tryz.func51, Tryz.ntmps51
    go_wp2
    go_quiet (fail)
    go_wp2
    go_ret
    exact ⟨ret_bool (by rw [← HB.out]; simp [fitB, q1]), HFI.out _⟩
  · cases q2 : (ep == iep)
    · go_enter Tryz.func51, Tryz.ntmps51
      go_wp2
      go_quiet (fail)
      go_wp2
      go_ret
      exact ⟨ret_bool (by rw [← HB.out]; simp [fitB, q2]), HFI.out _⟩
    · cases q3 : (bo == ibo)
      · go_enter Tryz.func51, Tryz.ntmps51
        go_wp2
        go_quiet (fail)
        go_wp2
        go_ret
        exact ⟨ret_bool (by rw [← HB.out]; simp [fitB, q3]), HFI.out _⟩
      · cases q4 : (sv == isv)
        · go_enter Tryz.func51, Tryz.ntmps51
          go_wp2
          go_quiet (fail)
          go_wp2
          go_ret
          exact ⟨ret_bool (by rw [← HB.out]; simp [fitB, bne, q1, q2, q3, q4]), HFI.out _⟩
        · go_enter Tryz.func51, Tryz.ntmps51
          go_wp2
          go_quiet (fail)
          go_wp2
          go_ret
          exact ⟨ret_bool (by rw [← HB.out]; simp [fitB, bne, q4]), HFI.out _⟩

/-- Is a body told? -/
def gotB (I : LkI) (s h : Nat) (P : PkG) : Bool := fitB I s P && P.sq == (h : Int) + 1
/-- How many bodies are under way no more. -/
def gotC (I : LkI) (n s : Nat) (P : PkG) : Nat := if fitB I s P then came n s P.ak else 0
def gotH (I : LkI) (s h : Nat) (P : PkG) : Nat := if gotB I s h P then h + 1 else h
def gotX (I : LkI) (s h : Nat) (P : PkG) : List Nat := if gotB I s h P then P.bs else []

section
variable (w : World) (B g : Nat) (ao : Option Addr) (n cap : Nat) (V : Nat → Prop) (I : LkI) (L : List (List Nat)) (s h : Nat)

set_option maxHeartbeats 800000 in
theorem got_no (H : Lk w B g ao n cap V I L s h) (P : PkG) (u : Value) (hb : fitB I s P = false) :
    Calls Tryz.prog 34 #[lp g, pkV P u] w fun e w' => e = .returned (.tuple #[.slice none 0 0, .bool false]) ∧ Below w.heap.size w w' := by
  have HA := H.below ((Below.refl _ _).alloc (Nat.le_refl _) (pkO P u))
  go_enter Tryz.func34, Tryz.ntmps34
  go_wp2_with (first
    | (go_at_call 51; refine (fits_any _ _ _ _ _ _ _ _ _ _ _ HA P u false hb).mono ?_; rintro e w1 ⟨rfl, hb1⟩))
  go_ret2
  exact ⟨rfl, below_alloc (hb1.mono (by simp))⟩

theorem got_put (H : Lk w B g ao n cap V I L s h) (u : Value) (U : Nat → Prop) (bs : List Nat) (hy : By w U u bs) (q : Int) (hq : q = (h : Int) + 1) (hh : h < 16777215) (j : Nat) :
    Lk ((w.drewN j).setCell ⟨g, 6, none⟩ (.int .i64 q)) B g ao n cap V I L s (h + 1) ∧ By ((w.drewN j).setCell ⟨g, 6, none⟩ (.int .i64 q)) U u bs ∧ Off2 g ao w ((w.drewN j).setCell ⟨g, 6, none⟩ (.int .i64 q)) := by
  have hb : Below w.heap.size w (w.drewN j) := ⟨rfl, rfl, rfl, Nat.le_refl _, fun _ _ => rfl⟩
  have HJ := H.below hb
  have e : q = ((h + 1 : Nat) : Int) := by omega
  subst e
  obtain ⟨vs, ho, hbs⟩ := HJ.row
  refine ⟨⟨HJ.hd.put6 _, ⟨vs, ho.keep fun a ha => Below.heap_setCell _ _ _ _ (H.ne a ha), hbs.kt (KT.setCell _ HJ.hd.tyx)⟩, H.len, H.bg, H.le, H.sl, H.sm, by omega, H.sz⟩, (hy.below hb).kt (KT.setCell _ HJ.hd.tyx), (Off2.of_below (g := g) ao hb).setCell (p := ⟨g, 6, none⟩) rfl _⟩

set_option maxHeartbeats 1600000 in
theorem got_fit (H : Lk w B g ao n cap V I L s h) (P : PkG) (u : Value) (U : Nat → Prop) (hy : By w U u P.bs) (hm : P.bs.length ≤ 140737488355328) (hb : fitB I s P = true) (hh : h < 16777215) (c : Nat) (hc : came n s P.ak = c) :
    (P.sq = (h : Int) + 1 → Calls Tryz.prog 34 #[lp g, pkV P u] w fun e w' => ∃ v, e = .returned (.tuple #[v, .bool true]) ∧ By w' (fun k => w.heap.size ≤ k) v P.bs ∧ Lk w' B g ao (n - c) cap V I (L.drop c) s (h + 1) ∧ Off2 g ao w w') ∧
    (P.sq ≠ (h : Int) + 1 → Calls Tryz.prog 34 #[lp g, pkV P u] w fun e w' => e = .returned (.tuple #[.slice none 0 0, .bool false]) ∧ Lk w' B g ao (n - c) cap V I (L.drop c) s h ∧ Off2 g ao w w') := by
  have HA := H.below ((Below.refl _ _).alloc (Nat.le_refl _) (pkO P u))
  have hak : P.ak ≤ (s : Int) := by
    simp only [fitB, Bool.and_eq_true, decide_eq_true_eq] at hb
    exact hb.2
  have hyA := hy.below ((Below.refl _ _).alloc (Nat.le_refl _) (pkO P u))
  have hg := H.hd.lt
  have HG : Hid (∀ a, ao = some a → a.block < w.heap.size) := fun a ha => (H.ge a ha).2
  have HPK : Hid (∀ w1 : World, Below (w.alloc (pkO P u)).heap.size (w.alloc (pkO P u)) w1 → PkIn w1 w.heap.size 0 P u) := fun w1 h1 => (PkIn.new w P u).below h1
  have HW : Hid (∀ w1 w2 : World, Below (w.alloc (pkO P u)).heap.size (w.alloc (pkO P u)) w1 → Off2 g ao w1 w2 → PkIn w2 w.heap.size 0 P u ∧ Off2 g ao w w2 ∧ By w2 U u P.bs) := by
    intro w1 w2 h1 h2
    have hA1 := HA.below h1
    have hP1 := (PkIn.new w P u).below h1
    refine ⟨hP1.keep (h2.block _ hP1.lt (by omega) fun a ha => by have := HG.out a ha; omega), ?_, (hyA.below h1).kt (hA1.ktOff h2)⟩
    exact (Off2.of_below ao (below_alloc (h1.mono (by simp)))).trans h2 (Nw.refl _ _)
  have HF : Hid (∀ w1 : World, Below (w.alloc (pkO P u)).heap.size (w.alloc (pkO P u)) w1 → Calls Tryz.prog 52 #[lp g, .int .i64 P.ak] w1 fun e w' => e = .returned (.tuple #[]) ∧ Lk w' B g ao (n - c) cap V I (L.drop c) s h ∧ Off2 g ao w1 w') := fun w1 h1 => forget_any w1 B g ao n cap V I L s h (HA.below h1) P.ak hak c hc
  have hwr : IntKind.i64.wrap ((h : Int) + 1) = (h : Int) + 1 := by rw [IntKind.wrap_i64]; omega
  clear hc
  refine ⟨fun hsq => ?_, fun hsq => ?_⟩
  · have hq : (P.sq != (h : Int) + 1) = false := by simp [hsq]
    have hNg : w.heap.size ≠ g := by omega
    have HSQ : Hid (P.sq = (h : Int) + 1) := hsq
    clear hsq
    obtain ⟨ax, m, cx, hu, hrx, htx, hix⟩ := hy
    have HU : Hid (u = .slice ax m cx) := hu
    have hml : m ≤ 140737488355328 := by have := hrx.len; omega
    have HCL : Hid (∀ w2 : World, By w2 U u P.bs → Calls Tryz.prog 47 #[u] w2 fun e w' => ∃ v, e = .returned v ∧ By w' (fun k => w2.heap.size ≤ k) v P.bs ∧ Below w2.heap.size w2 w') := by
      rintro w2 ⟨a2, m2, c2, rfl, hr2, -, -⟩
      refine (clone_any a2 m2 c2 P.bs w2 hr2 (by have := hr2.len; omega)).mono ?_
      rintro e w' ⟨a3, c3, rfl, h1, h2⟩
      exact ⟨_, rfl, h1, h2⟩
    clear hu hrx htx hix
    go_enter Tryz.func34, Tryz.ntmps34
    go_upto_region 4 with (first
      | (go_at_call 52; refine (HF.out _ hb1).mono ?_; rintro e w2 ⟨rfl, hK2, hO2⟩; obtain ⟨hP2, hOw, hy2⟩ := HW.out w1 w2 hb1 hO2; have p3 := hP2.c3; have p6 := hP2.c6; simp only [Nat.zero_add] at p3 p6; have t6 := hK2.hd.c6; have tf := hK2.hd.fz 6)
      | (go_at_call 51; refine (fits_any _ _ _ _ _ _ _ _ _ _ _ HA P u true hb).mono ?_; rintro e w1 ⟨rfl, hb1⟩; have hP1 := HPK.out w1 hb1; have p4 := hP1.c4; simp only [Nat.zero_add] at p4))
    go_quiet (fail)
    have HQ : Hid (∀ j, Lk ((w2.drewN j).setCell ⟨g, 6, none⟩ (.int .i64 P.sq)) B g ao (n - c) cap V I (L.drop c) s (h + 1) ∧ By ((w2.drewN j).setCell ⟨g, 6, none⟩ (.int .i64 P.sq)) U u P.bs ∧ Off2 g ao w2 ((w2.drewN j).setCell ⟨g, 6, none⟩ (.int .i64 P.sq))) := got_put w2 B g ao (n - c) cap V I (L.drop c) s h hK2 u U P.bs hy2 P.sq HSQ.out hh
    go_wp2_with (first
      | (go_at_call 47; refine (HCL.out _ (HQ.out _).2.1).mono ?_; rintro e w3 ⟨v, rfl, hy3, hb3⟩))
    go_ret2
    obtain ⟨k1, k2, k3⟩ := HQ.out nq
    exact ⟨v, rfl, hy3.mono fun k _ hk => Nat.le_trans (Nat.le_trans hOw.size k3.size) hk, k1.below hb3, (hOw.trans k3 (Nw.refl _ _)).trans (Off2.of_below ao hb3) (Nw.refl _ _)⟩
  · have hq : (P.sq != (h : Int) + 1) = true := by simp [hsq]
    clear hsq
    go_enter Tryz.func34, Tryz.ntmps34
    go_upto_region 4 with (first
      | (go_at_call 52; refine (HF.out _ hb1).mono ?_; rintro e w2 ⟨rfl, hK2, hO2⟩; obtain ⟨hP2, hOw, hy2⟩ := HW.out w1 w2 hb1 hO2; have p3 := hP2.c3; have p6 := hP2.c6; simp only [Nat.zero_add] at p3 p6; have t6 := hK2.hd.c6; have tf := hK2.hd.fz 6)
      | (go_at_call 51; refine (fits_any _ _ _ _ _ _ _ _ _ _ _ HA P u true hb).mono ?_; rintro e w1 ⟨rfl, hb1⟩; have hP1 := HPK.out w1 hb1; have p4 := hP1.c4; simp only [Nat.zero_add] at p4))
    go_quiet (fail)
    go_wp2
    go_ret2
    have hbq : Below w2.heap.size w2 (w2.drewN nq) := ⟨rfl, rfl, rfl, Nat.le_refl _, fun _ _ => rfl⟩
    exact ⟨rfl, hK2.below hbq, hOw.trans (Off2.of_below ao hbq) (Nw.refl _ _)⟩

/-- Got, whatever the packet is. -/
theorem got_any (H : Lk w B g ao n cap V I L s h) (P : PkG) (u : Value) (U : Nat → Prop) (hy : By w U u P.bs) (hm : P.bs.length ≤ 140737488355328) (hh : h < 16777215) :
    Calls Tryz.prog 34 #[lp g, pkV P u] w fun e w' => ∃ v, e = .returned (.tuple #[v, .bool (gotB I s h P)]) ∧ By w' (fun k => w.heap.size ≤ k) v (gotX I s h P) ∧ Lk w' B g ao (n - gotC I n s P) cap V I (L.drop (gotC I n s P)) s (gotH I s h P) ∧ Off2 g ao w w' := by
  cases hb : fitB I s P
  · refine (got_no w B g ao n cap V I L s h H P u hb).mono ?_
    rintro e w' ⟨rfl, h1⟩
    have e1 : gotB I s h P = false := by simp [gotB, hb]
    have e2 : gotC I n s P = 0 := by simp [gotC, hb]
    refine ⟨_, by rw [e1], by simp only [gotX, e1]; exact By.nil _ _, ?_, Off2.of_below ao h1⟩
    simp only [gotH, e1, e2]
    exact H.below h1
  · have e2 : gotC I n s P = came n s P.ak := by simp [gotC, hb]
    obtain ⟨k1, k2⟩ := got_fit w B g ao n cap V I L s h H P u U hy hm hb hh _ rfl
    by_cases hq : P.sq = (h : Int) + 1
    · refine (k1 hq).mono ?_
      rintro e w' ⟨v, rfl, h1, h2, h3⟩
      have e1 : gotB I s h P = true := by simp [gotB, hb, hq]
      refine ⟨v, by rw [e1], by simp only [gotX, e1]; exact h1, ?_, h3⟩
      simp only [gotH, e1, e2]
      exact h2
    · refine (k2 hq).mono ?_
      rintro e w' ⟨rfl, h2, h3⟩
      have e1 : gotB I s h P = false := by simp [gotB, hb, hq]
      refine ⟨_, by rw [e1], by simp only [gotX, e1]; exact By.nil _ _, ?_, h3⟩
      simp only [gotH, e1, e2]
      exact h2
end

end Go.Proofs.YtmmgdmfdiaoegaaGreat.Lnk
