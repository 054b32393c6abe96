/- What takePuts and takeValues of package msg do, walked. -/
import Derived.Test.YtgeoeaadeemmcaaMz
import Derived.RegionTactic
import Derived.Deep.DeepCutAuto
import Derived.Deep.CutBlock
import Derived.BigRegion
import Derived.Deep.RegionWith
namespace Go.Proofs.Ytgeoeaadeemmcaa
open Go.RowKit
set_option linter.unusedVariables false

theorem get_two (ao : Option Addr) (cap n m pg ob : Nat) (zs : List Int) (w : World) (hrd : RdI w .u8 ao cap zs) (hn : zs.length = n) (hb : ∀ z ∈ zs, 0 ≤ z ∧ z < 256) (h6 : 6 ≤ n) (hm : n - 6 = m) (hlen : n ≤ 140737488355328) (hp : (pg : Int) = rdN (zs.take 3)) (ho : (ob : Int) = rdN ((zs.drop 3).take 3)) :
    Calls Try.prog 22 #[.slice ao n cap, .int .i64 2] w fun e w' => ∃ a1 c1 a2 c2, e = .returned (.tuple #[.slice a1 2 c1, .slice a2 m c2, .int .i64 0]) ∧
      OwnI w' w.heap.size 3 .i64 a1 c1 [(pg : Int), (ob : Int)] ∧ OwnI w' w.heap.size 5 .u8 a2 c2 (zs.drop 6) ∧ Below w.heap.size w w' := by
  subst hm
  refine (get_good ao cap n 2 zs w hrd hn hb (by omega) (by omega) hlen).mono ?_
  rintro e w' ⟨a1, c1, a2, c2, rfl, h1, h2, h3⟩
  rw [get2, ← hp, ← ho] at h1
  exact ⟨a1, c1, a2, c2, rfl, h1, h2, h3⟩

/-- An empty put in a block. -/
abbrev ptZ : Obj := .cells #[.int .i64 0, .int .i64 0, .complex .f64 0 0] 53

/-- A put lies in a block. -/
structure PtAt (w : World) (g : Nat) (a b : Int) (x : Nat × Nat) : Prop where
  c0 : w.cell? ⟨g, 0, none⟩ = some (.int .i64 a)
  c1 : w.cell? ⟨g, 1, none⟩ = some (.int .i64 b)
  c2 : w.cell? ⟨g, 2, none⟩ = some (.complex .f64 x.1 x.2)
  fz : ∀ j, w.frozen? ⟨g, j, none⟩ = false
  lt : g < w.heap.size

theorem PtAt.new (w : World) (p : PutG) : PtAt (w.alloc (wputO p)) w.heap.size p.pg p.ob p.c := by
  have h := heap_alloc_new w (wputO p)
  refine ⟨?_, ?_, ?_, fun j => frozen_of_row _ _ _ _ _ h, by simp⟩
  all_goals rw [cell_of_row _ _ _ _ _ _ h]; rfl

theorem PtAt.below {w w' : World} {g : Nat} {a b : Int} {x : Nat × Nat} (h : PtAt w g a b x) (hb : Below w.heap.size w w') : PtAt w' g a b x := by
  have hg := hb.block g h.lt
  exact ⟨(World.cell?_of_block (w := w) hg).trans h.c0, (World.cell?_of_block (w := w) hg).trans h.c1, (World.cell?_of_block (w := w) hg).trans h.c2, fun j => (World.frozen?_of_block (w := w) hg).trans (h.fz j), Nat.lt_of_lt_of_le h.lt hb.size⟩

/-- The one slice, or one that was made since. -/
def Src (w : World) (ao a2 : Option Addr) : Prop := a2 = ao ∨ ∀ y, a2 = some y → w.heap.size ≤ y.block

/-- How taking some puts may end. -/
def PutsR (m : Nat) (zs : List Int) (ao : Option Addr) (w : World) (x : Ending) (w' : World) : Prop :=
  (takeP m zs = none ∧ x = .returned (.tuple #[.slice none 0 0, .slice none 0 0, .int .i64 21]) ∧ Below w.heap.size w w') ∨
  (∃ ps r a c a2 c2, takeP m zs = some (ps, r) ∧ x = .returned (.tuple #[.slice a m c, .slice a2 r.length c2, .int .i64 0]) ∧ OwnR w' w.heap.size a c ps ∧ RdI w' .u8 a2 c2 r ∧ Src w ao a2 ∧ Below w.heap.size w w')

set_option maxHeartbeats 800000 in
theorem takePuts_any (ao : Option Addr) (cap n m : Nat) (zs : List Int) (w : World) (hrd : RdI w .u8 ao cap zs) (hn : zs.length = n) (hb : ∀ z ∈ zs, 0 ≤ z ∧ z < 256) (hm : m ≤ 24) (hlen : n ≤ 140737488355328) :
    Calls Try.prog 24 #[.slice ao n cap, .int .i64 m] w (PutsR m zs ao w) := by
  have hst := fun (ad : Addr) (re im : Nat) (W : World) => run_store Try.prog W ad (.complex .f64 re im) .plain rfl
  go_enter Try.func24, Try.ntmps24
  go_wp2
  go_loopw [0, 7, 13] (fun l t i wr => ∃ (k : Nat) (ps : List PutG) (r : List Int) (a a2 : Option Addr) (c c2 : Nat), k ≤ m ∧ i = .int .i64 k ∧ l = .slice a2 r.length c2 ∧ t = .slice a k c ∧ takeP k zs = some (ps, r) ∧ OwnR wr w.heap.size a c ps ∧ RdI wr .u8 a2 c2 r ∧ Src w ao a2 ∧ Below w.heap.size w wr) (fun _ _ i _ => m - (intOf i).toNat)
  case atStart => exact ⟨0, [], zs, none, ao, 0, cap, Nat.zero_le _, rfl, by rw [hn], rfl, rfl, OwnR.nil _ _, hrd, .inl rfl, Below.refl _ _⟩
  case round =>
    obtain ⟨k, ps, r, a, a2, c, c2, hk, rfl, rfl, rfl, htp, ho, hr, hsrc, hbel⟩ := hrel
    have HSRC : Hid (Src w ao a2) := hsrc
    clear hsrc
    obtain ⟨t1, t2, t3, t4⟩ := takeP_some k hb htp
    have hrl : r.length ≤ n := by
      have := congrArg List.length t1
      rw [List.length_append] at this
      omega
    have HT : Hid (takeP k zs = some (ps, r)) := htp
    have HB : Hid (∀ z ∈ r, 0 ≤ z ∧ z < 256) := t4
    have HL : Hid (ps.length = k) := t2
    clear t1 t3 t4 htp hrd t2
    by_cases hlt : k < m
    · by_cases h6 : 6 ≤ r.length
      · obtain ⟨pg, ob, hpg, hob⟩ : ∃ pg ob : Nat, (pg : Int) = rdN (r.take 3) ∧ (ob : Int) = rdN ((r.drop 3).take 3) := by
          have q0 := (part3_bd r 0 HB.out).1
          have q1 := (part3_bd r 3 HB.out).1
          simp only [List.drop_zero] at q0
          exact ⟨(rdN (r.take 3)).toNat, (rdN ((r.drop 3).take 3)).toNat, by omega, by omega⟩
        have HP : Hid ((pg : Int) = rdN (r.take 3) ∧ (ob : Int) = rdN ((r.drop 3).take 3)) := ⟨hpg, hob⟩
        have HPN : Hid ((rdN (r.take 3)).toNat = pg ∧ (rdN ((r.drop 3).take 3)).toNat = ob) := ⟨by omega, by omega⟩
        have HD : Hid (∀ z ∈ r.drop 6, 0 ≤ z ∧ z < 256) := fun z hz => HB.out z (List.mem_of_mem_drop hz)
        have HDL : Hid ((r.drop 6).length = r.length - 6) := by simp [Hid]
        clear hpg hob
        cases hv : val1 (r.drop 6) with
        | none =>
          have HN : Hid (takeP m zs = none) := by
            refine takeP_more (k := k + 1) ?_ m (by omega)
            simp only [takeP, HT.out, put1, if_pos h6, hv]
          have HV : Hid (val1 (r.drop 6) = none) := hv
          clear hv
          go_upto_region 7 with (first
            | (go_at_call 22; refine (get_two _ _ _ (r.length - 6) pg ob r _ hr rfl HB.out h6 rfl (by omega) HP.out.1 HP.out.2).mono ?_; rintro x w1 ⟨a1, c1, a3, c3, rfl, ho1, ho3, hb1⟩; obtain ⟨b1, f1, rfl, hlt1, hc⟩ := ho1.rd.at (t := 0) (by simp); have p0 := hc 0 (by simp); have p1 := hc 1 (by simp); simp only [List.getElem_cons_zero, List.getElem_cons_succ, Nat.add_zero] at p0 p1; have p2 := ((below_box w1 ptZ).cell (p := ⟨b1, f1, none⟩) hlt1).trans p0; have p3 := ((below_box w1 ptZ).cell (p := ⟨b1, f1 + 1, none⟩) hlt1).trans p1; clear hc ho1 hlt1)
            | (fail))
          go_region
          go_wp2_with (first
            | (go_at_call 49; refine (take_none _ _ _ (r.drop 6) _ ((ho3.rd.alloc (wputO ⟨pg, ob, (0, 0)⟩)).drew) HDL.out HD.out (by omega) HV.out).mono ?_; rintro x w2 ⟨rfl, hb2⟩; have hb3 : Below (w1.alloc (wputO ⟨pg, ob, (0, 0)⟩)).heap.size (w1.alloc (wputO ⟨pg, ob, (0, 0)⟩)) w2 := ⟨hb2.os, hb2.tape, hb2.output, hb2.size, hb2.block⟩; have hq := (PtAt.new w1 ⟨pg, ob, (0, 0)⟩).below hb3; have z2 := hq.c2; have y2 := hq.fz 2; clear hq hb2)
            | (fail))
          go_ret3
          exact .inl ⟨HN.out, rfl, (below_step (below_step hbel hb1) (below_alloc (hb3.mono (by simp)))).setCell (show w.heap.size ≤ w1.heap.size by have := hbel.size; have := hb1.size; omega) _⟩
        | some y =>
          obtain ⟨cc, s⟩ := y
          have HV : Hid (val1 (r.drop 6) = some (cc, s)) := hv
          have HS : Hid (takeP (k + 1) zs = some (ps ++ [⟨pg, ob, cc⟩], s)) := by
            have e := HPN.out
            simp only [Hid, takeP, HT.out, put1, if_pos h6, hv, e.1, e.2]
          have HSL : Hid (s.length ≤ r.length) := by
            have := congrArg List.length (val1_some HD.out hv).1
            rw [List.length_append, List.length_drop] at this
            show s.length ≤ r.length
            omega
          clear hv
          have HBL : Hid (∀ y, a = some y → w.heap.size ≤ y.block ∧ y.block < wr.heap.size) := ho.blk
          go_upto_region 7 with (first
            | (go_at_call 22; refine (get_two _ _ _ (r.length - 6) pg ob r _ hr rfl HB.out h6 rfl (by omega) HP.out.1 HP.out.2).mono ?_; rintro x w1 ⟨a1, c1, a3, c3, rfl, ho1, ho3, hb1⟩; obtain ⟨b1, f1, rfl, hlt1, hc⟩ := ho1.rd.at (t := 0) (by simp); have p0 := hc 0 (by simp); have p1 := hc 1 (by simp); simp only [List.getElem_cons_zero, List.getElem_cons_succ, Nat.add_zero] at p0 p1; have p2 := ((below_box w1 ptZ).cell (p := ⟨b1, f1, none⟩) hlt1).trans p0; have p3 := ((below_box w1 ptZ).cell (p := ⟨b1, f1 + 1, none⟩) hlt1).trans p1; clear hc ho1 hlt1)
            | (fail))
          go_region
          go_wp2_with (first
            | (at_builtin; refine wpList_append_put _ rfl _ _ rfl w.heap.size a k c ps ⟨pg, ob, cc⟩ (w2.setCell ⟨w1.heap.size, 2, none⟩ (.complex .f64 cc.1 cc.2)) rfl w2.heap.size (by simp [World.setCell]) rfl rfl ho4 HL.out (by omega) hs4 ?_; intro ao5 cap5 w5 ho5 hg5)
            | (go_at_call 49; refine (take_some _ _ _ s.length (r.drop 6) s cc _ ((ho3.rd.alloc (wputO ⟨pg, ob, (0, 0)⟩)).drew) HDL.out HD.out (by omega) HV.out rfl).mono ?_; rintro x w2 ⟨a4, c4, rfl, hs2, hb2⟩; have hb3 : Below (w1.alloc (wputO ⟨pg, ob, (0, 0)⟩)).heap.size (w1.alloc (wputO ⟨pg, ob, (0, 0)⟩)) w2 := ⟨hb2.os, hb2.tape, hb2.output, hb2.size, hb2.block⟩; have hq := (PtAt.new w1 ⟨pg, ob, (0, 0)⟩).below hb3; have z0 := hq.c0; have z1 := hq.c1; have z2 := hq.c2; have y2 := hq.fz 2; have hW3 : Below wr.heap.size wr (w2.setCell ⟨w1.heap.size, 2, none⟩ (.complex .f64 cc.1 cc.2)) := (below_step hb1 (below_alloc (hb3.mono (by simp)))).setCell (show wr.heap.size ≤ w1.heap.size from hb1.size) _; have ho4 := (ho.below hW3).below (below_box _ (wputO ⟨pg, ob, cc⟩)); have hB4 : Below w.heap.size w ((w2.setCell ⟨w1.heap.size, 2, none⟩ (.complex .f64 cc.1 cc.2)).alloc (wputO ⟨pg, ob, cc⟩)) := below_step (below_step hbel hW3) (below_box _ _); have hs4 := hB4.size; have hs3 := (hs2.other ⟨w1.heap.size, 2, none⟩ (.complex .f64 cc.1 cc.2) (by simp)).alloc (wputO ⟨pg, ob, cc⟩); clear hq hb2 hs2)
            | (fail))
          have hs5 := hs3.keep fun y hy => grown_block hg5 (hs3.blk y hy).2 fun z hz => by
            have h1 := (HBL.out z hz).2
            have h2 := (hs3.blk y hy).1
            have h3 := hb1.size
            simp at h2
            omega
          have hB5 := hB4.trans (grown_below hg5 (fun y hy => (HBL.out y hy).1) hs4)
          go_roundw
          case rel => exact ⟨k + 1, _, s, ao5, a4, cap5, c4, by omega, by go_num, rfl, rfl, HS.out, ho5, hs5.rd, .inr fun y hy => (by have h1 := (hs5.blk y hy).1; have h2 := hb1.size; have h3 := hbel.size; simp at h1; omega), hB5⟩
          case measure => simp [intOf]; omega
      · have HN : Hid (takeP m zs = none) := by
          refine takeP_more (k := k + 1) ?_ m (by omega)
          simp only [takeP, HT.out, put1, if_neg h6]
        go_wp2_with (first
          | (go_at_call 22; refine (get_bad _ _ _ _ _ (by omega) (by omega)).mono ?_; rintro x w1 ⟨rfl, hw⟩; subst w1))
        go_ret3
        exact .inl ⟨HN.out, rfl, hbel⟩
    · obtain rfl : k = m := by omega
      go_wp2
      go_ret3
      exact .inr ⟨ps, r, a, c, a2, c2, HT.out, rfl, ho, hr, HSRC.out, hbel⟩

/-- A store into another block. -/
theorem RdI.put {w : World} {k : IntKind} {ao : Option Addr} {cap : Nat} {zs : List Int} (h : RdI w k ao cap zs) (p : Addr) (v : Value) (hne : ∀ y, zs ≠ [] → ao = some y → y.block < w.heap.size → y.block ≠ p.block) : RdI (w.setCell p v) k ao cap zs := by
  refine ⟨RdS.le h, RdS.mx h, RdS.nil h, fun hx => ?_⟩
  obtain ⟨b, off, h1, h2, h3⟩ := RdS.cell h hx
  have hz : zs ≠ [] := fun e => hx (by rw [e]; rfl)
  have hb := hne ⟨b, off, none⟩ hz h1 h2
  exact ⟨b, off, h1, by simpa [World.setCell] using h2, fun t ht => (World.cell?_of_block (w := w) (a := ⟨b, off + t, none⟩) (Below.heap_setCell w p v b hb)).trans (h3 t ht)⟩

/-- How taking four values may end. -/
def ValsR (zs : List Int) (w : World) (x : Ending) (w' : World) : Prop :=
  (takeV 4 zs = none ∧ ∃ v0 v1 v2 v3, x = .returned (.tuple #[v4V v0 v1 v2 v3, .slice none 0 0, .int .i64 21]) ∧ Below w.heap.size w w') ∨
  (∃ v0 v1 v2 v3 r a2 c2, takeV 4 zs = some ([v0, v1, v2, v3], r) ∧ x = .returned (.tuple #[v4V v0 v1 v2 v3, .slice a2 r.length c2, .int .i64 0]) ∧ Below w.heap.size w w')

/-- The cells of a list of values, filled up with zeros. -/
def fillV (vs : List (Nat × Nat)) : List (Nat × Nat) := vs ++ List.replicate (4 - vs.length) (0, 0)

theorem fillV_length (vs : List (Nat × Nat)) (h : vs.length ≤ 4) : (fillV vs).length = 4 := by simp [fillV]; omega

/-- Four values lie in a block. -/
structure V4At (w : World) (g : Nat) (xs : List (Nat × Nat)) : Prop where
  len : xs.length = 4
  cell : ∀ k (h : k < xs.length), w.cell? ⟨g, k, none⟩ = some (.complex .f64 xs[k].1 xs[k].2)
  fz : ∀ j, w.frozen? ⟨g, j, none⟩ = false
  lt : g < w.heap.size

theorem V4At.keep {w w' : World} {g : Nat} {xs : List (Nat × Nat)} (h : V4At w g xs) (hg : w'.heap[g]? = w.heap[g]?) (hs : w.heap.size ≤ w'.heap.size) : V4At w' g xs :=
  ⟨h.len, fun k hk => (World.cell?_of_block (w := w) hg).trans (h.cell k hk), fun j => (World.frozen?_of_block (w := w) hg).trans (h.fz j), Nat.lt_of_lt_of_le h.lt hs⟩

theorem V4At.below {w w' : World} {g : Nat} {xs : List (Nat × Nat)} (h : V4At w g xs) (hb : Below w.heap.size w w') : V4At w' g xs := h.keep (hb.block g h.lt) hb.size

theorem V4At.new (w : World) (a b c d : Nat × Nat) : V4At (w.alloc (v4O a b c d)) w.heap.size [a, b, c, d] := by
  have h := heap_alloc_new w (v4O a b c d)
  exact ⟨rfl, fun k hk => v4_at h k hk, fun j => frozen_of_row _ _ _ _ _ h, by simp⟩

theorem V4At.set {w : World} {g : Nat} {xs : List (Nat × Nat)} (h : V4At w g xs) (k : Nat) (hk : k < xs.length) (x : Nat × Nat) : V4At (w.setCell ⟨g, k, none⟩ (.complex .f64 x.1 x.2)) g (xs.set k x) := by
  refine ⟨by simpa using h.len, fun j hj => ?_, fun j => by simp only [World.frozen?_setCell]; exact h.fz j, by simpa [World.setCell] using h.lt⟩
  have hj2 : j < xs.length := by simpa using hj
  by_cases e : j = k
  · subst e
    rw [World.cell?_setCell_same _ _ _ (h.cell j hj2)]
    simp
  · rw [put_other _ _ _ _ _ e, h.cell j hj2, List.getElem_set_ne (by omega)]

theorem fillV_set (vs : List (Nat × Nat)) (c : Nat × Nat) (h : vs.length < 4) : (fillV vs).set vs.length c = fillV (vs ++ [c]) := by
  unfold fillV
  rw [List.set_append_right _ _ (Nat.le_refl _), Nat.sub_self, show 4 - vs.length = (4 - (vs ++ [c]).length) + 1 by simp; omega, List.replicate_succ, List.set_cons_zero]
  simp

theorem V4At.four {w : World} {g : Nat} {a b c d : Nat × Nat} (h : V4At w g [a, b, c, d]) : w.cell? ⟨g, 0, none⟩ = some (.complex .f64 a.1 a.2) ∧ w.cell? ⟨g, 1, none⟩ = some (.complex .f64 b.1 b.2) ∧ w.cell? ⟨g, 2, none⟩ = some (.complex .f64 c.1 c.2) ∧ w.cell? ⟨g, 3, none⟩ = some (.complex .f64 d.1 d.2) :=
  ⟨h.cell 0 (by simp), h.cell 1 (by simp), h.cell 2 (by simp), h.cell 3 (by simp)⟩

theorem list4 {xs : List (Nat × Nat)} (h : xs.length = 4) : ∃ a b c d, xs = [a, b, c, d] := by
  match xs, h with
  | [a, b, c, d], _ => exact ⟨a, b, c, d, rfl⟩

set_option maxHeartbeats 800000 in
theorem takeValues_any (ao : Option Addr) (cap n : Nat) (zs : List Int) (w : World) (hrd : RdI w .u8 ao cap zs) (hn : zs.length = n) (hb : ∀ z ∈ zs, 0 ≤ z ∧ z < 256) (hlen : n ≤ 140737488355328) :
    Calls Try.prog 25 #[.slice ao n cap] w (ValsR zs w) := by
  have hst := fun (ad : Addr) (re im : Nat) (W : World) => run_store Try.prog W ad (.complex .f64 re im) .plain rfl
  have hA : V4At ((w.alloc (v4O (0, 0) (0, 0) (0, 0) (0, 0))).alloc (v4O (0, 0) (0, 0) (0, 0) (0, 0))) w.heap.size [(0, 0), (0, 0), (0, 0), (0, 0)] := (V4At.new w _ _ _ _).below (below_box _ _)
  have hB : V4At ((w.alloc (v4O (0, 0) (0, 0) (0, 0) (0, 0))).alloc (v4O (0, 0) (0, 0) (0, 0) (0, 0))) (w.heap.size + 1) [(0, 0), (0, 0), (0, 0), (0, 0)] := by
    have := V4At.new (w.alloc (v4O (0, 0) (0, 0) (0, 0) (0, 0))) (0, 0) (0, 0) (0, 0) (0, 0)
    rwa [show (w.alloc (v4O (0, 0) (0, 0) (0, 0) (0, 0))).heap.size = w.heap.size + 1 by simp] at this
  have hbw : Below w.heap.size w ((w.alloc (v4O (0, 0) (0, 0) (0, 0) (0, 0))).alloc (v4O (0, 0) (0, 0) (0, 0) (0, 0))) := below2 _ _ _
  have hr0 := hrd.below hbw
  have HA : Hid _ := hA
  have HB : Hid _ := hB
  have HW : Hid _ := hbw
  have HR : Hid _ := hr0
  clear hA hB hbw hr0 hrd
  go_enter Try.func25, Try.ntmps25
  go_wp2
  generalize (w.alloc (v4O (0, 0) (0, 0) (0, 0) (0, 0))).alloc (v4O (0, 0) (0, 0) (0, 0) (0, 0)) = W0 at *
  go_loopw [0, 10] (fun l i wr => ∃ (k : Nat) (vs : List (Nat × Nat)) (r : List Int) (a2 : Option Addr) (c2 : Nat), k ≤ 4 ∧ i = .int .i64 k ∧ l = .slice a2 r.length c2 ∧ takeV k zs = some (vs, r) ∧ V4At wr w.heap.size [(0, 0), (0, 0), (0, 0), (0, 0)] ∧ V4At wr (w.heap.size + 1) (fillV vs) ∧ RdI wr .u8 a2 c2 r ∧ Below w.heap.size w wr) (fun _ i _ => 4 - (intOf i).toNat)
  case atStart => exact ⟨0, [], zs, ao, cap, Nat.zero_le _, rfl, by rw [hn], rfl, HA.out, HB.out, HR.out, HW.out⟩
  case round =>
    obtain ⟨k, vs, r, a2, c2, hk, rfl, rfl, htv, tA, tB, hr, hbel⟩ := hrel
    obtain ⟨t1, t2, t3, t4⟩ := takeV_some k hb htv
    have hrl : r.length ≤ n := by
      have := congrArg List.length t1
      rw [List.length_append] at this
      omega
    have HT : Hid (takeV k zs = some (vs, r)) := htv
    have HBy : Hid (∀ z ∈ r, 0 ≤ z ∧ z < 256) := t4
    have HL : Hid (vs.length = k) := t2
    have TA : Hid _ := tA
    have TB : Hid _ := tB
    clear t1 t3 t4 htv t2 HA HB HW HR tA tB
    by_cases hlt : k < 4
    · cases hv : val1 r with
      | none =>
        have HN : Hid (takeV 4 zs = none) := by
          refine takeV_more (k := k + 1) ?_ 4 (by omega)
          simp only [takeV, HT.out, hv]
        have HV : Hid (val1 r = none) := hv
        clear hv
        go_wp2_with (first
          | (go_at_call 49; refine (take_none _ _ _ r _ hr rfl HBy.out (by omega) HV.out).mono ?_; rintro x w2 ⟨rfl, hb2⟩; have T1 := TA.out.below hb2; have T2 := TB.out.below hb2; obtain ⟨x0, x1, x2, x3, ex⟩ := list4 T2.len; rw [ex] at T2; obtain ⟨e0, e1, e2, e3⟩ := T2.four; obtain ⟨f0, f1, f2, f3⟩ := T1.four; have y0 := T1.fz 0; have y1 := T1.fz 1; have y2 := T1.fz 2; have y3 := T1.fz 3; have HX : Hid (fillV vs = [x0, x1, x2, x3]) := ex; clear T1 T2 ex)
          | (fail))
        refine bodyPost_ret (by simp [results, Try.results25, go_sem, f0, f1, f2, f3]; try rfl) rfl ?_
        exact .inl ⟨HN.out, x0, x1, x2, x3, rfl, ((((below_step hbel hb2).setCell (Nat.le_refl _) _).setCell (Nat.le_refl _) _).setCell (Nat.le_refl _) _).setCell (Nat.le_refl _) _⟩
      | some y =>
        obtain ⟨cc, s⟩ := y
        have HV : Hid (val1 r = some (cc, s)) := hv
        have HS : Hid (takeV (k + 1) zs = some (vs ++ [cc], s)) := by
          simp only [Hid, takeV, HT.out, hv]
        clear hv
        go_wp2_with (first
          | (go_at_call 49; refine (take_some _ _ _ s.length r s cc _ hr rfl HBy.out (by omega) HV.out rfl).mono ?_; rintro x w2 ⟨a4, c4, rfl, hs2, hb2⟩; have T1 := TA.out.below hb2; have T2 := TB.out.below hb2; have hfl := T2.len; have e0 := T2.cell k (by omega); have y0 := T2.fz k; have H1 : Hid _ := T1; have H2 : Hid _ := T2; clear T1 T2)
          | (fail))
        have hkl : k < (fillV vs).length := by omega
        have H3 := H2.out.set k hkl cc
        have e5 : (fillV vs).set k cc = fillV (vs ++ [cc]) := by have := HL.out; subst this; exact fillV_set vs cc (by omega)
        rw [e5] at H3
        have hlt2 : w.heap.size + 1 < w2.heap.size := H2.out.lt
        have H4 : V4At (w2.setCell ⟨w.heap.size + 1, k, none⟩ (.complex .f64 cc.1 cc.2)) w.heap.size [(0, 0), (0, 0), (0, 0), (0, 0)] := H1.out.keep (Below.heap_setCell _ _ _ _ (by simp)) (by simp [World.setCell])
        have hs3 : RdI (w2.setCell ⟨w.heap.size + 1, k, none⟩ (.complex .f64 cc.1 cc.2)) .u8 a4 c4 s := (hs2.other ⟨w.heap.size + 1, k, none⟩ (.complex .f64 cc.1 cc.2) (show w.heap.size + 1 < wr.heap.size from TB.out.lt)).rd
        go_roundw
        case rel => exact ⟨k + 1, _, s, a4, c4, by omega, by go_num, rfl, HS.out, H4, H3, hs3, (below_step hbel hb2).setCell (show w.heap.size ≤ w.heap.size + 1 by omega) _⟩
        case measure => simp [intOf]; omega
    · obtain rfl : k = 4 := by omega
      have T1 := TA.out
      have T2 := TB.out
      obtain ⟨x0, x1, x2, x3, ex⟩ := list4 T2.len
      rw [ex] at T2
      obtain ⟨e0, e1, e2, e3⟩ := T2.four
      obtain ⟨f0, f1, f2, f3⟩ := T1.four
      have y0 := T1.fz 0
      have y1 := T1.fz 1
      have y2 := T1.fz 2
      have y3 := T1.fz 3
      have HX : Hid (vs = [x0, x1, x2, x3]) := by
        have := HL.out
        simpa [Hid, fillV, this] using ex
      clear T1 T2 ex
      go_wp2
      refine bodyPost_ret (by simp [results, Try.results25, go_sem, f0, f1, f2, f3]; try rfl) rfl ?_
      have e6 := HX.out
      subst e6
      refine .inr ⟨x0, x1, x2, x3, r, a2, c2, HT.out, rfl, (((hbel.setCell (Nat.le_refl _) _).setCell (Nat.le_refl _) _).setCell (Nat.le_refl _) _).setCell (Nat.le_refl _) _⟩

end Go.Proofs.Ytgeoeaadeemmcaa
