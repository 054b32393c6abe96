/- Get, Set of package cache, walked; a cache beside other memory: each call as one contract. -/
import Derived.Test.YtmmgdmfdiaoegaaGreatC8
namespace Go.Proofs.YtmmgdmfdiaoegaaGreat
open Go.RowKit
set_option linter.unusedVariables false
set_option maxRecDepth 8000

/-- Masks are masks. -/
def EsOk (L : List En) : Prop := ∀ x ∈ L, x.c < 16 ∧ x.o < 16
theorem cpN_lt {L : List En} (h : EsOk L) (p : Int) : cpN L p < 16 := by
  unfold cpN
  cases e : L[plN L p]? with
  | none => simp
  | some x => exact (h x (List.mem_of_getElem? e)).1
theorem owN_lt {L : List En} (h : EsOk L) (p : Int) : owN L p < 16 := by
  unfold owN
  cases e : L[plN L p]? with
  | none => simp
  | some x => exact (h x (List.mem_of_getElem? e)).2

def updV (v : Nat → Nat × Nat) (o : Nat) (q : Nat × Nat) : Nat → Nat × Nat := fun j => if j = o then q else v j
theorem enC_upd (x : En) (o : Nat) (ho : o < 4) (q : Nat × Nat) : enC ⟨x.p, x.c, x.o, updV x.v o q⟩ = (enC x).set (3 + o) (.complex .f64 q.1 q.2) := by
  rcases (by omega : o = 0 ∨ o = 1 ∨ o = 2 ∨ o = 3) with rfl | rfl | rfl | rfl <;> rfl
theorem enC_val (x : En) (o : Nat) (ho : o < 4) : (enC x)[3 + o]? = some (.complex .f64 (x.v o).1 (x.v o).2) := by
  rcases (by omega : o = 0 ∨ o = 1 ∨ o = 2 ∨ o = 3) with rfl | rfl | rfl | rfl <;> rfl

theorem get_no (w : World) (A : Nat → Prop) (c : Nat) (room : Int) (ao : Option Addr) (cap : Nat) (L : List En) (H : Ca w A c room ao cap L) (hl : L.length ≤ 1000000) (hE : EsOk L) (p o : Int) (hn : hasB (cpN L p) o = false) :
    Calls Tryz.prog 82 #[cp c, .int .i64 p, .int .i64 o] w fun e w' => e = .returned (.tuple #[.complex .f64 0 0, .bool false]) ∧ Below w.heap.size w w' := by
  have HC : Hid (Calls Tryz.prog 100 #[cp c, .int .i64 p] w fun e w' => e = .returned (.int .i64 ((cpN L p : Nat) : Int)) ∧ Below w.heap.size w w') := copies_any w A c room ao cap L H hl p
  have HH : Hid (∀ W, Calls Tryz.prog 99 #[.int .i64 ((cpN L p : Nat) : Int), .int .i64 o] W fun e w' => e = .returned (.bool false) ∧ w' = W) := fun W => by
    have := has_any (cpN L p) o (cpN_lt hE p) W
    rw [hn] at this
    exact this
  clear H hl hE hn
  go_enter Tryz.func82, Tryz.ntmps82
  go_wp2_with (first
    | (go_at_call 100; refine HC.out.mono ?_; rintro e w1 ⟨rfl, hb1⟩)
    | (go_at_call 99; refine (HH.out _).mono ?_; rintro e w2 ⟨rfl, hw2⟩; subst w2)
    | fail)
  go_ret2
  exact ⟨rfl, hb1⟩

set_option maxHeartbeats 1600000 in
theorem get_yes (w : World) (A : Nat → Prop) (c : Nat) (room : Int) (g cap : Nat) (L : List En) (H : Ca w A c room (some ⟨g, 0, none⟩) cap L) (hl : L.length ≤ 1000000) (p : Int) (k : Nat) (x : En) (hx : L[k]? = some x) (hk : plN L p = k) (o : Nat) (ho : o < 4) (h16 : x.c < 16) (hn : x.c.testBit o = true) :
    Calls Tryz.prog 82 #[cp c, .int .i64 p, .int .i64 (o : Int)] w fun e w' => e = .returned (.tuple #[.complex .f64 (x.v o).1 (x.v o).2, .bool true]) ∧ Ca w' A c room (some ⟨g, 0, none⟩) cap (L.take k ++ L.drop (k + 1) ++ [x]) ∧ OffS A w w' := by
  have hst := fun (ad : Addr) (re im : Nat) (W : World) => run_store Tryz.prog W ad (.complex .f64 re im) .plain rfl
  obtain ⟨hkl, -⟩ := List.getElem?_eq_some_iff.1 hx
  have hgh : cpN L p = x.c := by unfold cpN; rw [hk, hx]; rfl
  have HC : Hid (Calls Tryz.prog 100 #[cp c, .int .i64 p] w fun e w' => e = .returned (.int .i64 ((x.c : Nat) : Int)) ∧ Below w.heap.size w w') := by
    have := copies_any w A c room _ cap L H hl p
    rw [hgh] at this
    exact this
  have HH : Hid (∀ W, Calls Tryz.prog 99 #[.int .i64 ((x.c : Nat) : Int), .int .i64 (o : Int)] W fun e w' => e = .returned (.bool true) ∧ w' = W) := fun W => by
    have := has_nat x.c o h16 ho W
    rw [hn] at this
    exact this
  have hz : plZ L p = (k : Int) := by rw [plZ, hk, if_pos hkl]
  obtain ⟨q, hq⟩ : ∃ q, L.length = q + 1 := ⟨L.length - 1, by omega⟩
  have HP : Hid (∀ W, Below w.heap.size w W → Calls Tryz.prog 83 #[cp c, .int .i64 p] W fun e w' => e = .returned (.int .i64 (k : Int)) ∧ Below w.heap.size w w') := fun W hW => by
    refine (place_any W A c room _ cap L (H.below hW) hl p).mono ?_
    rintro e w' ⟨rfl, hb⟩
    exact ⟨ret_int hz, below_step hW hb⟩
  have HM : Hid ((L.take k ++ L.drop (k + 1)).length = q) := by unfold Hid; rw [List.length_append, List.length_take, List.length_drop, hq]; omega
  obtain ⟨o7, h7⟩ : ∃ o7, q * 7 = o7 := ⟨_, rfl⟩
  have HU : Hid (∀ W, Below w.heap.size w W → Calls Tryz.prog 97 #[cp c, .int .i64 (k : Int)] W fun e w' => e = .returned (.pointer (some ⟨g, o7, none⟩)) ∧ Hid (Ca w' A c room (some ⟨g, 0, none⟩) cap (L.take k ++ L.drop (k + 1) ++ [x]) ∧ OffS A w w')) := fun W hW => by
    refine (use_any W A c room g cap L (H.below hW) q hq (by omega) k (by omega) x hx).mono ?_
    rintro e w' ⟨rfl, u1, u2⟩
    rw [h7]
    exact ⟨rfl, u1, (OffS.of_below hW).trans (u2.mono fun _ h => .inl h)⟩
  generalize L.take k ++ L.drop (k + 1) = M at *
  have HQ : Hid (M.length = q ∧ q * 7 = o7 ∧ o < 4) := ⟨HM.out, h7, ho⟩
  have ho0 : ¬ (o : Int) < 0 := by omega
  have ho4 : (o : Int) < 4 := by omega
  clear H hl hx hk hgh hz hq hkl hn h16 HM h7 ho
  go_enter Tryz.func82, Tryz.ntmps82
  go_wp2_with (first
    | (go_at_call 100; refine HC.out.mono ?_; rintro e w1 ⟨rfl, hb1⟩)
    | (go_at_call 99; refine (HH.out _).mono ?_; rintro e w2 ⟨rfl, hw2⟩; subst w2)
    | (go_at_call 83; refine (HP.out w1 hb1).mono ?_; rintro e w3 ⟨rfl, hb3⟩)
    | (go_at_call 97; refine (HU.out w3 hb3).mono ?_; rintro e w4 ⟨rfl, HE⟩; have y1 := HE.out.1.last HQ.out.1 HQ.out.2.1; have y2 := y1.1 _ _ (enC_val x o HQ.out.2.2); rw [← Nat.add_assoc] at y2; have y3 := y1.2 (o7 + 3 + o); clear y1)
    | fail)
  go_ret2
  exact ⟨rfl, HE.out⟩

theorem set_no (w : World) (A : Nat → Prop) (c : Nat) (room : Int) (ao : Option Addr) (cap : Nat) (L : List En) (H : Ca w A c room ao cap L) (hl : L.length ≤ 1000000) (hE : EsOk L) (p o : Int) (qv : Nat × Nat) (hn : hasB (owN L p) o = false) :
    Calls Tryz.prog 81 #[cp c, .int .i64 p, .int .i64 o, .complex .f64 qv.1 qv.2] w fun e w' => e = .returned (.bool false) ∧ Below w.heap.size w w' := by
  have HC : Hid (Calls Tryz.prog 63 #[cp c, .int .i64 p] w fun e w' => e = .returned (.int .i64 ((owN L p : Nat) : Int)) ∧ Below w.heap.size w w') := own_any w A c room ao cap L H hl p
  have HH : Hid (∀ W, Calls Tryz.prog 99 #[.int .i64 ((owN L p : Nat) : Int), .int .i64 o] W fun e w' => e = .returned (.bool false) ∧ w' = W) := fun W => by
    have := has_any (owN L p) o (owN_lt hE p) W
    rw [hn] at this
    exact this
  clear H hl hE hn
  go_enter Tryz.func81, Tryz.ntmps81
  go_wp2_with (first
    | (go_at_call 63; refine HC.out.mono ?_; rintro e w1 ⟨rfl, hb1⟩)
    | (go_at_call 99; refine (HH.out _).mono ?_; rintro e w2 ⟨rfl, hw2⟩; subst w2)
    | fail)
  go_ret
  exact ⟨rfl, hb1⟩

set_option maxHeartbeats 1600000 in
theorem set_yes (w : World) (A : Nat → Prop) (c : Nat) (room : Int) (g cap : Nat) (L : List En) (H : Ca w A c room (some ⟨g, 0, none⟩) cap L) (hl : L.length ≤ 1000000) (p : Int) (k : Nat) (x : En) (hx : L[k]? = some x) (hk : plN L p = k) (o : Nat) (ho : o < 4) (qv : Nat × Nat) (h16 : x.o < 16) (hn : x.o.testBit o = true) :
    Calls Tryz.prog 81 #[cp c, .int .i64 p, .int .i64 (o : Int), .complex .f64 qv.1 qv.2] w fun e w' => e = .returned (.bool true) ∧ Ca w' A c room (some ⟨g, 0, none⟩) cap (L.take k ++ L.drop (k + 1) ++ [⟨x.p, x.c, x.o, updV x.v o qv⟩]) ∧ OffS A w w' := by
  have hst := fun (ad : Addr) (re im : Nat) (W : World) => run_store Tryz.prog W ad (.complex .f64 re im) .plain rfl
  obtain ⟨hkl, -⟩ := List.getElem?_eq_some_iff.1 hx
  have hgh : owN L p = x.o := by unfold owN; rw [hk, hx]; rfl
  have HC : Hid (Calls Tryz.prog 63 #[cp c, .int .i64 p] w fun e w' => e = .returned (.int .i64 ((x.o : Nat) : Int)) ∧ Below w.heap.size w w') := by
    have := own_any w A c room _ cap L H hl p
    rw [hgh] at this
    exact this
  have HH : Hid (∀ W, Calls Tryz.prog 99 #[.int .i64 ((x.o : Nat) : Int), .int .i64 (o : Int)] W fun e w' => e = .returned (.bool true) ∧ w' = W) := fun W => by
    have := has_nat x.o o h16 ho W
    rw [hn] at this
    exact this
  have hz : plZ L p = (k : Int) := by rw [plZ, hk, if_pos hkl]
  obtain ⟨q, hq⟩ : ∃ q, L.length = q + 1 := ⟨L.length - 1, by omega⟩
  have HP : Hid (∀ W, Below w.heap.size w W → Calls Tryz.prog 83 #[cp c, .int .i64 p] W fun e w' => e = .returned (.int .i64 (k : Int)) ∧ Below w.heap.size w w') := fun W hW => by
    refine (place_any W A c room _ cap L (H.below hW) hl p).mono ?_
    rintro e w' ⟨rfl, hb⟩
    exact ⟨ret_int hz, below_step hW hb⟩
  have HM : Hid ((L.take k ++ L.drop (k + 1)).length = q) := by unfold Hid; rw [List.length_append, List.length_take, List.length_drop, hq]; omega
  obtain ⟨o7, h7⟩ : ∃ o7, q * 7 = o7 := ⟨_, rfl⟩
  have HU : Hid (∀ W, Below w.heap.size w W → Calls Tryz.prog 97 #[cp c, .int .i64 (k : Int)] W fun e w' => e = .returned (.pointer (some ⟨g, o7, none⟩)) ∧ Hid (Ca w' A c room (some ⟨g, 0, none⟩) cap (L.take k ++ L.drop (k + 1) ++ [x]) ∧ OffS A w w')) := fun W hW => by
    refine (use_any W A c room g cap L (H.below hW) q hq (by omega) k (by omega) x hx).mono ?_
    rintro e w' ⟨rfl, u1, u2⟩
    rw [h7]
    exact ⟨rfl, u1, (OffS.of_below hW).trans (u2.mono fun _ h => .inl h)⟩
  generalize L.take k ++ L.drop (k + 1) = M at *
  have HQ : Hid (M.length = q ∧ q * 7 = o7 ∧ o < 4) := ⟨HM.out, h7, ho⟩
  have ho0 : ¬ (o : Int) < 0 := by omega
  have ho4 : (o : Int) < 4 := by omega
  clear H hl hx hk hgh hz hq hkl hn h16 HM h7 ho
  go_enter Tryz.func81, Tryz.ntmps81
  go_wp2_with (first
    | (go_at_call 63; refine HC.out.mono ?_; rintro e w1 ⟨rfl, hb1⟩)
    | (go_at_call 99; refine (HH.out _).mono ?_; rintro e w2 ⟨rfl, hw2⟩; subst w2)
    | (go_at_call 83; refine (HP.out w1 hb1).mono ?_; rintro e w3 ⟨rfl, hb3⟩)
    | (go_at_call 97; refine (HU.out w3 hb3).mono ?_; rintro e w4 ⟨rfl, HE⟩; have y1 := HE.out.1.last HQ.out.1 HQ.out.2.1; have y2 := y1.1 _ _ (enC_val x o HQ.out.2.2); rw [← Nat.add_assoc] at y2; have y3 := y1.2 (o7 + 3 + o); clear y1)
    | fail)
  go_ret
  obtain ⟨k1, k2⟩ := HE.out.1.put HQ.out.1 HQ.out.2.1 (3 + o) (by have := HQ.out.2.2; omega) _ _ (enC_upd x o HQ.out.2.2 qv)
  rw [← Nat.add_assoc] at k1 k2
  exact ⟨rfl, k1, HE.out.2.trans (k2.mono fun _ h => .inl h)⟩

/-- A cache whose blocks lie from B on, ahead of S. -/
structure Cx (B S : Nat) (W : World) (c : Nat) (room : Int) (L : List En) : Prop where
  cw : Cw W (fun k => B ≤ k ∧ k < S) c room L
  le : S ≤ W.heap.size

section
variable {B S : Nat} {W W' : World} {c : Nat} {room : Int} {L : List En}
theorem Cx.base (h : Cx B S W c room L) : B < S := by
  obtain ⟨ao, cap, h⟩ := h.cw
  have := h.ac
  omega
theorem Cx.below (h : Cx B S W c room L) (hb : Below W.heap.size W W') : Cx B S W' c room L := ⟨h.cw.below hb, Nat.le_trans h.le hb.size⟩
theorem Cx.beyond (h : Cx B S W c room L) (hb : Below S W W') : Cx B S W' c room L := by
  refine ⟨?_, Nat.le_trans h.le hb.size⟩
  obtain ⟨ao, cap, h⟩ := h.cw
  exact ⟨ao, cap, h.keep fun k hk _ => hb.block k hk.2⟩
theorem Cx.wide (h : Cx B S W c room L) : Cx B W.heap.size W c room L := ⟨h.cw.mono fun k hk ha => ⟨ha.1, hk⟩, Nat.le_refl _⟩
theorem Cx.of_nx (hB : B ≤ W.heap.size) (hS : S ≤ W.heap.size) (h : Nx W W' (fun k => B ≤ k ∧ k < S) c room L) : Cx B W'.heap.size W' c room L ∧ OffS (fun k => B ≤ k ∧ k < S) W W' :=
  ⟨⟨h.1.mono fun k hk ha => by
    rcases ha with ha | ha
    · exact ⟨ha.1, hk⟩
    · exact ⟨by omega, hk⟩, Nat.le_refl _⟩, h.2⟩
theorem Nx.of_ca {A : Nat → Prop} {ao : Option Addr} {cap : Nat} (h : Ca W' A c room ao cap L) (ho : OffS A W W') : Nx W W' A c room L := ⟨⟨ao, cap, h.mono fun _ _ h => .inl h⟩, ho⟩
theorem OffS.belB {B S : Nat} {W W' : World} (h : OffS (fun k => B ≤ k ∧ k < S) W W') (hB : B ≤ W.heap.size) : Below B W W' := h.below (fun _ h => h.1) hB
end

def putL (L : List En) (room : Int) (ks : List Int) (p cm om : Nat) (v : Nat → Nat × Nat) : List En :=
  if plN L p < L.length then L.take (plN L p) ++ L.drop (plN L p + 1) ++ [fillE (L[plN L p]?.getD ⟨p, 0, 0, fun _ => (0, 0)⟩) cm om v]
  else if mrB L room ks then mrL L room ks ++ [fillE ⟨p, 0, 0, fun _ => (0, 0)⟩ cm om v] else L
def putZ (L : List En) (room : Int) (ks : List Int) (p : Nat) : Int := if plN L p < L.length then -1 else if mrB L room ks then mrZ L room ks else -1
def putB (L : List En) (room : Int) (ks : List Int) (p : Nat) : Bool := decide (plN L p < L.length) || mrB L room ks

theorem putX {B S : Nat} {W : World} {c : Nat} {room : Int} {L : List En} (H : Cx B S W c room L) (hl : L.length ≤ 100000) (p cm om : Nat) (hp : PutOk p cm om) (v : Nat → Nat × Nat) (ka : Option Addr) (kn kc : Nat) (ks : List Int) (hks : RdI W .i64 ka kc ks) (hkn : ks.length = kn) (hkl : kn ≤ 9223372036854775807) :
    Calls Tryz.prog 78 #[cp c, .int .i64 (p : Int), .int .i64 (cm : Int), .int .i64 (om : Int), vaV v, .slice ka kn kc] W fun e w' => e = .returned (.tuple #[.int .i64 (putZ L room ks p), .bool (putB L room ks p)]) ∧ Cx B w'.heap.size w' c room (putL L room ks p cm om v) ∧ OffS (fun k => B ≤ k ∧ k < S) W w' := by
  have hb := H.base
  have hs := H.le
  obtain ⟨ao, cap, h⟩ := H.cw
  have hA : ∀ k, (B ≤ k ∧ k < S) → k < W.heap.size := fun k hk => by omega
  by_cases hk : plN L p < L.length
  · obtain ⟨g, rfl⟩ := h.some_of (by omega)
    have hx := List.getElem?_eq_getElem hk
    refine (put_there W _ hA c room g cap L h (by omega) p cm om hp v _ (plN L p) L[plN L p] hx rfl).mono ?_
    rintro e w' ⟨rfl, u1, u2⟩
    have e1 : putZ L room ks p = -1 := if_pos hk
    have e2 : putB L room ks p = true := by simp [putB, hk]
    have e3 : putL L room ks p cm om v = L.take (plN L p) ++ L.drop (plN L p + 1) ++ [fillE L[plN L p] cm om v] := by rw [putL, if_pos hk, hx]; rfl
    rw [e1, e2, e3]
    exact ⟨rfl, Cx.of_nx (by omega) hs (Nx.of_ca u1 u2)⟩
  · cases hf : mrB L room ks
    · refine (put_full W _ hA c room ao cap L h hl p cm om hp v ka kn kc ks hks hkn hkl hk hf).mono ?_
      rintro e w' ⟨rfl, u1, u2⟩
      have e1 : putZ L room ks p = -1 := by rw [putZ, if_neg hk, hf]; rfl
      have e2 : putB L room ks p = false := by simp [putB, hk, hf]
      have e3 : putL L room ks p cm om v = L := by rw [putL, if_neg hk, hf]; rfl
      rw [e1, e2, e3]
      exact ⟨rfl, Cx.of_nx (by omega) hs (Nx.of_ca u1 u2)⟩
    · refine (put_new W _ hA c room ao cap L h hl p cm om hp v ka kn kc ks hks hkn hkl hk hf).mono ?_
      rintro e w' ⟨rfl, u1⟩
      have e1 : putZ L room ks p = mrZ L room ks := by rw [putZ, if_neg hk, hf]; rfl
      have e2 : putB L room ks p = true := by simp [putB, hf]
      have e3 : putL L room ks p cm om v = mrL L room ks ++ [fillE ⟨p, 0, 0, fun _ => (0, 0)⟩ cm om v] := by rw [putL, if_neg hk, hf]; rfl
      rw [e1, e2, e3]
      exact ⟨rfl, Cx.of_nx (by omega) hs u1⟩

theorem newX (many : Int) (w : World) : Calls Tryz.prog 14 #[.int .i64 many] w fun e w' => ∃ c, e = .returned (cp c) ∧ Cx w.heap.size w'.heap.size w' c (roomZ many) [] ∧ Below w.heap.size w w' :=
  (new_any many w).mono fun e w' ⟨h1, h2, h3⟩ => ⟨_, h1, ⟨h2.mono fun k hk ha => ⟨ha, hk⟩, Nat.le_refl _⟩, h3⟩

section
variable {B S : Nat} {W : World} {c : Nat} {room : Int} {L : List En}

theorem copiesX (H : Cx B S W c room L) (hl : L.length ≤ 1000000) (p : Int) : Calls Tryz.prog 100 #[cp c, .int .i64 p] W fun e w' => e = .returned (.int .i64 ((cpN L p : Nat) : Int)) ∧ Below W.heap.size W w' := by
  obtain ⟨ao, cap, h⟩ := H.cw
  exact copies_any W _ c room ao cap L h hl p

theorem ownX (H : Cx B S W c room L) (hl : L.length ≤ 1000000) (p : Int) : Calls Tryz.prog 63 #[cp c, .int .i64 p] W fun e w' => e = .returned (.int .i64 ((owN L p : Nat) : Int)) ∧ Below W.heap.size W w' := by
  obtain ⟨ao, cap, h⟩ := H.cw
  exact own_any W _ c room ao cap L h hl p

theorem get_noX (H : Cx B S W c room L) (hl : L.length ≤ 1000000) (hE : EsOk L) (p o : Int) (hn : hasB (cpN L p) o = false) : Calls Tryz.prog 82 #[cp c, .int .i64 p, .int .i64 o] W fun e w' => e = .returned (.tuple #[.complex .f64 0 0, .bool false]) ∧ Below W.heap.size W w' := by
  obtain ⟨ao, cap, h⟩ := H.cw
  exact get_no W _ c room ao cap L h hl hE p o hn

theorem set_noX (H : Cx B S W c room L) (hl : L.length ≤ 1000000) (hE : EsOk L) (p o : Int) (qv : Nat × Nat) (hn : hasB (owN L p) o = false) : Calls Tryz.prog 81 #[cp c, .int .i64 p, .int .i64 o, .complex .f64 qv.1 qv.2] W fun e w' => e = .returned (.bool false) ∧ Below W.heap.size W w' := by
  obtain ⟨ao, cap, h⟩ := H.cw
  exact set_no W _ c room ao cap L h hl hE p o qv hn

theorem get_yesX (H : Cx B S W c room L) (hl : L.length ≤ 1000000) (p : Int) (k : Nat) (x : En) (hx : L[k]? = some x) (hk : plN L p = k) (o : Nat) (ho : o < 4) (h16 : x.c < 16) (hn : x.c.testBit o = true) : Calls Tryz.prog 82 #[cp c, .int .i64 p, .int .i64 (o : Int)] W fun e w' => e = .returned (.tuple #[.complex .f64 (x.v o).1 (x.v o).2, .bool true]) ∧ Cx B w'.heap.size w' c room (L.take k ++ L.drop (k + 1) ++ [x]) ∧ OffS (fun k => B ≤ k ∧ k < S) W w' := by
  have hb := H.base
  have hs := H.le
  obtain ⟨ao, cap, h⟩ := H.cw
  obtain ⟨g, rfl⟩ := h.some_of (by have := (List.getElem?_eq_some_iff.1 hx).1; omega)
  refine (get_yes W _ c room g cap L h hl p k x hx hk o ho h16 hn).mono ?_
  rintro e w' ⟨rfl, u1, u2⟩
  exact ⟨rfl, Cx.of_nx (by omega) hs (Nx.of_ca u1 u2)⟩

theorem set_yesX (H : Cx B S W c room L) (hl : L.length ≤ 1000000) (p : Int) (k : Nat) (x : En) (hx : L[k]? = some x) (hk : plN L p = k) (o : Nat) (ho : o < 4) (qv : Nat × Nat) (h16 : x.o < 16) (hn : x.o.testBit o = true) : Calls Tryz.prog 81 #[cp c, .int .i64 p, .int .i64 (o : Int), .complex .f64 qv.1 qv.2] W fun e w' => e = .returned (.bool true) ∧ Cx B w'.heap.size w' c room (L.take k ++ L.drop (k + 1) ++ [⟨x.p, x.c, x.o, updV x.v o qv⟩]) ∧ OffS (fun k => B ≤ k ∧ k < S) W w' := by
  have hb := H.base
  have hs := H.le
  obtain ⟨ao, cap, h⟩ := H.cw
  obtain ⟨g, rfl⟩ := h.some_of (by have := (List.getElem?_eq_some_iff.1 hx).1; omega)
  refine (set_yes W _ c room g cap L h hl p k x hx hk o ho qv h16 hn).mono ?_
  rintro e w' ⟨rfl, u1, u2⟩
  exact ⟨rfl, Cx.of_nx (by omega) hs (Nx.of_ca u1 u2)⟩
end

end Go.Proofs.YtmmgdmfdiaoegaaGreat
