/- do and hear of package host, walked over what ask and commit do. -/
import Derived.Test.YtpofihiojhbfgaaGreatDoorHt3
import Derived.Test.YtpofihiojhbfgaaGreatDoorB8
namespace Go.Proofs.YtpofihiojhbfgaaGreatDoor
open Go.RowKit
set_option linter.unusedVariables false
set_option maxRecDepth 8000

set_option maxHeartbeats 1600000 in
theorem do_ask {w : World} {h : Nat} (ep : Int) (mp mo mt mc mn : Int) (mw : Bool) (pa : Option Addr) (pn pc x0 y0 x1 y1 x2 y2 x3 y3 : Nat) (R : World → Prop) (HQ : ∀ U, Below w.heap.size w U → Calls Tryz.prog 87 #[tp h, .int .i64 1, .agg #[.int .i64 1, .int .i64 mp, .int .i64 mo, .int .i64 mt, .int .i64 mc, .int .i64 mn, .bool mw, .slice pa pn pc, .complex .f64 x0 y0, .complex .f64 x1 y1, .complex .f64 x2 y2, .complex .f64 x3 y3]] U fun e w' => e = .returned (.tuple #[]) ∧ R w') :
    Calls Tryz.prog 49 #[tp h, .int .i64 1, .int .i64 ep, .agg #[.int .i64 1, .int .i64 mp, .int .i64 mo, .int .i64 mt, .int .i64 mc, .int .i64 mn, .bool mw, .slice pa pn pc, .complex .f64 x0 y0, .complex .f64 x1 y1, .complex .f64 x2 y2, .complex .f64 x3 y3]] w fun e w' => e = .returned (.tuple #[]) ∧ R w' := by
  have hst := fun (ad : Addr) (re im : Nat) (W : World) => run_store Tryz.prog W ad (.complex .f64 re im) .plain rfl
  have HA := hidOf HQ
  clear HQ
  go_enter Tryz.func49, Tryz.ntmps49
  go_upto_region 1 with fail
  obtain ⟨bk, hbk⟩ : ∃ r, w.heap.size = r := ⟨_, rfl⟩
  obtain ⟨W, hW⟩ : ∃ W, w.alloc (Msg.msO ⟨1, mp, mo, mt, mc, mn, mw, [], (x0, y0), (x1, y1), (x2, y2), (x3, y3)⟩ pa pn pc) = W := ⟨_, rfl⟩
  have hbA : Below w.heap.size w W := hW ▸ (Below.refl _ _).alloc (Nat.le_refl _) _
  have hkn : Msg.MgAt W bk ⟨1, mp, mo, mt, mc, mn, mw, [], (x0, y0), (x1, y1), (x2, y2), (x3, y3)⟩ pa pn pc := hW ▸ hbk ▸ Msg.MgAt.new w _ pa pn pc
  have HC := hidOf (show Calls Tryz.prog 87 #[tp h, .int .i64 1, .agg #[.int .i64 1, .int .i64 mp, .int .i64 mo, .int .i64 mt, .int .i64 mc, .int .i64 mn, .bool mw, .slice pa pn pc, .complex .f64 x0 y0, .complex .f64 x1 y1, .complex .f64 x2 y2, .complex .f64 x3 y3]] W fun e w' => e = .returned (.tuple #[]) ∧ R w' from HA.out W hbA)
  show Code.wp _ _ _ _ (w.alloc (Msg.msO ⟨1, mp, mo, mt, mc, mn, mw, [], (x0, y0), (x1, y1), (x2, y2), (x3, y3)⟩ pa pn pc))
  rw [hW, hbk]
  obtain ⟨m0, m1, m2, m3, m4, m5, m6, m7, m8, m9, mA, mB, mz, ml⟩ := hkn
  clear hW hbk hbA HA mz ml
  go_wp2_with (first
    | (go_at_call 87; (with_reducible refine HC.out.mono ?_); rintro e w4 ⟨rfl, H4⟩)
    | fail)
  go_end0
  exact ⟨rfl, H4⟩

set_option maxHeartbeats 1600000 in
theorem do_com {w : World} {h : Nat} (ep : Int) (mp mo mt mc mn : Int) (mw : Bool) (pa : Option Addr) (pn pc x0 y0 x1 y1 x2 y2 x3 y3 : Nat) (R : World → Prop) (HQ : ∀ U, Below w.heap.size w U → Calls Tryz.prog 89 #[tp h, .int .i64 1, .int .i64 ep, .agg #[.int .i64 2, .int .i64 mp, .int .i64 mo, .int .i64 mt, .int .i64 mc, .int .i64 mn, .bool mw, .slice pa pn pc, .complex .f64 x0 y0, .complex .f64 x1 y1, .complex .f64 x2 y2, .complex .f64 x3 y3]] U fun e w' => e = .returned (.tuple #[]) ∧ R w') :
    Calls Tryz.prog 49 #[tp h, .int .i64 1, .int .i64 ep, .agg #[.int .i64 2, .int .i64 mp, .int .i64 mo, .int .i64 mt, .int .i64 mc, .int .i64 mn, .bool mw, .slice pa pn pc, .complex .f64 x0 y0, .complex .f64 x1 y1, .complex .f64 x2 y2, .complex .f64 x3 y3]] w fun e w' => e = .returned (.tuple #[]) ∧ R w' := by
  have hst := fun (ad : Addr) (re im : Nat) (W : World) => run_store Tryz.prog W ad (.complex .f64 re im) .plain rfl
  have HA := hidOf HQ
  clear HQ
  go_enter Tryz.func49, Tryz.ntmps49
  go_upto_region 1 with fail
  obtain ⟨bk, hbk⟩ : ∃ r, w.heap.size = r := ⟨_, rfl⟩
  obtain ⟨W, hW⟩ : ∃ W, w.alloc (Msg.msO ⟨2, mp, mo, mt, mc, mn, mw, [], (x0, y0), (x1, y1), (x2, y2), (x3, y3)⟩ pa pn pc) = W := ⟨_, rfl⟩
  have hbA : Below w.heap.size w W := hW ▸ (Below.refl _ _).alloc (Nat.le_refl _) _
  have hkn : Msg.MgAt W bk ⟨2, mp, mo, mt, mc, mn, mw, [], (x0, y0), (x1, y1), (x2, y2), (x3, y3)⟩ pa pn pc := hW ▸ hbk ▸ Msg.MgAt.new w _ pa pn pc
  have HC := hidOf (show Calls Tryz.prog 89 #[tp h, .int .i64 1, .int .i64 ep, .agg #[.int .i64 2, .int .i64 mp, .int .i64 mo, .int .i64 mt, .int .i64 mc, .int .i64 mn, .bool mw, .slice pa pn pc, .complex .f64 x0 y0, .complex .f64 x1 y1, .complex .f64 x2 y2, .complex .f64 x3 y3]] W fun e w' => e = .returned (.tuple #[]) ∧ R w' from HA.out W hbA)
  show Code.wp _ _ _ _ (w.alloc (Msg.msO ⟨2, mp, mo, mt, mc, mn, mw, [], (x0, y0), (x1, y1), (x2, y2), (x3, y3)⟩ pa pn pc))
  rw [hW, hbk]
  obtain ⟨m0, m1, m2, m3, m4, m5, m6, m7, m8, m9, mA, mB, mz, ml⟩ := hkn
  clear hW hbk hbA HA mz ml
  go_wp2_with (first
    | (go_at_call 89; (with_reducible refine HC.out.mono ?_); rintro e w4 ⟨rfl, H4⟩)
    | fail)
  go_end0
  exact ⟨rfl, H4⟩

theorem Se.got {w : World} {Z : Nat → Prop} {t : Nat} {I : LkI} {L : List (List Nat)} {sn h : Nat} {si : Int} {fr : Bool} {bss : List (List Nat)} (H : Se w Z t I L sn h si fr bss) (P : Lnk.PkG) (u : Value) (U : Nat → Prop) (hy : Lnk.By w U u P.bs) (hm : P.bs.length ≤ 140737488355328) (hh : h < 16777215) :
    ∃ l, w.cell? ⟨t, 1, none⟩ = some (cp l) ∧ Calls Tryz.prog 47 #[cp l, Lnk.pkV P u] w fun e w' => ∃ v, e = .returned (.tuple #[v, .bool (Lnk.gotB I sn h P)]) ∧ Lnk.By w' (fun k => w.heap.size ≤ k) v (Lnk.gotX I sn h P) ∧ w'.heap[t]? = w.heap[t]? ∧ ∃ Z', (∀ k, Z' k → Z k ∨ w.heap.size ≤ k) ∧ Se w' Z' t I (L.drop (Lnk.gotC I L.length sn P)) sn (Lnk.gotH I sn h P) si fr bss ∧ OffS Z w w' := by
  obtain ⟨D, Y, l, xo, n, xc, vs, h1, h2, h3, h4, h5, h6⟩ := H
  obtain ⟨c0, c1, c2, c3, c4⟩ := se_cells h1.blk
  refine ⟨l, c1, (gotW h1.lk P u U hy hm hh).mono ?_⟩
  rintro e w' ⟨v, rfl, k1, k2⟩
  obtain ⟨D', d1, d2⟩ := k2.lk
  have hs := k2.off.size
  have htl := h6 t h2
  have ht : w'.heap[t]? = w.heap[t]? := k2.off.block t htl h1.td
  have hnD : ∀ k, k < w.heap.size → ¬ D k → ¬ D' k := fun k hk hn e => by
    rcases d1 k e with h' | h'
    · exact hn h'
    · omega
  refine ⟨v, rfl, k1, ht, fun k => (Z k ∨ D' k) ∧ k < w'.heap.size, ?_, ⟨D', Y, l, xo, n, xc, vs, ⟨ht.trans h1.blk, d2, h1.row.keep fun x hx => k2.off.block _ (h1.xd x hx).2.2 (h1.xd x hx).2.1, ⟨h1.bys.len, fun i v bs e1 e2 => (h1.bys.each i v bs e1 e2).kept ⟨hs, fun k hk hY => k2.off.block k hk (h1.yd k hY)⟩⟩, h1.len, hnD t htl h1.td, fun x hx => ⟨(h1.xd x hx).1, hnD _ (h1.xd x hx).2.2 (h1.xd x hx).2.1, Nat.lt_of_lt_of_le (h1.xd x hx).2.2 hs⟩, fun k hk => hnD k (h6 k (h4 k hk)) (h1.yd k hk)⟩, ⟨.inl h2, Nat.lt_of_lt_of_le htl hs⟩, fun k hk => ⟨.inr hk, d2.lt k hk⟩, fun k hk => ⟨.inl (h4 k hk), Nat.lt_of_lt_of_le (h6 k (h4 k hk)) hs⟩, fun x hx => ⟨.inl (h5 x hx), Nat.lt_of_lt_of_le (h6 _ (h5 x hx)) hs⟩, fun k hk => hk.2⟩, k2.off.mono h3⟩
  rintro k ⟨hk | hk, -⟩
  · exact .inl hk
  · exact (d1 k hk).imp (h3 k) id
theorem Se.quiet {w : World} {Z : Nat → Prop} {t : Nat} {I : LkI} {L : List (List Nat)} {sn h : Nat} {si : Int} {fr : Bool} {bss : List (List Nat)} (H : Se w Z t I L sn h si fr bss) : Se (w.setCell ⟨t, 3, none⟩ (.int .i64 0)) Z t I L sn h 0 fr bss ∧ OffS Z w (w.setCell ⟨t, 3, none⟩ (.int .i64 0)) := by
  obtain ⟨D, Y, l, xo, n, xc, vs, h1, h2, h3, h4, h5, h6⟩ := H
  have hk : ∀ k, k ≠ t → (w.setCell ⟨t, 3, none⟩ (.int .i64 0)).heap[k]? = w.heap[k]? := fun k hk => Below.heap_setCell _ _ _ _ hk
  have hs : w.heap.size ≤ (w.setCell ⟨t, 3, none⟩ (.int .i64 0)).heap.size := by simp
  refine ⟨⟨D, Y, l, xo, n, xc, vs, ⟨?_, h1.lk.keep hs fun k hD => hk k fun e => h1.td (e ▸ hD), h1.row.keep fun x hx => hk _ (h1.xd x hx).1, ⟨h1.bys.len, fun i v bs e1 e2 => (h1.bys.each i v bs e1 e2).keepx hs fun k cs fr hkk => hk k fun e => ?_⟩, h1.len, h1.td, fun x hx => ⟨(h1.xd x hx).1, (h1.xd x hx).2.1, by have := (h1.xd x hx).2.2; omega⟩, h1.yd⟩, h2, h3, h4, h5, fun k hZ => by have := h6 k hZ; omega⟩, (OffS.refl _ _).setCell h2 _⟩
  · rw [heap_setCell_same w t _ _ 66 _ h1.blk]; rfl
  · rw [e, h1.blk] at hkk
    simp at hkk

set_option maxHeartbeats 6400000 in
theorem hear_any {w : World} {B : Nat} {V X S Z : Nat → Prop} {h gs d g q : Nat} {s1 ca : Option Addr} {cc : Nat} {G : HoG} (H : Hk w B V X S Z h gs d g q s1 ca cc G) {s : Sg} (hs : G.se = some s) (t : Nat) (ht : s1 = some ⟨t, 0, none⟩) (P : Lnk.PkG) (u : Value) (U0 : Nat → Prop) (hy : Lnk.By w U0 u P.bs) (hm : P.bs.length ≤ 140737488355328) (hh : s.h < 16777215) (hcl : P.cl = 1) (hg : Lnk.gotB ⟨1, G.e1, G.bo, true⟩ s.sn s.h P = true)
    (M : Mg) (m : Nat) (ps : List PutG)
    (HRd : ∀ (U : World) (v : Value), Lnk.By U (fun k => w.heap.size ≤ k) v P.bs → Calls Tryz.prog 48 #[v] U fun x w' => ∃ a' c', x = .returned (.tuple #[Msg.msV M a' m c', .int .i64 0]) ∧ RdP w' a' m c' ps ∧ (∀ y, a' = some y → U.heap.size ≤ y.block) ∧ Below U.heap.size U w')
    (G2 : HoG) (hE2 : G2.e1 = G.e1) (hS2 : ∃ s', G2.se = some s') (HDo : ∀ (U : World) (V1 X1 S1 Z1 : Nat → Prop) (a' : Option Addr) (c' : Nat), Hk U B V1 X1 S1 Z1 h gs d g q s1 ca cc { G with se := some { s with si := 0, L := s.L.drop (Lnk.gotC ⟨1, G.e1, G.bo, true⟩ s.L.length s.sn P), h := s.h + 1 } } → RdP U a' m c' ps → (0 < m → ∀ y, a' = some y → X1 y.block) → Calls Tryz.prog 49 #[tp h, .int .i64 1, .int .i64 G.e1, Msg.msV M a' m c'] U fun e w' => e = .returned (.tuple #[]) ∧ ∃ V' X' S' Z' ca' cc', (∀ k, X1 k → X' k) ∧ Hk w' B V' X' S' Z' h gs d g q s1 ca' cc' G2 ∧ Hx B X1 U w') :
    Calls Tryz.prog 25 #[tp h, cp t, Lnk.pkV P u] w fun e w' => e = .returned (.tuple #[]) ∧ ∃ V' X' S' Z' ca' cc', (∀ k, X k → X' k) ∧ Hk w' B V' X' S' Z' h gs d g q s1 ca' cc' G2 ∧ Hx B X w w' := by
  have hst := fun (ad : Addr) (re im : Nat) (W : World) => run_store Tryz.prog W ad (.complex .f64 re im) .plain rfl
  obtain ⟨pcl, pep, pbo, psq, pak, psv, pbs⟩ := P
  simp only at hcl
  subst hcl
  have HA := hidOf (show Hk w B V X S Z h gs d g q s1 ca cc G ∧ G.se = some s ∧ Lnk.By w U0 u pbs ∧ s.h < 16777215 ∧ pbs.length ≤ 140737488355328 ∧ Lnk.gotB ⟨1, G.e1, G.bo, true⟩ s.sn s.h ⟨1, pep, pbo, psq, pak, psv, pbs⟩ = true from ⟨H, hs, hy, hh, hm, hg⟩)
  have HR := hidOf HRd
  have HD := hidOf HDo
  have HG2 := hidOf (show G2.e1 = G.e1 ∧ ∃ s', G2.se = some s' from ⟨hE2, hS2⟩)
  subst ht
  clear H hs hy hm hh hg HRd HDo hE2 hS2
  go_enter Tryz.func25, Tryz.ntmps25
  go_upto_region 1 with fail
  obtain ⟨bk, hbk⟩ : ∃ r, w.heap.size = r := ⟨_, rfl⟩
  obtain ⟨W, hW⟩ : ∃ W, w.alloc (Lnk.pkO ⟨1, pep, pbo, psq, pak, psv, pbs⟩ u) = W := ⟨_, rfl⟩
  have hbA : Below w.heap.size w W := hW ▸ (Below.refl _ _).alloc (Nat.le_refl _) _
  have hkn : W.heap[bk]? = some (Lnk.pkO ⟨1, pep, pbo, psq, pak, psv, pbs⟩ u) := hW ▸ hbk ▸ heap_alloc_new w _
  show Code.wp _ _ _ _ (w.alloc (Lnk.pkO ⟨1, pep, pbo, psq, pak, psv, pbs⟩ u))
  rw [hW, hbk]
  have HB := hidOf (show Below w.heap.size w W ∧ W.heap[bk]? = some (Lnk.pkO ⟨1, pep, pbo, psq, pak, psv, pbs⟩ u) ∧ w.heap.size = bk from ⟨hbA, hkn, hbk⟩)
  have HSe : Hid (∃ Z0, Hk W B (Nv w W V) (Nv w W X) S Z0 h gs d g q (some ⟨t, 0, none⟩) ca cc G ∧ Se W Z0 t ⟨1, G.e1, G.bo, true⟩ s.L s.sn s.h s.si s.fr s.out) := by
    have H2 := HA.out.1.below hbA
    obtain ⟨t', e, hse⟩ := H2.ss.yes HA.out.2.1
    cases e
    exact ⟨Z, H2, hse⟩
  have c3 : W.cell? ⟨t, 3, none⟩ = some (.int .i64 s.si) := by
    obtain ⟨Z0, k1, k2⟩ := HSe.out
    obtain ⟨l, v, -, -, -, e3, -⟩ := k2.cells
    exact e3
  have f3 : W.frozen? ⟨t, 3, none⟩ = false := by
    obtain ⟨Z0, k1, ⟨D, Y, l, xo, n, xc, vs, h1, -⟩⟩ := HSe.out
    exact se_fz h1.blk 3
  clear hW hbk hbA hkn
  go_upto_region 2 with fail
  have HQ : Hid (∃ V1 Z1, Hk (W.setCell ⟨t, 3, none⟩ (.int .i64 0)) B V1 (Nv w W X) S Z1 h gs d g q (some ⟨t, 0, none⟩) ca cc { G with se := some { s with si := 0 } } ∧ Se (W.setCell ⟨t, 3, none⟩ (.int .i64 0)) Z1 t ⟨1, G.e1, G.bo, true⟩ s.L s.sn s.h 0 s.fr s.out ∧ Hx B X w (W.setCell ⟨t, 3, none⟩ (.int .i64 0)) ∧ (W.setCell ⟨t, 3, none⟩ (.int .i64 0)).heap[bk]? = some (Lnk.pkO ⟨1, pep, pbo, psq, pak, psv, pbs⟩ u) ∧ Lnk.By (W.setCell ⟨t, 3, none⟩ (.int .i64 0)) U0 u pbs ∧ w.heap.size ≤ (W.setCell ⟨t, 3, none⟩ (.int .i64 0)).heap.size) := by
    obtain ⟨Z0, k1, k2⟩ := HSe.out
    obtain ⟨q1, q2⟩ := k2.quiet
    have hX := k1.sessX q2
    obtain ⟨V1, k3⟩ := k1.sess (s2 := { s with si := 0 }) (X2 := Nv w W X) rfl q2 q1 (fun k hk => .inl hk) fun k hk => .inl hk
    obtain ⟨b1, b2, b3⟩ := HB.out
    have hXb : Nv w W X bk := .inr ⟨by omega, (Array.getElem?_eq_some_iff.1 b2).1⟩
    refine ⟨V1, Z0, k3, q1, (Hx.of_below HA.out.1.hB HA.out.1.xlt b1).trans hX fun k hk => .inl hk, (hX.keep bk hXb).trans b2, ?_, Nat.le_trans b1.size q2.size⟩
    refine (HA.out.2.2.1.below b1).keepx (by simp) fun k cs fr hk => Below.heap_setCell _ _ _ _ ?_
    intro e
    obtain ⟨D, Y, l, xo, n, xc, vs, h1, -⟩ := k2
    have e' : k = t := e
    rw [e', h1.blk] at hk
    simp at hk
  clear c3 f3 HSe
  generalize W.setCell ⟨t, 3, none⟩ (.int .i64 0) = W1 at *
  have HL : Hid (∃ l, W1.cell? ⟨t, 1, none⟩ = some (cp l) ∧ Calls Tryz.prog 47 #[cp l, Lnk.pkV ⟨1, pep, pbo, psq, pak, psv, pbs⟩ u] W1.drew fun e w' => ∃ v, e = .returned (.tuple #[v, .bool true]) ∧ (∀ k, k = t ∨ k = bk → w'.heap[k]? = W1.heap[k]?) ∧ Hid (Lnk.By w' (fun k => w.heap.size ≤ k) v pbs ∧ ∃ V2 Z2, Hk w' B V2 (Nv w W X) S Z2 h gs d g q (some ⟨t, 0, none⟩) ca cc { G with se := some { s with si := 0, L := s.L.drop (Lnk.gotC ⟨1, G.e1, G.bo, true⟩ s.L.length s.sn ⟨1, pep, pbo, psq, pak, psv, pbs⟩), h := s.h + 1 } } ∧ Hx B X w w')) := by
    obtain ⟨V1, Z1, k1, k2, k3, k4, k5, k6⟩ := HQ.out
    have k2d := k2.below (bel0 W1)
    obtain ⟨l, e1, hc⟩ := k2d.got ⟨1, pep, pbo, psq, pak, psv, pbs⟩ u U0 (k5.below (bel0 W1)) HA.out.2.2.2.2.1 HA.out.2.2.2.1
    refine ⟨l, e1, hc.mono ?_⟩
    rw [HA.out.2.2.2.2.2]
    rintro e w' ⟨v, rfl, y1, y2, Z', y3, y4, y5⟩
    have hgx : Lnk.gotX ⟨1, G.e1, G.bo, true⟩ s.sn s.h ⟨1, pep, pbo, psq, pak, psv, pbs⟩ = pbs := by simp [Lnk.gotX, HA.out.2.2.2.2.2]
    have hgh : Lnk.gotH ⟨1, G.e1, G.bo, true⟩ s.sn s.h ⟨1, pep, pbo, psq, pak, psv, pbs⟩ = s.h + 1 := by simp [Lnk.gotH, HA.out.2.2.2.2.2]
    rw [hgx] at y1
    rw [hgh] at y4
    have k1d := k1.sess (w' := W1.drew) (s2 := { s with si := 0 }) (X2 := Nv w W X) rfl (OffS.of_below (bel0 W1)) k2d (fun k hk => .inl hk) fun k hk => .inl hk
    obtain ⟨V1d, k1d⟩ := k1d
    have hX := k1d.sessX y5
    obtain ⟨V2, k7⟩ := k1d.sess (s2 := { s with si := 0, L := s.L.drop (Lnk.gotC ⟨1, G.e1, G.bo, true⟩ s.L.length s.sn ⟨1, pep, pbo, psq, pak, psv, pbs⟩), h := s.h + 1 }) (X2 := Nv w W X) rfl y5 y4 y3 fun k hk => .inl hk
    have hXb : Nv w W X bk := .inr ⟨by have := HB.out.2.2; omega, (Array.getElem?_eq_some_iff.1 HB.out.2.1).1⟩
    refine ⟨v, rfl, ?_, y1.mono fun k _ hk => ?_, V2, Z', k7, (k3.trans (Hx.of_below (X := X) k1.hB (fun k hk => by have := HA.out.1.xlt k hk; omega) (bel0 W1)) fun _ h => h).trans hX fun k hk => .inl hk⟩
    · rintro k (rfl | rfl)
      · exact y2
      · exact hX.keep _ hXb
    · have h' : W1.heap.size ≤ k := hk
      omega
  obtain ⟨l, hl1, hlc⟩ := HL.out
  have HLc := hidOf hlc
  clear HL hlc
  have HC : Hid (∀ U : World, (∀ k, k = t ∨ k = bk → U.heap[k]? = W1.heap[k]?) → U.cell? ⟨t, 0, none⟩ = some (.int .i64 G.e1) ∧ U.cell? ⟨t, 1, none⟩ = some (cp l) ∧ U.cell? ⟨bk, 0, none⟩ = some (.int .i64 1) ∧ U.cell? ⟨bk, 1, none⟩ = some (.int .i64 pep) ∧ U.cell? ⟨bk, 2, none⟩ = some (.int .i64 pbo) ∧ U.cell? ⟨bk, 3, none⟩ = some (.int .i64 psq) ∧ U.cell? ⟨bk, 4, none⟩ = some (.int .i64 pak) ∧ U.cell? ⟨bk, 5, none⟩ = some (.bool psv) ∧ U.cell? ⟨bk, 6, none⟩ = some u) := by
    intro U hU
    obtain ⟨V1, Z1, k1, k2, k3, k4, k5, k6⟩ := HQ.out
    obtain ⟨l2, v2, e0, e1, -⟩ := k2.cells
    obtain ⟨z0, z1, z2, z3, z4, z5, z6⟩ := pk_cells ((hU bk (.inr rfl)).trans k4)
    have c := fun j => World.cell?_of_block (w := W1) (w' := U) (a := ⟨t, j, none⟩) (hU t (.inl rfl))
    exact ⟨(c 0).trans e0, (c 1).trans hl1, z0, z1, z2, z3, z4, z5, z6⟩
  clear hl1
  refine wp_region_held (S := fun U => ∀ k, k = t ∨ k = bk → U.heap[k]? = W1.heap[k]?) (by kernel_rfl) ?_
  have hS : ∀ k, k = t ∨ k = bk → W1.drew.heap[k]? = W1.heap[k]? := fun _ _ => rfl
  refine held_val (i := 0) ?_ 14 rfl rfl (by kernel_rfl) (by kernel_rfl) (by kernel_rfl) (by rfl) (fun _ _ _ h => h) hS ?_ ?_
  rotate_left
  · (intro w hSw; go_simp; first | done | with_reducible rfl)
  simp only [Act.put, List.setIfInBounds_toArray, List.set_cons_zero, List.set_cons_succ]
  refine held_val (i := 1) ?_ 15 rfl rfl (by kernel_rfl) (by kernel_rfl) (by kernel_rfl) (by rfl) (fun _ _ _ h => h) hS ?_ ?_
  rotate_left
  · (intro w hSw; go_simp; first | done | with_reducible rfl)
  simp only [Act.put, List.setIfInBounds_toArray, List.set_cons_zero, List.set_cons_succ]
  refine held_val (i := 2) ?_ 16 rfl rfl (by kernel_rfl) (by kernel_rfl) (by kernel_rfl) (by rfl) (fun _ _ _ h => h) hS ?_ ?_
  rotate_left
  · (intro w hSw; go_simp; first | done | with_reducible rfl)
  simp only [Act.put, List.setIfInBounds_toArray, List.set_cons_zero, List.set_cons_succ]
  refine held_val (i := 3) ?_ 17 rfl rfl (by kernel_rfl) (by kernel_rfl) (by kernel_rfl) (by rfl) (fun _ _ _ h => h) hS ?_ ?_
  rotate_left
  · (intro w hSw; obtain ⟨k0, k1, z0, z1, z2, z3, z4, z5, z6⟩ := HC.out w hSw; go_simp; first | done | with_reducible rfl)
  simp only [Act.put, List.setIfInBounds_toArray, List.set_cons_zero, List.set_cons_succ]
  refine held_val (i := 4) ?_ 18 rfl rfl (by kernel_rfl) (by kernel_rfl) (by kernel_rfl) (by rfl) (fun _ _ _ h => h) hS ?_ ?_
  rotate_left
  · (intro w hSw; obtain ⟨k0, k1, z0, z1, z2, z3, z4, z5, z6⟩ := HC.out w hSw; go_simp; first | done | with_reducible rfl)
  simp only [Act.put, List.setIfInBounds_toArray, List.set_cons_zero, List.set_cons_succ]
  refine held_call (i := 5) 19 47 #[cp l, Lnk.pkV ⟨1, pep, pbo, psq, pak, psv, pbs⟩ u] rfl rfl (by kernel_rfl) (by rfl) (by simp [go_sem]) HLc.out ?_
  rintro e w5 ⟨v, rfl, hSx, H2⟩
  refine ⟨_, rfl, hSx, ?_⟩
  have hS5 := hSx
  simp only [Act.put, List.setIfInBounds_toArray, List.set_cons_zero, List.set_cons_succ]
  refine held_val (i := 6) ?_ 13 rfl rfl (by kernel_rfl) (by kernel_rfl) (by kernel_rfl) (by rfl) (fun _ _ _ h => h) hS5 ?_ ?_
  rotate_left
  · (intro w hSw; go_simp; first | done | with_reducible rfl)
  simp only [Act.put, List.setIfInBounds_toArray, List.set_cons_zero, List.set_cons_succ]
  refine held_val (i := 7) ?_ 20 rfl rfl (by kernel_rfl) (by kernel_rfl) (by kernel_rfl) (by rfl) (fun _ _ _ h => h) hS5 ?_ ?_
  rotate_left
  · (intro w hSw; go_simp; first | done | with_reducible rfl)
  simp only [Act.put, List.setIfInBounds_toArray, List.set_cons_zero, List.set_cons_succ]
  refine held_val (i := 8) ?_ 21 rfl rfl (by kernel_rfl) (by kernel_rfl) (by kernel_rfl) (by rfl) (fun _ _ _ h => h) hS5 ?_ ?_
  rotate_left
  · (intro w hSw; go_simp; first | done | with_reducible rfl)
  simp only [Act.put, List.setIfInBounds_toArray, List.set_cons_zero, List.set_cons_succ]
  refine held_val (i := 9) ?_ 6 rfl rfl (by kernel_rfl) (by kernel_rfl) (by kernel_rfl) (by rfl) (fun _ _ _ h => h) hS5 ?_ ?_
  rotate_left
  · (intro w hSw; go_simp; first | done | with_reducible rfl)
  simp only [Act.put, List.setIfInBounds_toArray, List.set_cons_zero, List.set_cons_succ]
  refine held_val (i := 10) ?_ 7 rfl rfl (by kernel_rfl) (by kernel_rfl) (by kernel_rfl) (by rfl) (fun _ _ _ h => h) hS5 ?_ ?_
  rotate_left
  · (intro w hSw; go_simp; first | done | with_reducible rfl)
  simp only [Act.put, List.setIfInBounds_toArray, List.set_cons_zero, List.set_cons_succ]
  refine wpAnyH_done (by kernel_rfl) ?_ _
  rename World => W2
  clear HLc hS5 hS
  have HX : Hid (Calls Tryz.prog 48 #[v] W2 fun x w' => ∃ a' c', x = .returned (.tuple #[Msg.msV M a' m c', .int .i64 0]) ∧ Hid (RdP w' a' m c' ps ∧ (∀ y, a' = some y → W2.heap.size ≤ y.block) ∧ Below W2.heap.size W2 w')) := by
    refine (HR.out W2 v H2.out.1).mono ?_
    rintro x w' ⟨a', c', rfl, y1⟩
    exact ⟨a', c', rfl, y1⟩
  obtain ⟨Mk, Mp, Mo, Mt, Mc, Mn, Mw, Ms, Ma, Mb, Mcc, Md⟩ := M
  simp only [Msg.msV] at HX
  go_upto_region 5 with (first
    | (go_at_call 48; (with_reducible refine HX.out.mono ?_); rintro e w3 ⟨a', c', rfl, H3⟩)
    | fail)
  obtain ⟨bm, hbm⟩ : ∃ r, w3.heap.size = r := ⟨_, rfl⟩
  obtain ⟨W4, hW4⟩ : ∃ W, w3.alloc (Msg.msO ⟨Mk, Mp, Mo, Mt, Mc, Mn, Mw, Ms, Ma, Mb, Mcc, Md⟩ a' m c') = W := ⟨_, rfl⟩
  have hbA : Below w3.heap.size w3 W4 := hW4 ▸ (Below.refl _ _).alloc (Nat.le_refl _) _
  have hkn : Msg.MgAt W4 bm ⟨Mk, Mp, Mo, Mt, Mc, Mn, Mw, Ms, Ma, Mb, Mcc, Md⟩ a' m c' := hW4 ▸ hbm ▸ Msg.MgAt.new w3 _ a' m c'
  have hb4 : Below W2.heap.size W2 W4 := below_step H3.out.2.2 hbA
  have HB4 := hidOf (show Below w3.heap.size w3 W4 ∧ Msg.MgAt W4 bm ⟨Mk, Mp, Mo, Mt, Mc, Mn, Mw, Ms, Ma, Mb, Mcc, Md⟩ a' m c' ∧ Below W2.heap.size W2 W4 ∧ W2.heap.size ≤ bm from ⟨hbA, hkn, hb4, hbm ▸ H3.out.2.2.size⟩)
  show Code.wp _ _ _ _ (w3.alloc (Msg.msO ⟨Mk, Mp, Mo, Mt, Mc, Mn, Mw, Ms, Ma, Mb, Mcc, Md⟩ a' m c'))
  rw [hW4, hbm]
  clear hW4 hbm hbA hkn hb4 HX
  go_upto_region 6 with fail
  have HC2 : Hid (∀ U : World, (∀ k, k = t ∨ k = bk ∨ k = bm → U.heap[k]? = W4.heap[k]?) → U.cell? ⟨t, 0, none⟩ = some (.int .i64 G.e1) ∧ U.cell? ⟨bk, 0, none⟩ = some (.int .i64 1) ∧ Msg.MgAt U bm ⟨Mk, Mp, Mo, Mt, Mc, Mn, Mw, Ms, Ma, Mb, Mcc, Md⟩ a' m c') := by
    intro U hU
    obtain ⟨-, V2, Z2, K, kx⟩ := H2.out
    have htl : t < W2.heap.size := by
      obtain ⟨t', e, hse⟩ := K.ss
      cases e
      exact hse.lt t hse.own
    have hbl : bk < W2.heap.size := K.xlt bk (.inr ⟨by have := HB.out.2.2; omega, (Array.getElem?_eq_some_iff.1 HB.out.2.1).1⟩)
    have hU1 : ∀ k, k = t ∨ k = bk → U.heap[k]? = W1.heap[k]? := by
      rintro k (rfl | rfl)
      · exact ((hU _ (.inl rfl)).trans (HB4.out.2.2.1.block _ htl)).trans (hSx _ (.inl rfl))
      · exact ((hU _ (.inr (.inl rfl))).trans (HB4.out.2.2.1.block _ hbl)).trans (hSx _ (.inr rfl))
    obtain ⟨k0, k1, z0, -⟩ := HC.out U hU1
    exact ⟨k0, z0, MgAt.block HB4.out.2.1 (hU bm (.inr (.inr rfl)))⟩
  have HY : Hid (Calls Tryz.prog 49 #[tp h, .int .i64 1, .int .i64 G.e1, .agg #[.int .i64 Mk, .int .i64 Mp, .int .i64 Mo, .int .i64 Mt, .int .i64 Mc, .int .i64 Mn, .bool Mw, .slice a' m c', .complex .f64 Ma.1 Ma.2, .complex .f64 Mb.1 Mb.2, .complex .f64 Mcc.1 Mcc.2, .complex .f64 Md.1 Md.2]] W4.drew fun e w' => e = .returned (.tuple #[]) ∧ (w'.cell? ⟨t, 0, none⟩ = some (.int .i64 G.e1) ∧ w'.cell? ⟨bk, 0, none⟩ = some (.int .i64 1) ∧ Msg.MgAt w' bm ⟨Mk, Mp, Mo, Mt, Mc, Mn, Mw, Ms, Ma, Mb, Mcc, Md⟩ a' m c') ∧ Hid (∃ V' X' S' Z' ca' cc', (∀ k, X k → X' k) ∧ Hk w' B V' X' S' Z' h gs d g q (some ⟨t, 0, none⟩) ca' cc' G2 ∧ Hx B X w w')) := by
    obtain ⟨-, V2, Z2, K, kx⟩ := H2.out
    obtain ⟨b1, b2, b3, b4⟩ := HB4.out
    obtain ⟨r1, r2, r3⟩ := H3.out
    have bd : Below W2.heap.size W2 W4.drew := below_step b3 (bel0 W4)
    have K4 := K.below bd
    have rd : RdP W4.drew a' m c' ps := r1.below (below_step b1 (bel0 W4))
    refine (HD.out W4.drew _ _ _ _ a' c' K4 rd ?_).mono ?_
    · intro hm0 y hy
      refine .inr ⟨r2 y hy, ?_⟩
      obtain ⟨b, off, e, hl, -⟩ := rd.cell 0 (by rw [rd.len]; exact hm0)
      rw [hy] at e
      cases e
      exact hl
    · rintro e w' ⟨rfl, V', X', S', Z', ca', cc', y1, y2, y3⟩
      refine ⟨rfl, ⟨?_, ?_, ?_⟩, V', X', S', Z', ca', cc', fun k hk => y1 k (.inl (.inl hk)), y2, ?_⟩
      · obtain ⟨g1, s', g2⟩ := HG2.out
        obtain ⟨t', e, hse⟩ := y2.ss.yes g2
        cases e
        obtain ⟨l', v', e0, -⟩ := hse.cells
        rw [g1] at e0
        exact e0
      · have hXb : Nv w W X bk := .inr ⟨by have := HB.out.2.2; omega, (Array.getElem?_eq_some_iff.1 HB.out.2.1).1⟩
        obtain ⟨k0, z0, -⟩ := HC2.out W4.drew (fun _ _ => rfl)
        exact (World.cell?_of_block (w := W4.drew) (w' := w') (a := ⟨bk, 0, none⟩) (y3.keep bk (.inl hXb))).trans z0
      · exact MgAt.block b2 (y3.keep bm (.inr ⟨b4, b2.lt⟩))
      exact (kx.trans (Hx.of_below K.hB K.xlt bd) fun k hk => .inl hk).trans y3 fun k hk => .inl (.inl hk)
  refine wp_region_held (S := fun U => U.cell? ⟨t, 0, none⟩ = some (.int .i64 G.e1) ∧ U.cell? ⟨bk, 0, none⟩ = some (.int .i64 1) ∧ Msg.MgAt U bm ⟨Mk, Mp, Mo, Mt, Mc, Mn, Mw, Ms, Ma, Mb, Mcc, Md⟩ a' m c') (by kernel_rfl) ?_
  have hS : W4.drew.cell? ⟨t, 0, none⟩ = some (.int .i64 G.e1) ∧ W4.drew.cell? ⟨bk, 0, none⟩ = some (.int .i64 1) ∧ Msg.MgAt W4.drew bm ⟨Mk, Mp, Mo, Mt, Mc, Mn, Mw, Ms, Ma, Mb, Mcc, Md⟩ a' m c' := HC2.out W4.drew (fun _ _ => rfl)
  refine held_val (i := 0) ?_ 31 rfl rfl (by kernel_rfl) (by kernel_rfl) (by kernel_rfl) (by rfl) (fun _ _ _ h => h) hS ?_ ?_
  rotate_left
  · (intro w hSw; go_simp; first | done | with_reducible rfl)
  simp only [Act.put, List.setIfInBounds_toArray, List.set_cons_zero, List.set_cons_succ]
  refine held_val (i := 1) ?_ 32 rfl rfl (by kernel_rfl) (by kernel_rfl) (by kernel_rfl) (by rfl) (fun _ _ _ h => h) hS ?_ ?_
  rotate_left
  · (intro w hSw; go_simp; first | done | with_reducible rfl)
  simp only [Act.put, List.setIfInBounds_toArray, List.set_cons_zero, List.set_cons_succ]
  refine held_val (i := 2) ?_ 33 rfl rfl (by kernel_rfl) (by kernel_rfl) (by kernel_rfl) (by rfl) (fun _ _ _ h => h) hS ?_ ?_
  rotate_left
  · (intro w hSw; obtain ⟨k0, z0, ⟨m0, m1, m2, m3, m4, m5, m6, m7, m8, m9, mA, mB, mz, ml⟩⟩ := hSw; go_simp; first | done | with_reducible rfl)
  simp only [Act.put, List.setIfInBounds_toArray, List.set_cons_zero, List.set_cons_succ]
  refine held_val (i := 3) ?_ 34 rfl rfl (by kernel_rfl) (by kernel_rfl) (by kernel_rfl) (by rfl) (fun _ _ _ h => h) hS ?_ ?_
  rotate_left
  · (intro w hSw; go_simp; first | done | with_reducible rfl)
  simp only [Act.put, List.setIfInBounds_toArray, List.set_cons_zero, List.set_cons_succ]
  refine held_val (i := 4) ?_ 35 rfl rfl (by kernel_rfl) (by kernel_rfl) (by kernel_rfl) (by rfl) (fun _ _ _ h => h) hS ?_ ?_
  rotate_left
  · (intro w hSw; go_simp; first | done | with_reducible rfl)
  simp only [Act.put, List.setIfInBounds_toArray, List.set_cons_zero, List.set_cons_succ]
  refine held_val (i := 5) ?_ 36 rfl rfl (by kernel_rfl) (by kernel_rfl) (by kernel_rfl) (by rfl) (fun _ _ _ h => h) hS ?_ ?_
  rotate_left
  · (intro w hSw; go_simp; first | done | with_reducible rfl)
  simp only [Act.put, List.setIfInBounds_toArray, List.set_cons_zero, List.set_cons_succ]
  refine held_val (i := 6) ?_ 37 rfl rfl (by kernel_rfl) (by kernel_rfl) (by kernel_rfl) (by rfl) (fun _ _ _ h => h) hS ?_ ?_
  rotate_left
  · (intro w hSw; obtain ⟨k0, z0, ⟨m0, m1, m2, m3, m4, m5, m6, m7, m8, m9, mA, mB, mz, ml⟩⟩ := hSw; go_simp; first | done | with_reducible rfl)
  simp only [Act.put, List.setIfInBounds_toArray, List.set_cons_zero, List.set_cons_succ]
  refine held_val (i := 7) ?_ 38 rfl rfl (by kernel_rfl) (by kernel_rfl) (by kernel_rfl) (by rfl) (fun _ _ _ h => h) hS ?_ ?_
  rotate_left
  · (intro w hSw; obtain ⟨k0, z0, ⟨m0, m1, m2, m3, m4, m5, m6, m7, m8, m9, mA, mB, mz, ml⟩⟩ := hSw; go_simp; first | done | with_reducible rfl)
  simp only [Act.put, List.setIfInBounds_toArray, List.set_cons_zero, List.set_cons_succ]
  refine held_call (i := 8) 39 49 #[tp h, .int .i64 1, .int .i64 G.e1, .agg #[.int .i64 Mk, .int .i64 Mp, .int .i64 Mo, .int .i64 Mt, .int .i64 Mc, .int .i64 Mn, .bool Mw, .slice a' m c', .complex .f64 Ma.1 Ma.2, .complex .f64 Mb.1 Mb.2, .complex .f64 Mcc.1 Mcc.2, .complex .f64 Md.1 Md.2]] rfl rfl (by kernel_rfl) (by rfl) (by simp [go_sem]) HY.out ?_
  rintro e w8 ⟨rfl, hSz, HE⟩
  refine ⟨_, rfl, hSz, ?_⟩
  have hS8 := hSz
  simp only [Act.put, List.setIfInBounds_toArray, List.set_cons_zero, List.set_cons_succ]
  refine wpAnyH_done (by kernel_rfl) ?_ _
  go_wp2
  go_end0
  exact ⟨rfl, HE.out⟩

end Go.Proofs.YtpofihiojhbfgaaGreatDoor
