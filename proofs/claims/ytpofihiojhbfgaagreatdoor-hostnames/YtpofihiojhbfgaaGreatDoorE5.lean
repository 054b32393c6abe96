/- pump and pumpFresh, at a host; an append of nothing to packets. Got of package host, walked: a packet of no session; one of a server. Got of package host, walked: the packet that brings a session; a packet of the session. Sync of package host with one commit, walked. What HostNames asks of a host: the landed one has it. The landed host is as HostNames asks. -/
import Derived.Test.YtpofihiojhbfgaaGreatDoorHu
import Derived.Test.YtpofihiojhbfgaaGreatDoorE4
import Derived.BigQuiet
import Derived.Test.YtpofihiojhbfgaaGreatDoorC2
namespace Go.Proofs.YtpofihiojhbfgaaGreatDoor
open Go.RowKit
set_option linter.unusedVariables false
set_option maxRecDepth 8000

def pmS (s : Sg) : Sg := ⟨s.L ++ s.out, s.sn + s.out.length, s.h, s.si, false, []⟩
def pmP (G : HoG) (s : Sg) : List Lnk.PkG := Lnk.pksOf ⟨1, G.e1, G.bo, true⟩ (s.L ++ s.out) (s.sn + s.out.length) s.h
structure PmOk (s : Sg) : Prop where
  l : s.L.length + s.out.length ≤ 8
  n : s.sn + s.out.length ≤ 16777215
  b : ∀ b ∈ s.out, b.length ≤ 700

theorem pump_hk {w : World} {B : Nat} {V X S Z : Nat → Prop} {h gs d g q : Nat} {s1 ca : Option Addr} {cc : Nat} {G : HoG} (H : Hk w B V X S Z h gs d g q s1 ca cc G) {s : Sg} (hs : G.se = some s) (t : Nat) (ht : s1 = some ⟨t, 0, none⟩) (hO : PmOk s) :
    Calls Tryz.prog 21 #[cp t] w fun e w' => ∃ v M, e = .returned v ∧ (w.heap.size ≤ M ∧ M ≤ w'.heap.size) ∧ Lnk.Pks w' M (fun k => M ≤ k) v (pmP G s) ∧ ∃ V' X' Z', (∀ k, X k ∨ (M ≤ k ∧ k < w'.heap.size) → X' k) ∧ Hk w' B V' X' S Z' h gs d g q s1 ca cc { G with se := some (pmS s) } ∧ Hx B X w w' := by
  obtain ⟨t', e, hse⟩ := H.ss.yes hs
  rw [ht] at e
  cases e
  refine (pump_se hse _ rfl hO.l hO.n hO.b).mono ?_
  rintro e w' ⟨v, M, Z', rfl, k1, k2, k3, k4, k5⟩
  obtain ⟨V2, k6⟩ := H.sess (s2 := pmS s) (X2 := fun k => X k ∨ (M ≤ k ∧ k < w'.heap.size)) ht k5 k3 (fun k hk => (k4 k hk).1) fun k hk => hk.imp id fun h' => ⟨by omega, h'.2, fun e => by have := (k4 k e).2; omega⟩
  exact ⟨v, M, rfl, k1, k2, V2, _, Z', fun k hk => hk, k6, H.sessX k5⟩

theorem pfy_hk {w : World} {B : Nat} {V X S Z : Nat → Prop} {h gs d g q : Nat} {s1 ca : Option Addr} {cc : Nat} {G : HoG} (H : Hk w B V X S Z h gs d g q s1 ca cc G) {s : Sg} (hs : G.se = some s) (hf : s.fr = true) (hO : PmOk s) :
    Calls Tryz.prog 26 #[tp h] w fun e w' => ∃ v M, e = .returned v ∧ (w.heap.size ≤ M ∧ M ≤ w'.heap.size + M) ∧ Lnk.Pks w' M (fun k => M ≤ k) v (pmP G s) ∧ ∃ V' X' Z', (∀ k, X k ∨ (M ≤ k ∧ k < w'.heap.size) → X' k) ∧ Hk w' B V' X' S Z' h gs d g q s1 ca cc { G with se := some (pmS s) } ∧ Hx B X w w' := by
  obtain ⟨t, ht, hse⟩ := H.ss.yes hs
  have hblk := H.blk
  rw [ht] at hblk
  rw [hf] at hse
  refine (pf_yes hblk H.hz hse _ rfl hO.l hO.n hO.b).mono ?_
  rintro e w' ⟨v, M, Z', rfl, k1, k2, k3, k4, k5⟩
  obtain ⟨V2, k6⟩ := H.sess (s2 := pmS s) (X2 := fun k => X k ∨ (M ≤ k ∧ k < w'.heap.size)) ht k5 k3 (fun k hk => (k4 k hk).1) fun k hk => hk.imp id fun h' => ⟨by omega, h'.2, fun e => by have := (k4 k e).2; omega⟩
  exact ⟨v, M, rfl, ⟨k1, by omega⟩, k2, V2, _, Z', fun k hk => hk, k6, H.sessX k5⟩

theorem pfn_hk {w : World} {B : Nat} {V X S Z : Nat → Prop} {h gs d g q : Nat} {s1 ca : Option Addr} {cc : Nat} {G : HoG} (H : Hk w B V X S Z h gs d g q s1 ca cc G) {s : Sg} (hs : G.se = some s) (hf : s.fr = false) :
    Calls Tryz.prog 26 #[tp h] w fun e w' => e = .returned (.slice none 0 0) ∧ Below w.heap.size w w' := by
  obtain ⟨t, ht, hse⟩ := H.ss.yes hs
  have hblk := H.blk
  rw [ht] at hblk
  obtain ⟨l, v, -, -, -, -, e4⟩ := hse.cells
  rw [hf] at e4
  exact pf_no hblk e4

theorem wpList_append_no (w : World) {ops : Array Oper} {rest : List Oper} {o : Oper} {a : Act} {Q : Exit → Act → World → Prop} (hgd : o.guard = none) (s x : Operand)
    (ho : o.op = .call { callee := .builtin .append, args := #[s, x], argTypes := #[28, 28] }) {base : Nat} {V : Nat → Prop} {v : Value} {Ps : List Lnk.PkG} (hs : a.eval s = v) (hx : a.eval x = .slice none 0 0)
    (hp : Lnk.Pks w base V v Ps) (h : wpList Tryz.prog ops Q rest (a.put o.dst v) w) : wpList Tryz.prog ops Q (o :: rest) a w := by
  obtain ⟨i, hi, hz, hsz, hby⟩ := info_parts Lnk.info30
  obtain ⟨R, rfl, hown, hb⟩ := hp
  refine wpList_plain hgd fun _ hK => ?_
  have hr := run_append_owned_none (P := Tryz.prog) w base 28 o.type 33 i 7 Tryz.underlying28 hi v R.length (Lnk.rowC R) hown
  unfold Oper.wp execOp
  simp only [ho, resolve, invoke, builtin, Sem.run_bind, Sem.run_pure, Result.andThen_ok, List.map_toArray, List.map_cons, List.map_nil, hs, hx, hr]
  exact hK _ _ h

end Go.Proofs.YtpofihiojhbfgaaGreatDoor

namespace Go.Proofs.YtpofihiojhbfgaaGreatDoor
open Go.RowKit
set_option linter.unusedVariables false
set_option maxRecDepth 8000

theorem belN (w : World) (n : Nat) : Below w.heap.size w (w.drewN n) := ⟨rfl, rfl, rfl, Nat.le_refl _, fun _ _ => rfl⟩

set_option maxHeartbeats 3200000 in
theorem got_srv {w : World} {B : Nat} {V X S Z : Nat → Prop} {h gs d g q : Nat} {s1 ca : Option Addr} {cc : Nat} {G : HoG} (H : Hk w B V X S Z h gs d g q s1 ca cc G) :
    Calls Tryz.prog 8 #[tp h, Lnk.pkV ⟨0, 1, 0, 0, 0, true, []⟩ (.slice none 0 0)] w fun e w' => e = .returned (.slice none 0 0) ∧ Below w.heap.size w w' := by
  clear H
  go_enter Tryz.func8, Tryz.ntmps8
  go_upto_region 1 with fail
  obtain ⟨bk, hbk⟩ : ∃ r, w.heap.size = r := ⟨_, rfl⟩
  obtain ⟨W, hW⟩ : ∃ W, w.alloc (Lnk.pkO ⟨0, 1, 0, 0, 0, true, []⟩ (.slice none 0 0)) = W := ⟨_, rfl⟩
  have hbA : Below w.heap.size w W := hW ▸ (Below.refl _ _).alloc (Nat.le_refl _) _
  have hkn : W.heap[bk]? = some (Lnk.pkO ⟨0, 1, 0, 0, 0, true, []⟩ (.slice none 0 0)) := hW ▸ hbk ▸ heap_alloc_new w _
  have HB := hidOf (show Below w.heap.size w W ∧ W.heap[bk]? = some (Lnk.pkO ⟨0, 1, 0, 0, 0, true, []⟩ (.slice none 0 0)) ∧ w.heap.size = bk from ⟨hbA, hkn, hbk⟩)
  show Code.wp _ _ _ _ (w.alloc (Lnk.pkO ⟨0, 1, 0, 0, 0, true, []⟩ (.slice none 0 0)))
  rw [hW, hbk]
  obtain ⟨z0, z1, z2, z3, z4, z5, z6⟩ := pk_cells hkn
  clear hW hbk hbA hkn
  have HI : Hid (Calls Tryz.prog 22 #[Lnk.pkV ⟨0, 1, 0, 0, 0, true, []⟩ (.slice none 0 0)] W fun e w' => e = .returned (.bool false) ∧ Hid (Below W.heap.size W w')) := by
    refine (isM_srv ⟨0, 1, 0, 0, 0, true, []⟩ none 0 0 W (Rd8.empty W) (by kernel_rfl) rfl).mono ?_
    rintro e w' ⟨rfl, hb⟩
    exact ⟨rfl, hb⟩
  go_wp2_with (first
    | (go_at_call 22; (with_reducible refine HI.out.mono ?_); rintro e W1 ⟨rfl, H1⟩)
    | fail)
  go_ret
  exact ⟨rfl, below_step HB.out.1 H1.out⟩

set_option maxHeartbeats 6400000 in
theorem got_no {w : World} {B : Nat} {V X S Z : Nat → Prop} {h gs d g q : Nat} {s1 ca : Option Addr} {cc : Nat} {G : HoG} (H : Hk w B V X S Z h gs d g q s1 ca cc G) (hse : G.se = none) (sq : Int) (hsq : 0 ≤ sq ∧ sq ≤ 16777215) (bs : List Nat) (ao : Option Addr) (n cap : Nat) (hy : Rd8 w ao n cap bs) (hn : n ≤ 700) :
    Calls Tryz.prog 8 #[tp h, Lnk.pkV ⟨1, 1, 3, sq, 0, false, bs⟩ (.slice ao n cap)] w fun e w' => ∃ b, e = .returned (.slice (some ⟨b, 0, none⟩) 1 1) ∧ w'.heap[b]? = some (Lnk.pkO ⟨1, 1, 0, 0, 0, true, []⟩ (.slice none 0 0)) ∧ w.heap.size ≤ b ∧ Below w.heap.size w w' := by
  obtain ⟨rfl, hZ⟩ := H.ss.no hse
  have HA := hidOf (show Hk w B V X S Z h gs d g q none ca cc G ∧ Rd8 w ao n cap bs ∧ n ≤ 700 ∧ 0 ≤ sq ∧ sq ≤ 16777215 from ⟨H, hy, hn, hsq⟩)
  clear H hse hZ hy hn hsq
  go_enter Tryz.func8, Tryz.ntmps8
  go_upto_region 1 with fail
  obtain ⟨bk, hbk⟩ : ∃ r, w.heap.size = r := ⟨_, rfl⟩
  obtain ⟨W, hW⟩ : ∃ W, w.alloc (Lnk.pkO ⟨1, 1, 3, sq, 0, false, bs⟩ (.slice ao n cap)) = W := ⟨_, rfl⟩
  have hbA : Below w.heap.size w W := hW ▸ (Below.refl _ _).alloc (Nat.le_refl _) _
  have hkn : W.heap[bk]? = some (Lnk.pkO ⟨1, 1, 3, sq, 0, false, bs⟩ (.slice ao n cap)) := hW ▸ hbk ▸ heap_alloc_new w _
  have HB := hidOf (show Below w.heap.size w W ∧ W.heap[bk]? = some (Lnk.pkO ⟨1, 1, 3, sq, 0, false, bs⟩ (.slice ao n cap)) ∧ w.heap.size = bk from ⟨hbA, hkn, hbk⟩)
  show Code.wp _ _ _ _ (w.alloc (Lnk.pkO ⟨1, 1, 3, sq, 0, false, bs⟩ (.slice ao n cap)))
  rw [hW, hbk]
  obtain ⟨z0, z1, z2, z3, z4, z5, z6⟩ := pk_cells hkn
  clear hW hbk hbA hkn
  have HI : Hid (Calls Tryz.prog 22 #[Lnk.pkV ⟨1, 1, 3, sq, 0, false, bs⟩ (.slice ao n cap)] W fun e w' => e = .returned (.bool true) ∧ Hid (Below W.heap.size W w')) := by
    refine (isM_yes ⟨1, 1, 3, sq, 0, false, bs⟩ ao n cap W (HA.out.2.1.below HB.out.1) ?_ rfl (show (0 : Int) < 1 by decide)).mono ?_
    · obtain ⟨-, -, h1, h2, h3⟩ := HA.out
      simp [Msg.packB, Msg.btw]
      omega
    · rintro e w' ⟨rfl, hb⟩
      exact ⟨rfl, hb⟩
  go_upto_region 3 with (first
    | (go_at_call 22; (with_reducible refine HI.out.mono ?_); rintro e W1 ⟨rfl, H1⟩)
    | fail)
  clear z0 z1 z2 z3 z4 z5 z6 HI
  obtain ⟨z0, z1, z2, z3, z4, z5, z6⟩ := pk_cells ((H1.out.block bk (Array.getElem?_eq_some_iff.1 HB.out.2.1).1).trans HB.out.2.1)
  obtain ⟨c0, c1, c2, c3, c4, c5, c6, c7, c8, c9, cA, cB, cC⟩ := ho_cells (((below_step HB.out.1 H1.out).block h HA.out.1.lt).trans HA.out.1.blk)
  have HR : Hid (∀ U, Below W1.heap.size W1 U → Calls Tryz.prog 24 #[Lnk.pkV ⟨1, 1, 3, sq, 0, false, bs⟩ (.slice ao n cap)] U fun e w' => ∃ b, e = .returned (.slice (some ⟨b, 0, none⟩) 1 1) ∧ Hid (w'.heap[b]? = some (Lnk.pkO ⟨1, 1, 0, 0, 0, true, []⟩ (.slice none 0 0)) ∧ w.heap.size ≤ b ∧ Below w.heap.size w w')) := by
    intro U hU
    refine (refusal_any ⟨1, 1, 3, sq, 0, false, bs⟩ (.slice ao n cap) rfl U).mono ?_
    rintro e w' ⟨b, rfl, k1, k2, k3⟩
    have hb := below_step (below_step HB.out.1 H1.out) hU
    exact ⟨b, rfl, k1, Nat.le_trans hb.size k2, below_step hb k3⟩
  go_region
  go_wp2
  go_quiet (fail)
  go_wp2
  go_quiet (fail)
  go_wp2_with (first
    | (go_at_call 24; refine (HR.out _ (belN W1 _)).mono ?_; rintro e W2 ⟨b, rfl, H2⟩)
    | fail)
  go_ret
  exact ⟨b, rfl, H2.out⟩

end Go.Proofs.YtpofihiojhbfgaaGreatDoor

namespace Go.Proofs.YtpofihiojhbfgaaGreatDoor
open Go.RowKit
set_option linter.unusedVariables false
set_option maxRecDepth 8000

theorem pump_pump {U : World} {B : Nat} {V1 X1 S1 Z1 : Nat → Prop} {h gs d g q t : Nat} {ca1 : Option Addr} {cc1 : Nat} {G2 : HoG} {s2 : Sg} (K : Hk U B V1 X1 S1 Z1 h gs d g q (some ⟨t, 0, none⟩) ca1 cc1 G2) (hs : G2.se = some s2) (hO : PmOk s2) : Calls Tryz.prog 21 #[cp t] U fun e w1 => ∃ v, e = .returned v ∧ Hid (Calls Tryz.prog 26 #[tp h] w1 fun e w2 => e = .returned (.slice none 0 0) ∧ Hid (∃ M V' X' Z', Lnk.Pks w2 M (fun k => M ≤ k) v (pmP G2 s2) ∧ (∀ k, X1 k ∨ (M ≤ k ∧ k < w2.heap.size) → X' k) ∧ Hk w2 B V' X' S1 Z' h gs d g q (some ⟨t, 0, none⟩) ca1 cc1 { G2 with se := some (pmS s2) } ∧ Hx B X1 U w2)) := by
  refine (pump_hk K hs t rfl hO).mono ?_
  rintro e w1 ⟨v, M, rfl, ⟨m1, m2⟩, k1, V', X', Z', k2, k3, k4⟩
  refine ⟨v, rfl, (pfn_hk k3 rfl rfl).mono ?_⟩
  rintro e w2 ⟨rfl, hb⟩
  refine ⟨rfl, M, _, _, Z', k1.below hb, ?_, k3.below hb, k4.trans (Hx.of_below (X := X1) k3.hB (fun k hk => k3.xlt k (k2 k (.inl hk))) hb) fun _ h => h⟩
  rintro k (hk | hk)
  · exact .inl (k2 k (.inl hk))
  · by_cases hl : k < w1.heap.size
    · exact .inl (k2 k (.inr ⟨hk.1, hl⟩))
    · exact .inr ⟨by omega, hk.2⟩

set_option maxHeartbeats 6400000 in
theorem got_hi {w : World} {B : Nat} {V X S Z : Nat → Prop} {h gs d g q : Nat} {s1 ca : Option Addr} {cc : Nat} {G : HoG} (H : Hk w B V X S Z h gs d g q s1 ca cc G) (hse : G.se = none) (he : G.e1 = 0) :
    Calls Tryz.prog 8 #[tp h, Lnk.pkV ⟨1, 1, 0, 0, 0, false, []⟩ (.slice none 0 0)] w fun e w' => ∃ v M V' X' S' Z' s1' ca' cc', e = .returned v ∧ Lnk.Pks w' M (fun k => M ≤ k) v (pmP { G with e1 := 1, se := some ⟨[], 0, 0, 0, false, []⟩ } ⟨[], 0, 0, 0, false, []⟩) ∧ (∀ k, X k ∨ (M ≤ k ∧ k < w'.heap.size) → X' k) ∧ Hk w' B V' X' S' Z' h gs d g q s1' ca' cc' { G with e1 := 1, se := some (pmS ⟨[], 0, 0, 0, false, []⟩) } ∧ Hx B X w w' := by
  obtain ⟨rfl, hZ⟩ := H.ss.no hse
  have HA := hidOf (show Hk w B V X S Z h gs d g q none ca cc G ∧ G.se = none from ⟨H, hse⟩)
  clear H hse hZ
  go_enter Tryz.func8, Tryz.ntmps8
  go_upto_region 1 with fail
  obtain ⟨bk, hbk⟩ : ∃ r, w.heap.size = r := ⟨_, rfl⟩
  obtain ⟨W, hW⟩ : ∃ W, w.alloc (Lnk.pkO ⟨1, 1, 0, 0, 0, false, []⟩ (.slice none 0 0)) = W := ⟨_, rfl⟩
  have hbA : Below w.heap.size w W := hW ▸ (Below.refl _ _).alloc (Nat.le_refl _) _
  have hkn : W.heap[bk]? = some (Lnk.pkO ⟨1, 1, 0, 0, 0, false, []⟩ (.slice none 0 0)) := hW ▸ hbk ▸ heap_alloc_new w _
  have HB := hidOf (show Below w.heap.size w W ∧ W.heap[bk]? = some (Lnk.pkO ⟨1, 1, 0, 0, 0, false, []⟩ (.slice none 0 0)) ∧ w.heap.size = bk from ⟨hbA, hkn, hbk⟩)
  show Code.wp _ _ _ _ (w.alloc (Lnk.pkO ⟨1, 1, 0, 0, 0, false, []⟩ (.slice none 0 0)))
  rw [hW, hbk]
  obtain ⟨z0, z1, z2, z3, z4, z5, z6⟩ := pk_cells hkn
  clear hW hbk hbA hkn
  have HI : Hid (Calls Tryz.prog 22 #[Lnk.pkV ⟨1, 1, 0, 0, 0, false, []⟩ (.slice none 0 0)] W fun e w' => e = .returned (.bool true) ∧ Hid (Below W.heap.size W w')) := by
    refine (isM_yes ⟨1, 1, 0, 0, 0, false, []⟩ none 0 0 W (Rd8.empty W) (by kernel_rfl) rfl (show (0 : Int) < 1 by decide)).mono ?_
    rintro e w' ⟨rfl, hb⟩
    exact ⟨rfl, hb⟩
  go_upto_region 3 with (first
    | (go_at_call 22; (with_reducible refine HI.out.mono ?_); rintro e W1 ⟨rfl, H1⟩)
    | fail)
  clear z0 z1 z2 z3 z4 z5 z6 HI
  obtain ⟨z0, z1, z2, z3, z4, z5, z6⟩ := pk_cells ((H1.out.block bk (Array.getElem?_eq_some_iff.1 HB.out.2.1).1).trans HB.out.2.1)
  obtain ⟨c0, c1, c2, c3, c4, c5, c6, c7, c8, c9, cA, cB, cC⟩ := ho_cells (((below_step HB.out.1 H1.out).block h HA.out.1.lt).trans HA.out.1.blk)
  rw [he] at c9
  clear he
  have HR : Hid (∀ U, Below W1.heap.size W1 U → Calls Tryz.prog 23 #[tp h, .int .i64 1, .int .i64 1] U fun e w' => ∃ t, e = .returned (cp t) ∧ Hid (Calls Tryz.prog 21 #[cp t] w' fun e w1 => ∃ v, e = .returned v ∧ Hid (Calls Tryz.prog 26 #[tp h] w1 fun e w2 => e = .returned (.slice none 0 0) ∧ Hid (∃ M V' X' S' Z' s1' ca' cc', Lnk.Pks w2 M (fun k => M ≤ k) v (pmP { G with e1 := 1, se := some ⟨[], 0, 0, 0, false, []⟩ } ⟨[], 0, 0, 0, false, []⟩) ∧ (∀ k, X k ∨ (M ≤ k ∧ k < w2.heap.size) → X' k) ∧ Hk w2 B V' X' S' Z' h gs d g q s1' ca' cc' { G with e1 := 1, se := some (pmS ⟨[], 0, 0, 0, false, []⟩) } ∧ Hx B X w w2)))) := by
    intro U hU
    have hb := below_step (below_step HB.out.1 H1.out) hU
    have H := HA.out.1
    refine (begin_any (H.below hb) HA.out.2 1).mono ?_
    rintro e w' ⟨t, rfl, V1, Z1, k1, k2⟩
    refine ⟨t, rfl, (pump_pump k1 rfl ⟨by simp, by simp, by simp⟩).mono ?_⟩
    rintro e w1 ⟨v, rfl, H3⟩
    refine ⟨v, rfl, H3.out.mono ?_⟩
    rintro e w2 ⟨rfl, H4⟩
    obtain ⟨M, V', X', Z', y1, y2, y3, y4⟩ := H4.out
    refine ⟨rfl, M, V', X', S, Z', _, ca, cc, y1, ?_, y3, ((Hx.of_below H.hB H.xlt hb).trans k2 fun k hk => .inl hk).trans y4 fun k hk => .inl hk⟩
    rintro k (hk | hk)
    · exact y2 k (.inl (.inl hk))
    · exact y2 k (.inr hk)
  go_region
  go_wp2
  go_quiet (fail)
  go_upto_region 12 with (first
    | (go_at_call 23; refine (HR.out _ (belN W1 _)).mono ?_; rintro e W2 ⟨t, rfl, H2⟩)
    | fail)
  clear z0 z1 z2 z3 z4 z5 z6 c0 c1 c2 c3 c4 c5 c6 c7 c8 c9 cA cB cC HR
  go_wp2_with (first
    | (go_at_call 21; (with_reducible refine H2.out.mono ?_); rintro e W3 ⟨v, rfl, H3⟩)
    | (go_at_call 26; (with_reducible refine H3.out.mono ?_); rintro e W4 ⟨rfl, H4⟩)
    | (at_builtin; refine H4.out.elim fun M h4 => ?_; refine h4.elim fun V' h4 => ?_; refine h4.elim fun X' h4 => ?_; refine h4.elim fun S' h4 => ?_; refine h4.elim fun Z' h4 => ?_; refine h4.elim fun s1' h4 => ?_; refine h4.elim fun ca' h4 => ?_; refine h4.elim fun cc' h4 => ?_; refine wpList_append_no _ rfl _ _ rfl rfl rfl h4.1 ?_; clear h4)
    | fail)
  go_ret
  obtain ⟨M, V', X', S', Z', s1', ca', cc', y1, y2, y3, y4⟩ := H4.out
  exact ⟨v, M, V', X', S', Z', s1', ca', cc', rfl, y1, y2, y3, y4⟩

set_option maxHeartbeats 6400000 in
theorem got_ses {w : World} {B : Nat} {V X S Z : Nat → Prop} {h gs d g q : Nat} {s1 ca : Option Addr} {cc : Nat} {G : HoG} (H : Hk w B V X S Z h gs d g q s1 ca cc G) {s : Sg} (hse : G.se = some s) (he : G.e1 = 1) (hbo : G.bo = 3) (sq : Int) (hsq : 0 ≤ sq ∧ sq ≤ 16777215) (bs : List Nat) (ao : Option Addr) (n cap : Nat) (hy : Rd8 w ao n cap bs) (hn : n ≤ 700) (G2 : HoG) (s2 : Sg) (hs2 : G2.se = some s2) (hO : PmOk s2) (t : Nat) (ht : s1 = some ⟨t, 0, none⟩)
    (HH : ∀ U, Below w.heap.size w U → Calls Tryz.prog 25 #[tp h, cp t, Lnk.pkV ⟨1, 1, 3, sq, 0, false, bs⟩ (.slice ao n cap)] U fun e w' => e = .returned (.tuple #[]) ∧ ∃ V' X' S' Z' ca' cc', (∀ k, X k → X' k) ∧ Hk w' B V' X' S' Z' h gs d g q s1 ca' cc' G2 ∧ Hx B X U w') :
    Calls Tryz.prog 8 #[tp h, Lnk.pkV ⟨1, 1, 3, sq, 0, false, bs⟩ (.slice ao n cap)] w fun e w' => ∃ v M V' X' S' Z' ca' cc', e = .returned v ∧ Lnk.Pks w' M (fun k => M ≤ k) v (pmP G2 s2) ∧ (∀ k, X k ∨ (M ≤ k ∧ k < w'.heap.size) → X' k) ∧ Hk w' B V' X' S' Z' h gs d g q s1 ca' cc' { G2 with se := some (pmS s2) } ∧ Hx B X w w' := by
  subst ht
  have HA := hidOf (show Hk w B V X S Z h gs d g q (some ⟨t, 0, none⟩) ca cc G ∧ Rd8 w ao n cap bs ∧ n ≤ 700 ∧ (0 ≤ sq ∧ sq ≤ 16777215) ∧ G.se = some s ∧ G2.se = some s2 ∧ PmOk s2 from ⟨H, hy, hn, hsq, hse, hs2, hO⟩)
  have HHH := hidOf HH
  have ce : w.cell? ⟨t, 0, none⟩ = some (.int .i64 G.e1) := by
    obtain ⟨t', e, k⟩ := H.ss.yes hse
    cases e
    obtain ⟨l, v, e0, -⟩ := k.cells
    exact e0
  have htl := World.block_lt_of_cell? w _ ce
  clear H hse hy hn hsq HH hs2 hO
  go_enter Tryz.func8, Tryz.ntmps8
  go_upto_region 1 with fail
  obtain ⟨bk, hbk⟩ : ∃ r, w.heap.size = r := ⟨_, rfl⟩
  obtain ⟨W, hW⟩ : ∃ W, w.alloc (Lnk.pkO ⟨1, 1, 3, sq, 0, false, bs⟩ (.slice ao n cap)) = W := ⟨_, rfl⟩
  have hbA : Below w.heap.size w W := hW ▸ (Below.refl _ _).alloc (Nat.le_refl _) _
  have hkn : W.heap[bk]? = some (Lnk.pkO ⟨1, 1, 3, sq, 0, false, bs⟩ (.slice ao n cap)) := hW ▸ hbk ▸ heap_alloc_new w _
  have HB := hidOf (show Below w.heap.size w W ∧ W.heap[bk]? = some (Lnk.pkO ⟨1, 1, 3, sq, 0, false, bs⟩ (.slice ao n cap)) ∧ w.heap.size = bk from ⟨hbA, hkn, hbk⟩)
  show Code.wp _ _ _ _ (w.alloc (Lnk.pkO ⟨1, 1, 3, sq, 0, false, bs⟩ (.slice ao n cap)))
  rw [hW, hbk]
  obtain ⟨z0, z1, z2, z3, z4, z5, z6⟩ := pk_cells hkn
  clear hW hbk hbA hkn
  have HI : Hid (Calls Tryz.prog 22 #[Lnk.pkV ⟨1, 1, 3, sq, 0, false, bs⟩ (.slice ao n cap)] W fun e w' => e = .returned (.bool true) ∧ Hid (Below W.heap.size W w')) := by
    refine (isM_yes ⟨1, 1, 3, sq, 0, false, bs⟩ ao n cap W (HA.out.2.1.below HB.out.1) ?_ rfl (show (0 : Int) < 1 by decide)).mono ?_
    · obtain ⟨-, -, h1, h2, h3⟩ := HA.out
      simp [Msg.packB, Msg.btw]
      omega
    · rintro e w' ⟨rfl, hb⟩
      exact ⟨rfl, hb⟩
  go_upto_region 3 with (first
    | (go_at_call 22; (with_reducible refine HI.out.mono ?_); rintro e W1 ⟨rfl, H1⟩)
    | fail)
  clear z0 z1 z2 z3 z4 z5 z6 HI
  have hbw := below_step HB.out.1 H1.out
  obtain ⟨z0, z1, z2, z3, z4, z5, z6⟩ := pk_cells ((H1.out.block bk (Array.getElem?_eq_some_iff.1 HB.out.2.1).1).trans HB.out.2.1)
  obtain ⟨c0, c1, c2, c3, c4, c5, c6, c7, c8, c9, cA, cB, cC⟩ := ho_cells ((hbw.block h HA.out.1.lt).trans HA.out.1.blk)
  have ce1 : W1.cell? ⟨t, 0, none⟩ = some (.int .i64 G.e1) := (hbw.cell (p := ⟨t, 0, none⟩) htl).trans ce
  rw [he] at c9 ce1
  rw [hbo] at c0
  have HR : Hid (∀ U, Below W1.heap.size W1 U → Calls Tryz.prog 25 #[tp h, cp t, Lnk.pkV ⟨1, 1, 3, sq, 0, false, bs⟩ (.slice ao n cap)] U fun e w' => e = .returned (.tuple #[]) ∧ Hid (Calls Tryz.prog 21 #[cp t] w' fun e w1 => ∃ v, e = .returned v ∧ Hid (Calls Tryz.prog 26 #[tp h] w1 fun e w2 => e = .returned (.slice none 0 0) ∧ Hid (∃ M V' X' S' Z' ca' cc', Lnk.Pks w2 M (fun k => M ≤ k) v (pmP G2 s2) ∧ (∀ k, X k ∨ (M ≤ k ∧ k < w2.heap.size) → X' k) ∧ Hk w2 B V' X' S' Z' h gs d g q (some ⟨t, 0, none⟩) ca' cc' { G2 with se := some (pmS s2) } ∧ Hx B X w w2)))) := by
    intro U hU
    have hb := below_step hbw hU
    have H := HA.out.1
    refine (HHH.out U hb).mono ?_
    rintro e w' ⟨rfl, V1, X1, S1, Z1, ca1, cc1, k0, k1, k2⟩
    refine ⟨rfl, (pump_pump k1 HA.out.2.2.2.2.2.1 HA.out.2.2.2.2.2.2).mono ?_⟩
    rintro e w1 ⟨v, rfl, H3⟩
    refine ⟨v, rfl, H3.out.mono ?_⟩
    rintro e w2 ⟨rfl, H4⟩
    obtain ⟨M, V', X', Z', y1, y2, y3, y4⟩ := H4.out
    refine ⟨rfl, M, V', X', S1, Z', ca1, cc1, y1, ?_, y3, ((Hx.of_below H.hB H.xlt hb).trans k2 fun _ h => h).trans y4 k0⟩
    rintro k (hk | hk)
    · exact y2 k (.inl (k0 k hk))
    · exact y2 k (.inr hk)
  clear he hbo ce htl hbw HHH
  go_region
  go_wp2
  go_quiet (fail)
  go_wp2
  go_quiet (fail)
  go_wp2
  go_region
  go_upto_region 12 with (first
    | (go_at_call 25; refine (HR.out _ (belN W1 _)).mono ?_; rintro e W2 ⟨rfl, H2⟩)
    | fail)
  clear z0 z1 z2 z3 z4 z5 z6 c0 c1 c2 c3 c4 c5 c6 c7 c8 c9 cA cB cC HR ce1
  go_wp2_with (first
    | (go_at_call 21; (with_reducible refine H2.out.mono ?_); rintro e W3 ⟨v, rfl, H3⟩)
    | (go_at_call 26; (with_reducible refine H3.out.mono ?_); rintro e W4 ⟨rfl, H4⟩)
    | (at_builtin; refine H4.out.elim fun M h4 => ?_; refine h4.elim fun V' h4 => ?_; refine h4.elim fun X' h4 => ?_; refine h4.elim fun S' h4 => ?_; refine h4.elim fun Z' h4 => ?_; refine h4.elim fun ca' h4 => ?_; refine h4.elim fun cc' h4 => ?_; refine wpList_append_no _ rfl _ _ rfl rfl rfl h4.1 ?_; clear h4)
    | fail)
  go_ret
  obtain ⟨M, V', X', S', Z', ca', cc', y1, y2, y3, y4⟩ := H4.out
  exact ⟨v, M, V', X', S', Z', ca', cc', rfl, y1, y2, y3, y4⟩

end Go.Proofs.YtpofihiojhbfgaaGreatDoor

namespace Go.Proofs.YtpofihiojhbfgaaGreatDoor
open Go.RowKit
set_option linter.unusedVariables false
set_option maxRecDepth 8000

theorem Hk.told {w : World} {B : Nat} {V X S Z : Nat → Prop} {h gs d g q : Nat} {s1 ca : Option Addr} {cc : Nat} {G : HoG} (H : Hk w B V X S Z h gs d g q s1 ca cc G) : (∃ V', Hk (w.setCell ⟨h, 12, none⟩ (.slice none 0 0)) B V' X S Z h gs d g q s1 none 0 { G with U := [] }) ∧ Hx B X w (w.setCell ⟨h, 12, none⟩ (.slice none 0 0)) := by
  have ho : OffS (fun k => k = h) w (w.setCell ⟨h, 12, none⟩ (.slice none 0 0)) := (OffS.refl (fun k => k = h) w).setCell rfl _
  have hk : ∀ k, k ≠ h → (w.setCell ⟨h, 12, none⟩ (.slice none 0 0)).heap[k]? = w.heap[k]? := fun k hk => Below.heap_setCell _ _ _ _ hk
  have hs : w.heap.size ≤ (w.setCell ⟨h, 12, none⟩ (.slice none 0 0)).heap.size := ho.size
  have hb := ho.below (B := B) (fun k e => by rw [e]; exact H.bh) H.hB
  refine ⟨⟨_, H.turn (G2 := { G with U := [] }) (X2 := X) (S2 := S) (Z2 := Z) (ca2 := none) (cc2 := 0) (s2 := s1) hb (fun k hk' hV => hk k fun e => hV (e ▸ H.vh)) ?_ (H.sw.keep hs fun k e => hk k fun e' => H.hs (e' ▸ e)) rfl rfl (H.ss.keep hs fun k e => hk k fun e' => H.hz (e' ▸ e)) (OwR.nil _ _) (fun k hk => .inl hk) (fun k hk => ⟨.inl hk, Nat.lt_of_lt_of_le (H.vlt k (H.vz k hk)) hs⟩) (fun k hk => ⟨.inl hk, Nat.lt_of_lt_of_le (H.xlt k hk) hs⟩) (fun y hy => by cases hy) ?_⟩, hb, fun k e => hk k fun e' => H.hx (e' ▸ e)⟩
  · rw [heap_setCell_same w h _ _ 62 _ H.blk]; rfl
  · intro k hk
    refine ⟨fun a => ?_, fun a => ?_, fun a => ?_, fun y hy => by cases hy⟩
    · have := H.vlt k (H.vs k a); omega
    · have := H.vlt k (H.vs k a); omega
    · have := H.vlt k (H.vz k a); omega

set_option maxHeartbeats 6400000 in
theorem sync_one {w : World} {B : Nat} {V X S Z : Nat → Prop} {h gs d g q : Nat} {s1 ca : Option Addr} {cc : Nat} {G : HoG} (H : Hk w B V X S Z h gs d g q s1 ca cc G) {s : Sg} (hse : G.se = some s) (hb : s.out.length ≤ 1000) (tx : Int) (ls : Nat) (hU : G.U = [⟨1, G.e1, tx, (ls : Int)⟩]) (Lb : List Bt) (hbs : G.bs = rowN Lb) (hnn : G.nn = (rowN Lb).length) (hok : ∀ b ∈ Lb, BtOk b) (hch : Chain Lb) (hla : lastL Lb = ls) (hO : PmOk { s with fr := true, out := s.out ++ [byB (doM tx)] }) (hM : Msg.rightB (doM tx) = true) (hW : Msg.Wd (doM tx)) :
    Calls Tryz.prog 16 #[tp h] w fun e w' => ∃ v M V' X' S' Z', e = .returned v ∧ Lnk.Pks w' M (fun k => M ≤ k) v (pmP { G with s := G.nn, U := [], se := some { s with fr := true, out := s.out ++ [byB (doM tx)] } } { s with fr := true, out := s.out ++ [byB (doM tx)] }) ∧ (∀ k, X k ∨ (M ≤ k ∧ k < w'.heap.size) → X' k) ∧ Hk w' B V' X' S' Z' h gs d g q s1 none 0 { G with s := G.nn, U := [], se := some (pmS { s with fr := true, out := s.out ++ [byB (doM tx)] }) } ∧ Hx B X w w' := by
  have HA := hidOf (show Hk w B V X S Z h gs d g q s1 ca cc G ∧ G.se = some s ∧ s.out.length ≤ 1000 ∧ G.U = [⟨1, G.e1, tx, (ls : Int)⟩] ∧ (G.bs = rowN Lb ∧ G.nn = (rowN Lb).length ∧ (∀ b ∈ Lb, BtOk b) ∧ Chain Lb ∧ lastL Lb = ls) ∧ PmOk { s with fr := true, out := s.out ++ [byB (doM tx)] } ∧ Msg.rightB (doM tx) = true ∧ Msg.Wd (doM tx) from ⟨H, hse, hb, hU, ⟨hbs, hnn, hok, hch, hla⟩, hO, hM, hW⟩)
  obtain ⟨c0, c1, c2, c3, c4, c5, c6, c7, c8, c9, cA, cB, cC⟩ := H.cells
  clear c0 c1 c3 c4 c5 c6 c7 c8 c9 cA cB cC H hse hb hU hbs hnn hok hch hla hO hM hW
  have H1 : Hid (Calls Tryz.prog 35 #[tp gs] w fun e w1 => e = .returned (.tuple #[]) ∧ w1.cell? ⟨h, 2, none⟩ = some (tp gs) ∧ Hid (Calls Tryz.prog 18 #[tp gs] w1 fun e w2 => e = .returned (.int .i64 (ls : Int)) ∧ Hid (∃ V2 X2 S2, (∀ k, X k → X2 k) ∧ Hk w2 B V2 X2 S2 Z h gs d g q s1 ca cc { G with s := G.nn } ∧ Hx B X w w2))) := by
    obtain ⟨H, hse, hb, hU, ⟨hbs, hnn, hok, hch, hla⟩, -⟩ := HA.out
    refine (syncS H.sw).mono ?_
    rintro e w1 ⟨rfl, hn⟩
    obtain ⟨V2, S2, K⟩ := H.store hn
    have hx := H.storeX hn
    refine ⟨rfl, K.cells.c2, ?_⟩
    have hsw := K.sw
    have hsw2 : Sw w1 B S2 gs G.L G.F G.hd G.nn (rowN Lb ++ []) G.nn G.r G.last := by
      rw [List.append_nil, ← hbs]
      exact hsw
    refine (durS hsw2 hnn hok hch).mono ?_
    rintro e w2 ⟨rfl, hb2⟩
    refine ⟨by rw [hla], _, _, S2, fun k hk => .inl hk, K.below hb2, hx.trans (Hx.of_below K.hB K.xlt hb2) fun _ h => h⟩
  go_enter Tryz.func16, Tryz.ntmps16
  go_upto_region 2 with (first
    | (go_at_call 35; (with_reducible refine H1.out.mono ?_); rintro e w1 ⟨rfl, d2, H2⟩)
    | fail)
  go_upto_region 3 with (first
    | (go_at_call 18; (with_reducible refine H2.out.mono ?_); rintro e w2 ⟨rfl, H3⟩)
    | fail)
  clear c2 d2 H1 H2
  obtain ⟨ub, uo, cap1, uc, u0, u1, u2, u3⟩ : ∃ ub uo, ca = some ⟨ub, uo, none⟩ ∧ w2.cell? ⟨h, 12, none⟩ = some (.slice ca 1 cc) ∧ w2.cell? ⟨ub, uo, none⟩ = some (.int .i64 1) ∧ w2.cell? ⟨ub, uo + 1, none⟩ = some (.int .i64 G.e1) ∧ w2.cell? ⟨ub, uo + 2, none⟩ = some (.int .i64 tx) ∧ w2.cell? ⟨ub, uo + 3, none⟩ = some (.int .i64 (ls : Int)) := by
    obtain ⟨V2, X2, S2, x1, K, x3⟩ := H3.out
    have hU := HA.out.2.2.2.1
    have e12 := K.cells.cC
    have hun := K.un
    have hU1 : ({ G with s := G.nn } : HoG).U = [⟨1, G.e1, tx, (ls : Int)⟩] := hU
    rw [hU1] at hun e12
    obtain ⟨b, off, e, -, hcc⟩ := hun.rd.at unE (t := 0) (by simp)
    refine ⟨b, off, by simpa using e, e12, ?_, ?_, ?_, ?_⟩
    · simpa using hcc 0 _ rfl
    · simpa using hcc 1 _ rfl
    · simpa using hcc 2 _ rfl
    · simpa using hcc 3 _ rfl
  subst cap1
  go_wp2
  go_loopw [4, 22] (fun v i wr => v = .slice none 0 0 ∧ ((i = .int .i64 0 ∧ wr = w2) ∨ (i = .int .i64 1 ∧ Hid (∃ V' X' S2 Z', (∀ k, X k → X' k) ∧ Hk wr B V' X' S2 Z' h gs d g q s1 (some ⟨ub, uo, none⟩) cc { G with s := G.nn, se := some { s with fr := true, out := s.out ++ [byB (doM tx)] } } ∧ Hx B X w wr)))) (fun _ i _ => 1 - (intOf i).toNat)
  case atStart => exact ⟨rfl, .inl ⟨rfl, rfl⟩⟩
  case round =>
    obtain ⟨rfl, hi⟩ := hrel
    rcases hi with ⟨rfl, rfl⟩ | ⟨rfl, HE⟩
    · go_upto_region 7 with fail
      obtain ⟨bk, hbk⟩ : ∃ r, wr.heap.size = r := ⟨_, rfl⟩
      obtain ⟨W1, hW1⟩ : ∃ W, wr.alloc (unO ⟨1, G.e1, tx, (ls : Int)⟩) = W := ⟨_, rfl⟩
      have hbA : Below wr.heap.size wr W1 := hW1 ▸ (Below.refl _ _).alloc (Nat.le_refl _) _
      have hkn : W1.heap[bk]? = some (unO ⟨1, G.e1, tx, (ls : Int)⟩) := hW1 ▸ hbk ▸ heap_alloc_new wr _
      obtain ⟨y0, y1, y2, y3⟩ := un_cells hkn
      have HT : Hid (Calls Tryz.prog 36 #[tp h, unV ⟨1, G.e1, tx, (ls : Int)⟩] W1 fun e w' => e = .returned (.tuple #[]) ∧ Hid (∃ V' X' S2 Z', (∀ k, X k → X' k) ∧ Hk w' B V' X' S2 Z' h gs d g q s1 (some ⟨ub, uo, none⟩) cc { G with s := G.nn, se := some { s with fr := true, out := s.out ++ [byB (doM tx)] } } ∧ Hx B X w w')) := by
        obtain ⟨V2, X2, S2, x1, K, x3⟩ := H3.out
        obtain ⟨H, hse, hb, hU, -, hO, hM, hW⟩ := HA.out
        have K2 := K.below hbA
        refine (tell_any K2 hse hb tx (ls : Int) hM hW).mono ?_
        rintro e w' ⟨rfl, V', X', Z', y1, y2, y3⟩
        exact ⟨rfl, V', X', S2, Z', fun k hk => y1 k (.inl (x1 k hk)), y2, (x3.trans (Hx.of_below K.hB K.xlt hbA) x1).trans y3 fun k hk => .inl (x1 k hk)⟩
      show Code.wp _ _ _ _ (wr.alloc (unO ⟨1, G.e1, tx, (ls : Int)⟩))
      rw [hW1, hbk]
      clear hbA hkn hW1 hbk u0 u1 u2 u3 uc
      go_wp2_with (first
        | (go_at_call 36; (with_reducible refine HT.out.mono ?_); rintro e w4 ⟨rfl, H4⟩)
        | fail)
      go_roundw
      case rel => exact ⟨rfl, .inr ⟨rfl, H4⟩⟩
      case measure => simp [intOf]
    · clear u0 u1 u2 u3 uc
      have e12 : wr.cell? ⟨h, 12, none⟩ = some (.slice (some ⟨ub, uo, none⟩) 1 cc) ∧ wr.frozen? ⟨h, 12, none⟩ = false := by
        obtain ⟨V', X', S2, Z', x1, K, x3⟩ := HE.out
        have e12 := K.cells.cC
        have hU1 : ({ G with s := G.nn, se := some { s with fr := true, out := s.out ++ [byB (doM tx)] } } : HoG).U = [⟨1, G.e1, tx, (ls : Int)⟩] := HA.out.2.2.2.1
        rw [hU1] at e12
        exact ⟨e12, ho_fz K.blk 12⟩
      obtain ⟨e12, f12⟩ := e12
      have HP : Hid (Calls Tryz.prog 26 #[tp h] (wr.setCell ⟨h, 12, none⟩ (.slice none 0 0)) fun e w' => ∃ v, e = .returned v ∧ Hid (∃ M V' X' S' Z', Lnk.Pks w' M (fun k => M ≤ k) v (pmP { G with s := G.nn, U := [], se := some { s with fr := true, out := s.out ++ [byB (doM tx)] } } { s with fr := true, out := s.out ++ [byB (doM tx)] }) ∧ (∀ k, X k ∨ (M ≤ k ∧ k < w'.heap.size) → X' k) ∧ Hk w' B V' X' S' Z' h gs d g q s1 none 0 { G with s := G.nn, U := [], se := some (pmS { s with fr := true, out := s.out ++ [byB (doM tx)] }) } ∧ Hx B X w w')) := by
        obtain ⟨V', X', S2, Z', x1, K, x3⟩ := HE.out
        obtain ⟨⟨V2, K2⟩, x4⟩ := K.told
        refine (pfy_hk K2 (s := { s with fr := true, out := s.out ++ [byB (doM tx)] }) rfl rfl HA.out.2.2.2.2.2.1).mono ?_
        rintro e w' ⟨v, M, rfl, -, k1, V3, X3, Z3, k2, k3, k4⟩
        refine ⟨v, rfl, M, V3, X3, S2, Z3, k1, ?_, k3, (x3.trans x4 x1).trans k4 x1⟩
        rintro k (hk | hk)
        · exact k2 k (.inl (x1 k hk))
        · exact k2 k (.inr hk)
      go_wp2_with (first
        | (go_at_call 26; (with_reducible refine HP.out.mono ?_); rintro e w5 ⟨v, rfl, H5⟩)
        | fail)
      go_ret
      obtain ⟨M, V', X', S', Z', y1, y2, y3, y4⟩ := H5.out
      exact ⟨v, M, V', X', S', Z', rfl, y1, y2, y3, y4⟩

end Go.Proofs.YtpofihiojhbfgaaGreatDoor

namespace Go.Proofs.YtpofihiojhbfgaaGreatDoor
open Go.RowKit
set_option linter.unusedVariables false
set_option maxRecDepth 8000

abbrev T0 : Dsk.St := ⟨fun _ => 0, [], []⟩
def ses0 : Sg := ⟨[], 0, 0, 0, false, []⟩
abbrev lkI : LkI := ⟨1, 1, 3, true⟩
def hrd (s : Sg) (P : Lnk.PkG) : Sg := ⟨s.L.drop (Lnk.gotC lkI s.L.length s.sn P), s.sn, s.h + 1, 0, s.fr, s.out⟩
def sad (s : Sg) (M : Mg) : Sg := ⟨s.L, s.sn, s.h, s.si, true, s.out ++ [byB M]⟩
abbrev gr1 : Mg := grM 2 15 zO zO zO zO
abbrev fr1 : Fr := Fr.of 2 0 zO zO zO zO
abbrev bh1 : Bt := ⟨1, 1, 1, 1, [Msg.p7]⟩
def fr2 : Fr := { fr1.use.use with l := 1, a := putO 1 Msg.p7.c 0 fr1.use.a, b := putO 1 Msg.p7.c 1 fr1.use.b, c := putO 1 Msg.p7.c 2 fr1.use.c, d := putO 1 Msg.p7.c 3 fr1.use.d, dr := true, us := true }
def sg1 : Sg := pmS ses0
def sg2 : Sg := pmS (sad (hrd sg1 (kW 1)) gr1)
def sg3 : Sg := pmS (hrd sg2 kC)
def sg4 : Sg := pmS (sad sg3 (doM 1))
def T1 : Dsk.St := (Dsk.setl (Dsk.hanS T0 1 1 2 1 0 0 false)).1
def g0 : HoG := ⟨3, 5, 0, T0, 0, L0 6, [Fr.e, Fr.e], 0, 0, rowN [], 0, 2000, 0, [], none⟩
def g1 : HoG := ⟨3, 5, 1, T0, 0, L0 6, [Fr.e, Fr.e], 0, 0, rowN [], 0, 2000, 0, [], some sg1⟩
def g2 : HoG := ⟨3, 5, 1, T1, 0 + 700, L0 6, [fr1.use, Fr.e], 0, 0, rowN [], 0, 2000, 0, [], some sg2⟩
def g3 : HoG := ⟨3, 5, 1, T1, 0 + 700, L0 6, [fr2, Fr.e], 0, 0 + 42, rowN [] ++ wbN bh1, 0, 2000, 1, [] ++ [⟨1, 1, 1, 1⟩], some sg3⟩
def g4 : HoG := ⟨3, 5, 1, T1, 0 + 700, L0 6, [fr2, Fr.e], 0, 0 + 42, rowN [] ++ wbN bh1, 0 + 42, 2000, 1, [], some sg4⟩
def g9 : HoG := ⟨1, 5, 0, T0, 0, L0 6, [Fr.e, Fr.e], 0, 0, rowN [], 0, 500, 0, [], none⟩
def stG : Nat → HoG
  | 0 => g0
  | 1 => g1
  | 2 => g2
  | 3 => g3
  | 4 => g4
  | _ => g9

def HSh : HSt := fun i B G w h gs => ∃ X, Ho w B X h gs (stG i) ∧ ∀ k, G k ↔ (B ≤ k ∧ k < w.heap.size ∧ ¬ X k)

theorem hs_nh {j B : Nat} {G X X' R : Nat → Prop} {w w' : World} {h gs : Nat} {g : HoG} (hg : ∀ k, G k ↔ (B ≤ k ∧ k < w.heap.size ∧ ¬ X k)) (hX : ∀ k, X k ∨ R k → X' k) (H : Ho w' B X' h gs g) (he : g = stG j) (hx : Hx B X w w') : Nh HSh j B G w w' h gs R := by
  subst he
  refine ⟨⟨fun k => B ≤ k ∧ k < w'.heap.size ∧ ¬ X' k, fun k hk => ⟨?_, fun hr => hk.2.2 (hX k (.inr hr))⟩, X', H, fun k => Iff.rfl⟩, ⟨hx.bel.os, hx.bel.tape, hx.bel.output, hx.bel.size, fun k hk hn => ?_⟩, hx.bel⟩
  · by_cases hl : k < w.heap.size
    · exact .inl ((hg k).2 ⟨hk.1, hl, fun hx' => hk.2.2 (hX k (.inl hx'))⟩)
    · exact .inr (by omega)
  · by_cases hB : k < B
    · exact hx.bel.block k hB
    · refine hx.keep k (Classical.byContradiction fun hx' => hn ((hg k).2 ⟨by omega, hk, hx'⟩))
theorem sub_X {X X' R : Nat → Prop} {w' : World} {M b : Nat} (h : ∀ k, X k ∨ (M ≤ k ∧ k < w'.heap.size) → X' k) (h1 : M ≤ b) (h2 : b < w'.heap.size) : ∀ k, X k ∨ k = b → X' k := by
  rintro k (hk | rfl)
  · exact h k (.inl hk)
  · exact h k (.inr ⟨h1, h2⟩)

theorem by_rd8 {w : World} {U : Nat → Prop} {a : Option Addr} {n c : Nat} {bs : List Nat} (h : Lnk.By w U (.slice a n c) bs) : Rd8 w a n c bs := by
  obtain ⟨ao, n', c', e, hr, -⟩ := h
  cases e
  exact hr
theorem rdP_R {w : World} {ao : Option Addr} {cap : Nat} {p : PutG} (h : RdP w ao 1 cap [p]) : RdR Dsk.puC w ao 1 [⟨(p.pg : Int), (p.ob : Int), p.c.1, p.c.2⟩] := by
  obtain ⟨b, off, e, hl, h1, h2, h3⟩ := h.cell 0 (by simp)
  subst e
  refine ⟨Nat.le_refl _, by decide, fun h => (by cases h), fun _ => ⟨b, off, rfl, hl, ?_⟩⟩
  intro j u hj
  simp only [Nat.zero_mul, Nat.add_zero, List.getElem_cons_zero] at h1 h2 h3
  match j, hj with
  | 0, hj => cases hj; exact h1
  | 1, hj => cases hj; exact h2
  | 2, hj => cases hj; exact h3
  | j + 3, hj => simp [cs, Dsk.puC] at hj
theorem in1 : Dsk.inR 1 := by unfold Dsk.inR; omega
theorem in2 : Dsk.inR 2 := by unfold Dsk.inR; omega
theorem byB_700 {M : Mg} (h : (Msg.msgZ M).length ≤ 700) : (byB M).length ≤ 700 := by rw [byB_len]; exact h
theorem z_w : Msg.Wd gr1 := ⟨fun p hp => (by cases hp), Msg.z_word, Msg.z_word, Msg.z_word, Msg.z_word⟩
theorem d_w : Msg.Wd (doM 1) := ⟨fun p hp => (by cases hp), Msg.z_word, Msg.z_word, Msg.z_word, Msg.z_word⟩
theorem bh_ok : BtOk bh1 := ⟨by decide, by decide, by decide, by decide, ⟨by decide, fun p hp => (by simp only [List.mem_cons, List.not_mem_nil, or_false] at hp; subst hp; exact ⟨by decide, by decide, by decide, by decide⟩), fun i p q h1 h2 => (by simp at h2)⟩⟩

theorem read_v {w : World} {v : Value} {U : Nat → Prop} {M : Mg} (q : Nat) (hq : (Msg.msgZ M).length = q) (h : Lnk.By w U v (byB M)) : ∃ ao cap, v = .slice ao q cap ∧ RdI w .u8 ao cap (Msg.msgZ M) := by
  obtain ⟨ao, n, cap, rfl, hr, -⟩ := h
  have hn : n = q := by rw [← hr.len, byB_len, hq]
  subst hn
  have := hr.rd
  rw [byB, ci_nb (Msg.msgZ_bd M)] at this
  exact ⟨ao, cap, rfl, this⟩

theorem ask_hear {w : World} {B : Nat} {V X S Z : Nat → Prop} {h gs d g q : Nat} {s1 ca : Option Addr} {cc : Nat} (H : Hk w B V X S Z h gs d g q s1 ca cc g1) (t : Nat) (ht : s1 = some ⟨t, 0, none⟩) (u : Value) (U0 : Nat → Prop) (hy : Lnk.By w U0 u (byB Msg.mW)) :
    Calls Tryz.prog 25 #[tp h, cp t, Lnk.pkV (kW 1) u] w fun e w' => e = .returned (.tuple #[]) ∧ ∃ V' X' S' Z' ca' cc', (∀ k, X k → X' k) ∧ Hk w' B V' X' S' Z' h gs d g q s1 ca' cc' { g2 with se := some (sad (hrd sg1 (kW 1)) gr1) } ∧ Hx B X w w' := by
  refine hear_any H (s := sg1) rfl t ht (kW 1) u U0 hy (by rw [byB_len, Msg.len_W]; decide) (by decide) rfl (by kernel_rfl) Msg.mW 0 [] ?_ _ rfl ⟨_, rfl⟩ ?_
  · intro U v hv
    obtain ⟨ao, cap, rfl, hr⟩ := read_v 24 Msg.len_W hv
    exact Msg.read_W ao cap U hr
  · intro U V1 X1 S1 Z1 a' c' K hr ha
    refine do_ask 1 2 1 0 0 0 false a' 0 c' 0 0 0 0 0 0 0 0 _ ?_
    intro W hW
    have K2 := K.below hW
    refine (ask_grant K2 (Tl := [Fr.e]) rfl 2 (by decide) (by rfl) (by intro y hy; simp only [List.mem_cons, List.not_mem_nil, or_false] at hy; subst hy; rfl) (s := hrd sg1 (kW 1)) rfl (by decide) (by decide) 1 1 15 a' 0 c' T1 (by kernel_rfl) in2 in1 in1 (by kernel_rfl) z_w).mono ?_
    rintro e w' ⟨rfl, V', X', S2, Z', y1, y2, y3⟩
    exact ⟨rfl, V', X', S2, Z', ca, cc, fun k hk => y1 k (.inl hk), y2, (Hx.of_below K.hB K.xlt hW).trans y3 fun k hk => .inl hk⟩

theorem com_hear {w : World} {B : Nat} {V X S Z : Nat → Prop} {h gs d g q : Nat} {s1 ca : Option Addr} {cc : Nat} (H : Hk w B V X S Z h gs d g q s1 ca cc g2) (t : Nat) (ht : s1 = some ⟨t, 0, none⟩) (u : Value) (U0 : Nat → Prop) (hy : Lnk.By w U0 u (byB Msg.mC)) :
    Calls Tryz.prog 25 #[tp h, cp t, Lnk.pkV kC u] w fun e w' => e = .returned (.tuple #[]) ∧ ∃ V' X' S' Z' ca' cc', (∀ k, X k → X' k) ∧ Hk w' B V' X' S' Z' h gs d g q s1 ca' cc' { g3 with se := some (hrd sg2 kC) } ∧ Hx B X w w' := by
  refine hear_any H (s := sg2) rfl t ht kC u U0 hy (by rw [byB_len, Msg.len_C]; decide) (by decide) rfl (by kernel_rfl) Msg.mC 1 [Msg.p7] ?_ _ rfl ⟨_, rfl⟩ ?_
  · intro U v hv
    obtain ⟨ao, cap, rfl, hr⟩ := read_v 46 Msg.len_C hv
    exact Msg.read_C ao cap U hr
  · intro U V1 X1 S1 Z1 a' c' K hr ha
    refine do_com 1 0 0 1 0 0 false a' 1 c' 0 0 0 0 0 0 0 0 _ ?_
    intro W hW
    have K2 := K.below hW
    have hr2 := hr.below hW
    refine (commit_ok K2 (x := fr1.use) (Tl := [Fr.e]) rfl bh1 Msg.p7 a' c' hr2 (rdP_R hr2) (fun y hy => .inl (ha (by decide) y hy)) rfl rfl rfl bh_ok (by decide) (by decide) (by rfl) (by decide) (by rfl) (by decide) (by kernel_rfl) 0 0 0 0 false 0 0 0 0 0 0 0 0).mono ?_
    rintro e w' ⟨rfl, V', X', S2, ca2, cc2, y1, y2, y3⟩
    exact ⟨rfl, V', X', S2, Z1, ca2, cc2, fun k hk => y1 k (.inl hk), y2, (Hx.of_below K.hB K.xlt hW).trans y3 fun k hk => .inl hk⟩

theorem pm1 : PmOk (sad (hrd sg1 (kW 1)) gr1) := ⟨by decide, by decide, fun b hb => by
  have e : (sad (hrd sg1 (kW 1)) gr1).out = [byB gr1] := rfl
  rw [e] at hb
  simp only [List.mem_cons, List.not_mem_nil, or_false] at hb
  subst hb
  exact byB_700 (by rw [show (Msg.msgZ gr1).length = 88 by kernel_rfl]; decide)⟩
theorem pm2 : PmOk (hrd sg2 kC) := ⟨by decide, by decide, fun b hb => by
  have e : (hrd sg2 kC).out = [] := rfl
  rw [e] at hb
  cases hb⟩
theorem pm3 : PmOk (sad sg3 (doM 1)) := ⟨by decide, by decide, fun b hb => by
  have e : (sad sg3 (doM 1)).out = [byB (doM 1)] := rfl
  rw [e] at hb
  simp only [List.mem_cons, List.not_mem_nil, or_false] at hb
  subst hb
  exact byB_700 (by rw [show (Msg.msgZ (doM 1)).length = 24 by kernel_rfl]; decide)⟩
end Go.Proofs.YtpofihiojhbfgaaGreatDoor

namespace Go.Proofs.YtpofihiojhbfgaaGreatDoor
open Go.RowKit
set_option linter.unusedVariables false
set_option maxRecDepth 8000

theorem pmp1 : pmP { g0 with e1 := 1, se := some ⟨[], 0, 0, 0, false, []⟩ } ⟨[], 0, 0, 0, false, []⟩ = [⟨1, 1, 3, 0, 0, true, []⟩] := by kernel_rfl
theorem pmp2 : pmP { g2 with se := some (sad (hrd sg1 (kW 1)) gr1) } (sad (hrd sg1 (kW 1)) gr1) = [⟨1, 1, 3, 1, 1, true, byB gr1⟩] := by kernel_rfl
theorem pmp4 : pmP { g3 with s := g3.nn, U := [], se := some (sad sg3 (doM 1)) } (sad sg3 (doM 1)) = [⟨1, 1, 3, 1, 2, true, byB gr1⟩, ⟨1, 1, 3, 2, 2, true, byB (doM 1)⟩] := by kernel_rfl
theorem row1 : rowN [] ++ wbN bh1 = rowN [bh1] := by simp [rowN]
theorem row1l : (rowN [bh1]).length = 42 := by kernel_rfl

theorem h_no0 {B : Nat} {G : Nat → Prop} {w : World} {h gs : Nat} {U : Nat → Prop} {a : Option Addr} {c : Nat} (H0 : HSh 0 B G w h gs) (hy : Lnk.By w U (.slice a 24 c) (byB Msg.mW)) : Calls Tryz.prog 8 #[tp h, Lnk.pkV (kW 1) (.slice a 24 c)] w fun e w' => ∃ b cap, e = .returned (.slice (some ⟨b, 0, none⟩) 1 cap) ∧ w'.cell? ⟨b, 2, none⟩ = some (.int .i64 0) ∧ Nh HSh 0 B G w w' h gs (fun k => k = b) := by
  obtain ⟨X, ⟨V, S, Z, d, g, q, s1, ca, cc, H⟩, hg⟩ := H0
  refine (got_no H rfl 1 ⟨by decide, by decide⟩ (byB Msg.mW) a 24 c (by_rd8 hy) (by decide)).mono ?_
  rintro e w' ⟨b, rfl, k1, k2, k3⟩
  refine ⟨b, 1, rfl, (pk_cells k1).2.2.1, hs_nh hg (X' := Nv w w' X) ?_ ⟨_, _, _, _, _, _, _, _, _, H.below k3⟩ rfl (Hx.of_below H.hB H.xlt k3)⟩
  rintro k (hk | rfl)
  · exact .inl hk
  · exact .inr ⟨k2, (Array.getElem?_eq_some_iff.1 k1).1⟩

theorem h_hi0 {B : Nat} {G : Nat → Prop} {w : World} {h gs : Nat} (H0 : HSh 0 B G w h gs) : Calls Tryz.prog 8 #[tp h, Lnk.pkV ⟨1, 1, 0, 0, 0, false, []⟩ (.slice none 0 0)] w fun e w' => ∃ b cap, e = .returned (.slice (some ⟨b, 0, none⟩) 1 cap) ∧ w'.cell? ⟨b, 2, none⟩ = some (.int .i64 3) ∧ Nh HSh 1 B G w w' h gs (fun k => k = b) := by
  obtain ⟨X, ⟨V, S, Z, d, g, q, s1, ca, cc, H⟩, hg⟩ := H0
  refine (got_hi H rfl rfl).mono ?_
  rintro e w' ⟨v, M, V', X', S', Z', s1', ca', cc', rfl, k1, k2, k3, k4⟩
  have k1' : Lnk.Pks w' M (fun k => M ≤ k) v [⟨1, 1, 3, 0, 0, true, []⟩] := pmp1 ▸ k1
  obtain ⟨b, cap, u, ev, h1, h2, -⟩ := k1'.at 0 (by simp)
  subst ev
  refine ⟨b, cap, rfl, by simpa using h2.c2, hs_nh hg (sub_X (R := fun _ => False) k2 h1 h2.lt) ⟨V', S', Z', d, g, q, s1', ca', cc', k3⟩ rfl k4⟩

theorem h_ask1 {B : Nat} {G : Nat → Prop} {w : World} {h gs : Nat} {U : Nat → Prop} {a : Option Addr} {c : Nat} (H0 : HSh 1 B G w h gs) (hy : Lnk.By w U (.slice a 24 c) (byB Msg.mW)) : Calls Tryz.prog 8 #[tp h, Lnk.pkV (kW 1) (.slice a 24 c)] w fun e w' => ∃ b cap, e = .returned (.slice (some ⟨b, 0, none⟩) 1 cap) ∧ (w'.cell? ⟨b, 4, none⟩ = some (.int .i64 1) ∧ w'.cell? ⟨b, 3, none⟩ = some (.int .i64 1)) ∧ Nh HSh 2 B G w w' h gs (fun k => k = b) := by
  obtain ⟨X, ⟨V, S, Z, d, g, q, s1, ca, cc, H⟩, hg⟩ := H0
  obtain ⟨t, ht, -⟩ := H.ss.yes (s := sg1) rfl
  refine (got_ses H (s := sg1) rfl rfl rfl 1 ⟨by decide, by decide⟩ (byB Msg.mW) a 24 c (by_rd8 hy) (by decide) { g2 with se := some (sad (hrd sg1 (kW 1)) gr1) } _ rfl pm1 t ht ?_).mono ?_
  · intro W hW
    refine (ask_hear (H.below hW) t ht (.slice a 24 c) U (hy.below hW)).mono ?_
    rintro e w' ⟨rfl, V', X', S', Z', ca', cc', y1, y2, y3⟩
    exact ⟨rfl, V', X', S', Z', ca', cc', fun k hk => y1 k (.inl hk), y2, y3.bel, fun k hk => y3.keep k (.inl hk)⟩
  · rintro e w' ⟨v, M, V', X', S', Z', ca', cc', rfl, k1, k2, k3, k4⟩
    have k1' : Lnk.Pks w' M (fun k => M ≤ k) v [⟨1, 1, 3, 1, 1, true, byB gr1⟩] := pmp2 ▸ k1
    obtain ⟨b, cap, u, ev, h1, h2, -⟩ := k1'.at 0 (by simp)
    subst ev
    exact ⟨b, cap, rfl, ⟨by simpa using h2.c4, by simpa using h2.c3⟩, hs_nh hg (sub_X (R := fun _ => False) k2 h1 h2.lt) ⟨V', S', Z', d, g, q, s1, ca', cc', k3⟩ rfl k4⟩

theorem h_com2 {B : Nat} {G : Nat → Prop} {w : World} {h gs : Nat} {U : Nat → Prop} {a : Option Addr} {c : Nat} (H0 : HSh 2 B G w h gs) (hy : Lnk.By w U (.slice a 46 c) (byB Msg.mC)) : Calls Tryz.prog 8 #[tp h, Lnk.pkV kC (.slice a 46 c)] w fun e w' => ∃ v, e = .returned v ∧ Nh HSh 3 B G w w' h gs (fun _ => False) := by
  obtain ⟨X, ⟨V, S, Z, d, g, q, s1, ca, cc, H⟩, hg⟩ := H0
  obtain ⟨t, ht, -⟩ := H.ss.yes (s := sg2) rfl
  refine (got_ses H (s := sg2) rfl rfl rfl 2 ⟨by decide, by decide⟩ (byB Msg.mC) a 46 c (by_rd8 hy) (by decide) { g3 with se := some (hrd sg2 kC) } _ rfl pm2 t ht ?_).mono ?_
  · intro W hW
    refine (com_hear (H.below hW) t ht (.slice a 46 c) U (hy.below hW)).mono ?_
    rintro e w' ⟨rfl, V', X', S', Z', ca', cc', y1, y2, y3⟩
    exact ⟨rfl, V', X', S', Z', ca', cc', fun k hk => y1 k (.inl hk), y2, y3.bel, fun k hk => y3.keep k (.inl hk)⟩
  · rintro e w' ⟨v, M, V', X', S', Z', ca', cc', rfl, k1, k2, k3, k4⟩
    exact ⟨v, rfl, hs_nh hg (fun k hk => hk.elim (fun h => k2 k (.inl h)) False.elim) ⟨V', S', Z', d, g, q, s1, ca', cc', k3⟩ rfl k4⟩

theorem h_sync3 {B : Nat} {G : Nat → Prop} {w : World} {h gs : Nat} (H0 : HSh 3 B G w h gs) : Calls Tryz.prog 16 #[tp h] w fun e w' => ∃ b cap, e = .returned (.slice (some ⟨b, 0, none⟩) 2 cap) ∧ w'.cell? ⟨b, 10, none⟩ = some (.int .i64 2) ∧ Nh HSh 4 B G w w' h gs (fun k => k = b) := by
  obtain ⟨X, ⟨V, S, Z, d, g, q, s1, ca, cc, H⟩, hg⟩ := H0
  refine (sync_one H (s := sg3) rfl (by decide) 1 1 rfl [bh1] row1 row1l.symm (fun b hb => by simp only [List.mem_cons, List.not_mem_nil, or_false] at hb; subst hb; exact bh_ok) (fun i p q _ h2 => by simp at h2) rfl pm3 (by kernel_rfl) d_w).mono ?_
  rintro e w' ⟨v, M, V', X', S', Z', rfl, k1, k2, k3, k4⟩
  have k1' : Lnk.Pks w' M (fun k => M ≤ k) v [⟨1, 1, 3, 1, 2, true, byB gr1⟩, ⟨1, 1, 3, 2, 2, true, byB (doM 1)⟩] := pmp4 ▸ k1
  obtain ⟨b, cap, u, ev, h1, h2, -⟩ := k1'.at 1 (by simp)
  subst ev
  exact ⟨b, cap, rfl, by simpa using h2.c3, hs_nh hg (sub_X (R := fun _ => False) k2 h1 h2.lt) ⟨V', S', Z', d, g, q, s1, _, _, k3⟩ rfl k4⟩

theorem h_page4 {B : Nat} {G : Nat → Prop} {w : World} {h gs : Nat} (H0 : HSh 4 B G w h gs) : Calls Tryz.prog 17 #[tp gs, .int .i64 2] w fun e w' => ∃ l a c d, e = .returned (.tuple #[pgV l a (4619567317775286272, 0) c d, .int .i64 0]) ∧ Nh HSh 4 B G w w' h gs (fun _ => False) := by
  obtain ⟨X, ⟨V, S, Z, d, g, q, s1, ca, cc, H⟩, hg⟩ := H0
  refine (pageS_hit (x := fr2) (T := [Fr.e]) H.sw 2 rfl).mono ?_
  rintro e w' ⟨rfl, hn⟩
  have hx := H.storeX hn
  obtain ⟨V2, S2, K⟩ := H.store hn
  exact ⟨fr2.l, fr2.a, fr2.c, fr2.d, rfl, hs_nh hg (X' := X) (fun k hk => hk.elim id False.elim) ⟨V2, S2, Z, d, g, q, s1, ca, cc, K⟩ rfl hx⟩

theorem h_dur4 {B : Nat} {G : Nat → Prop} {w : World} {h gs : Nat} (H0 : HSh 4 B G w h gs) : Calls Tryz.prog 18 #[tp gs] w fun e w' => e = .returned (.int .i64 1) ∧ Below w.heap.size w w' := by
  obtain ⟨X, ⟨V, S, Z, d, g, q, s1, ca, cc, H⟩, hg⟩ := H0
  have hsw : Sw w B S gs (L0 6) [fr2, Fr.e] 0 42 (rowN [bh1] ++ []) 42 2000 1 := by
    rw [List.append_nil, ← row1]
    exact H.sw
  exact durS hsw row1l.symm (fun b hb => by simp only [List.mem_cons, List.not_mem_nil, or_false] at hb; subst hb; exact bh_ok) (fun i p q _ h2 => by simp at h2)

theorem h_own2 {B : Nat} {G : Nat → Prop} {w : World} {h gs : Nat} (H0 : HSh 2 B G w h gs) : Calls Tryz.prog 14 #[tp h, .int .i64 1, .int .i64 2] w fun e w' => e = .returned (.int .i64 15) ∧ Below w.heap.size w w' := by
  obtain ⟨X, ⟨V, S, Z, d, g, q, s1, ca, cc, H⟩, hg⟩ := H0
  have h15 : Tab.owI T1.T 1 2 = 15 := by kernel_rfl
  refine (hown_any H.blk H.dk.c0 H.dk.tb 1 2).mono ?_
  rintro e w' ⟨rfl, rfl⟩
  exact ⟨congrArg (fun n : Nat => Ending.returned (.int .i64 (n : Int))) h15, Below.refl _ _⟩

theorem h_live1 {B : Nat} {G : Nat → Prop} {w : World} {h gs : Nat} (H0 : HSh 1 B G w h gs) : Calls Tryz.prog 6 #[tp h, .int .i64 1] w fun e w' => e = .returned (.int .i64 1) ∧ Below w.heap.size w w' := by
  obtain ⟨X, ⟨V, S, Z, d, g, q, s1, ca, cc, H⟩, hg⟩ := H0
  obtain ⟨t, rfl, hse⟩ := H.ss.yes (s := sg1) rfl
  obtain ⟨l, v, e0, -⟩ := hse.cells
  refine (live_yes H.blk e0).mono ?_
  rintro e w' ⟨rfl, rfl⟩
  exact ⟨rfl, Below.refl _ _⟩

theorem host_ok : HostOk HSh where
  lt := by
    rintro i B G w h gs ⟨X, H, hg⟩ k hk
    exact ((hg k).1 hk).2.1
  below := by
    rintro i B G w w' h gs ⟨X, H, hg⟩ hb
    refine ⟨Nv w w' X, H.below hb, fun k => ?_⟩
    have hs := hb.size
    rw [hg k]
    constructor
    · rintro ⟨h1, h2, h3⟩
      refine ⟨h1, by omega, ?_⟩
      rintro (h' | h')
      · exact h3 h'
      · omega
    · rintro ⟨h1, h2, h3⟩
      exact ⟨h1, Classical.byContradiction fun h' => h3 (.inr ⟨by omega, h2⟩), fun h' => h3 (.inl h')⟩
  new3 := by
    intro B S gs w H hT hG hB
    refine (hnew_any 3 H hT hG hB).mono ?_
    rintro e w' ⟨h, X, rfl, k1, k2⟩
    exact ⟨h, _, rfl, ⟨X, k1, fun _ => Iff.rfl⟩, k2⟩
  new1 := by
    intro B S gs w H hT hG hB
    refine (hnew_any 1 H hT hG hB).mono ?_
    rintro e w' ⟨h, X, rfl, k1, k2⟩
    exact ⟨h, _, rfl, ⟨X, k1, fun _ => Iff.rfl⟩, k2⟩
  no0 := h_no0
  hi0 := h_hi0
  live1 := h_live1
  ask1 := fun H hy _ => h_ask1 H hy
  own2 := h_own2
  com2 := fun H hy _ => h_com2 H hy
  open3 := by
    rintro B G w h gs ⟨X, ⟨V, S, Z, d, g, q, s1, ca, cc, H⟩, hg⟩
    refine (hopen_any H.blk).mono ?_
    rintro e w' ⟨rfl, rfl⟩
    exact ⟨rfl, Below.refl _ _⟩
  sync3 := h_sync3
  page4 := h_page4
  open4 := by
    rintro B G w h gs ⟨X, ⟨V, S, Z, d, g, q, s1, ca, cc, H⟩, hg⟩
    refine (hopen_any H.blk).mono ?_
    rintro e w' ⟨rfl, rfl⟩
    exact ⟨rfl, Below.refl _ _⟩
  dur4 := h_dur4
  live9 := by
    rintro B G w h gs c hc ⟨X, ⟨V, S, Z, d, g, q, s1, ca, cc, H⟩, hg⟩
    refine (live_no H.blk c hc).mono ?_
    rintro e w' ⟨rfl, rfl⟩
    exact ⟨rfl, Below.refl _ _⟩
  tick9 := by
    rintro B G w h gs ⟨X, ⟨V, S, Z, d, g, q, s1, ca, cc, H⟩, hg⟩
    obtain ⟨rfl, -⟩ := H.ss.no rfl
    refine (tick_no H.blk).mono ?_
    rintro e w' ⟨rfl, hb⟩
    exact ⟨none, 0, rfl, hs_nh hg (X' := Nv w w' X) (fun k hk => hk.elim .inl False.elim) ⟨_, _, _, _, _, _, _, _, _, H.below hb⟩ rfl (Hx.of_below H.hB H.xlt hb)⟩
  srv9 := by
    rintro B G w h gs ⟨X, ⟨V, S, Z, d, g, q, s1, ca, cc, H⟩, hg⟩
    refine (got_srv H).mono ?_
    rintro e w' ⟨rfl, hb⟩
    exact ⟨none, 0, rfl, hb.mono H.hB⟩

end Go.Proofs.YtpofihiojhbfgaaGreatDoor
