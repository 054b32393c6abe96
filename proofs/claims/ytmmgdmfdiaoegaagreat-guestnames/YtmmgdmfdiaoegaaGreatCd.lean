/- Drop of package cache, walked. -/
import Derived.Test.YtmmgdmfdiaoegaaGreatC9
namespace Go.Proofs.YtmmgdmfdiaoegaaGreat
open Go.RowKit
set_option linter.unusedVariables false
set_option maxRecDepth 8000

/-- What is left of a mask without another. -/
def sub16 (a b : Nat) : Nat := a &&& (15 - b)
theorem not16c : ∀ a < 16, ∀ b < 16, bits .andNot .i64 ((a : Nat) : Int) ((b : Nat) : Int) = ((sub16 a b : Nat) : Int) ∧ sub16 a b < 16 := by decide +kernel
theorem or16c : ∀ a < 16, ∀ b < 16, bits .or .i64 ((a : Nat) : Int) ((b : Nat) : Int) = ((a ||| b : Nat) : Int) ∧ a ||| b < 16 := by decide +kernel

section
variable {w : World} {A : Nat → Prop} {c : Nat} {room : Int} {g cap k o7 : Nat} {L : List En} {y : En}
/-- The cells of the k-th one. -/
theorem Ca.cellsAt (H : Ca w A c room (some ⟨g, 0, none⟩) cap L) (hk : L[k]? = some y) (h7 : k * 7 = o7) : (∀ j u, (enC y)[j]? = some u → w.cell? ⟨g, o7 + j, none⟩ = some u) ∧ ∀ j, w.frozen? ⟨g, j, none⟩ = false := by
  subst h7
  obtain ⟨hkl, rfl⟩ := List.getElem?_eq_some_iff.1 hk
  refine ⟨?_, fun j => ?_⟩
  · obtain ⟨b, off, e, -, hcc⟩ := H.own.rd.at enE hkl
    cases e
    simpa using hcc
  · obtain ⟨_, cur, hh⟩ := H.own.lt _ rfl
    exact frozen_of_row _ _ _ _ _ hh
/-- One cell of the k-th one is written. -/
theorem Ca.putAt (H : Ca w A c room (some ⟨g, 0, none⟩) cap L) (hk : L[k]? = some y) (h7 : k * 7 = o7) (j : Nat) (hj : j < 7) (u : Value) (y' : En) (hy : enC y' = (enC y).set j u) :
    Ca (w.setCell ⟨g, o7 + j, none⟩ u) A c room (some ⟨g, 0, none⟩) cap (L.set k y') ∧ OffS A w (w.setCell ⟨g, o7 + j, none⟩ u) := by
  subst h7
  obtain ⟨hkl, rfl⟩ := List.getElem?_eq_some_iff.1 hk
  refine ⟨⟨?_, ?_, H.ac, H.ar⟩, (OffS.refl A w).setCell (a := ⟨g, k * 7 + j, none⟩) (H.ar ⟨g, 0, none⟩ rfl) _⟩
  · rw [Below.heap_setCell _ _ _ _ (fun e => H.ne _ rfl (by simpa using e.symm)), H.blk]
    simp
  · exact H.own.put enE k hkl j hj u y' hy
end

def drE (x : En) (cm om : Nat) : En := ⟨x.p, sub16 x.c cm, sub16 x.o (cm ||| om), x.v⟩
def drL (L : List En) (p : Int) (cm om : Nat) : List En :=
  match L[plN L p]? with
  | none => L
  | some x => if sub16 x.c cm = 0 then L.take (plN L p) ++ L.drop (plN L p + 1) else L.set (plN L p) (drE x cm om)

set_option maxHeartbeats 1600000 in
theorem drop_any (w : World) (A : Nat → Prop) (c : Nat) (room : Int) (ao : Option Addr) (cap : Nat) (L : List En) (H : Ca w A c room ao cap L) (hl : L.length ≤ 1000000) (hE : EsOk L) (p : Int) (cm om : Nat) (hcm : cm < 16) (hom : om < 16) :
    Calls Tryz.prog 64 #[cp c, .int .i64 p, .int .i64 (cm : Int), .int .i64 (om : Int)] w fun e w' => e = .returned (.tuple #[]) ∧ Ca w' A c room ao cap (drL L p cm om) ∧ OffS A w w' := by
  have h2 : mkB cm = true := by simp [mkB]; omega
  have h3 : mkB om = true := by simp [mkB]; omega
  cases hx : L[plN L p]? with
  | none =>
    have hno : ¬ plN L p < L.length := by
      intro h
      rw [List.getElem?_eq_getElem h] at hx
      cases hx
    have hz : plZ L p = -1 := by rw [plZ, if_neg hno]
    have e3 : drL L p cm om = L := by unfold drL; rw [hx]
    rw [e3]
    have HP : Hid (Calls Tryz.prog 83 #[cp c, .int .i64 p] w fun e w' => e = .returned (.int .i64 (-1)) ∧ Ca w' A c room ao cap L ∧ OffS A w w') := by
      refine (place_any w A c room _ cap L H hl p).mono ?_
      rintro e w' ⟨rfl, hb⟩
      exact ⟨ret_int hz, H.below hb, .of_below hb⟩
    clear H hl hE hx hno hz e3
    go_enter Tryz.func64, Tryz.ntmps64
    go_wp2_with (first
      | (go_at_call 83; refine HP.out.mono ?_; rintro e w1 ⟨rfl, hc1, ho1⟩)
      | fail)
    refine bodyPost_ret (results_none rfl _ _ _) rfl ?_
    exact ⟨rfl, hc1, ho1⟩
  | some x =>
    obtain ⟨k, hk⟩ : ∃ k, plN L p = k := ⟨_, rfl⟩
    rw [hk] at hx
    obtain ⟨hkl, -⟩ := List.getElem?_eq_some_iff.1 hx
    have hz : plZ L p = (k : Int) := by rw [plZ, hk, if_pos hkl]
    obtain ⟨g, rfl⟩ := H.some_of (by omega)
    obtain ⟨hxc, hxo⟩ := hE x (List.mem_of_getElem? hx)
    have HP : Hid (Calls Tryz.prog 83 #[cp c, .int .i64 p] w fun e w' => e = .returned (.int .i64 (k : Int)) ∧ Ca w' A c room (some ⟨g, 0, none⟩) cap L ∧ OffS A w w') := by
      refine (place_any w A c room _ cap L H hl p).mono ?_
      rintro e w' ⟨rfl, hb⟩
      exact ⟨ret_int hz, H.below hb, .of_below hb⟩
    obtain ⟨n, hn⟩ : ∃ n, L.length = n := ⟨_, rfl⟩
    have b1 := (not16c x.c hxc cm hcm).1
    have b2 := (or16c cm hcm om hom).1
    have b3 := (not16c x.o hxo (cm ||| om) (or16c cm hcm om hom).2).1
    obtain ⟨o7, h7⟩ : ∃ o7, k * 7 = o7 := ⟨_, rfl⟩
    have hkn : k < n := by omega
    have hk0 : ¬ (k : Int) < 0 := by omega
    have hn6 : n ≤ 1000000 := by omega
    have HQ : Hid (L.length = n ∧ L[k]? = some x ∧ k * 7 = o7) := ⟨hn, hx, h7⟩
    have HW : Hid (∀ W : World, Ca W A c room (some ⟨g, 0, none⟩) cap L → OffS A w W → Hid (Ca ((W.setCell ⟨g, o7 + 1, none⟩ (.int .i64 (sub16 x.c cm : Nat))).setCell ⟨g, o7 + 2, none⟩ (.int .i64 (sub16 x.o (cm ||| om) : Nat))) A c room (some ⟨g, 0, none⟩) cap (L.set k (drE x cm om)) ∧ OffS A w ((W.setCell ⟨g, o7 + 1, none⟩ (.int .i64 (sub16 x.c cm : Nat))).setCell ⟨g, o7 + 2, none⟩ (.int .i64 (sub16 x.o (cm ||| om) : Nat))))) := fun W hW hO => by
      obtain ⟨k1, o1⟩ := hW.putAt HQ.out.2.1 h7 1 (by omega) (.int .i64 (sub16 x.c cm : Nat)) ⟨x.p, sub16 x.c cm, x.o, x.v⟩ rfl
      obtain ⟨k2, o2⟩ := k1.putAt (y := ⟨x.p, sub16 x.c cm, x.o, x.v⟩) (by rw [List.getElem?_set_self hkl]) h7 2 (by omega) (.int .i64 (sub16 x.o (cm ||| om) : Nat)) (drE x cm om) rfl
      rw [List.set_set] at k2
      exact ⟨k2, (hO.trans (o1.mono fun _ h => .inl h)).trans (o2.mono fun _ h => .inl h)⟩
    have HE : Hid (drL L p cm om = if sub16 x.c cm = 0 then L.take k ++ L.drop (k + 1) else L.set k (drE x cm om)) := by unfold Hid drL; rw [hk, hx]
    have hz0 : ((sub16 x.c cm : Nat) : Int) = ((sub16 x.c cm : Nat) : Int) := rfl
    clear H hl hE hx hz hn h7 hxc hxo hz0
    by_cases h0 : sub16 x.c cm = 0
    · have e3 := HE.out
      rw [if_pos h0] at e3
      rw [e3]
      have HD : Hid (∀ W : World, Ca W A c room (some ⟨g, 0, none⟩) cap (L.set k (drE x cm om)) → OffS A w W → Calls Tryz.prog 85 #[cp c, .int .i64 (k : Int)] W fun e w' => (∃ u, e = .returned u) ∧ Ca w' A c room (some ⟨g, 0, none⟩) cap (L.take k ++ L.drop (k + 1)) ∧ OffS A w w') := fun W hW hO => by
        refine (remove_any W A c room g cap _ hW (n - 1) (by rw [List.length_set, HQ.out.1]; omega) (by omega) k (by omega) (drE x cm om) (by rw [List.getElem?_set_self hkl])).mono ?_
        rintro e w' ⟨rfl, u1, u2⟩
        refine ⟨⟨_, rfl⟩, ?_, hO.trans (u2.mono fun _ h => .inl h)⟩
        have e5 : (L.set k (drE x cm om)).take k ++ (L.set k (drE x cm om)).drop (k + 1) = L.take k ++ L.drop (k + 1) := by
          rw [List.take_set_of_le (Nat.le_refl _), List.drop_set_of_lt (by omega)]
        rw [e5] at u1
        exact u1
      have hz0 : (((sub16 x.c cm : Nat) : Int) == 0) = true := by rw [h0]; rfl
      have H0 : Hid (sub16 x.c cm = 0) := h0
      clear e3 HE h0
      generalize sub16 x.c cm = sc at *
      go_enter Tryz.func64, Tryz.ntmps64
      go_upto_region 2 with (first
        | (go_at_call 84; refine (isMask_any _ _).mono ?_; (first | rw [h2] | rw [h3]); rintro e w2 ⟨rfl, hw2⟩; subst w2)
        | (go_at_call 83; refine HP.out.mono ?_; rintro e W ⟨rfl, hc1, ho1⟩)
        | fail)
      have HS := HW.out W hc1 ho1
      have y1 := hc1.c1
      rw [HQ.out.1] at y1
      obtain ⟨hcc, hff⟩ := hc1.cellsAt HQ.out.2.1 HQ.out.2.2
      have c1 := hcc 1 _ rfl
      have c2 := hcc 2 _ rfl
      have f1 := hff (o7 + 1)
      have f2 := hff (o7 + 2)
      have h7 : k * 7 = o7 := HQ.out.2.2
      have hgc : g ≠ c := hc1.ne _ rfl
      clear hcc hff hc1 ho1 HP HW
      go_upto_region 6 with fail
      generalize (W.setCell ⟨g, o7 + 1, none⟩ (.int .i64 (sc : Int))).setCell ⟨g, o7 + 2, none⟩ (.int .i64 (sub16 x.o (cm ||| om) : Nat)) = W2 at *
      go_wp2_with (first
        | (go_at_call 85; refine (HD.out W2 HS.out.1 HS.out.2).mono ?_; rintro e w3 ⟨⟨u, rfl⟩, hc3, ho3⟩)
        | fail)
      go_end0
      exact ⟨rfl, hc3, ho3⟩
    · have e3 := HE.out
      rw [if_neg h0] at e3
      rw [e3]
      have hz0 : (((sub16 x.c cm : Nat) : Int) == 0) = false := by simp; omega
      clear e3 HE h0
      generalize sub16 x.c cm = sc at *
      go_enter Tryz.func64, Tryz.ntmps64
      go_upto_region 2 with (first
        | (go_at_call 84; refine (isMask_any _ _).mono ?_; (first | rw [h2] | rw [h3]); rintro e w2 ⟨rfl, hw2⟩; subst w2)
        | (go_at_call 83; refine HP.out.mono ?_; rintro e W ⟨rfl, hc1, ho1⟩)
        | fail)
      have HS := HW.out W hc1 ho1
      have y1 := hc1.c1
      rw [HQ.out.1] at y1
      obtain ⟨hcc, hff⟩ := hc1.cellsAt HQ.out.2.1 HQ.out.2.2
      have c1 := hcc 1 _ rfl
      have c2 := hcc 2 _ rfl
      have f1 := hff (o7 + 1)
      have f2 := hff (o7 + 2)
      have h7 : k * 7 = o7 := HQ.out.2.2
      clear hcc hff hc1 ho1 HP HW
      go_wp2
      go_end0
      exact ⟨rfl, HS.out⟩

theorem dropX {B S : Nat} {W : World} {c : Nat} {room : Int} {L : List En} (H : Cx B S W c room L) (hl : L.length ≤ 1000000) (hE : EsOk L) (p : Int) (cm om : Nat) (hcm : cm < 16) (hom : om < 16) :
    Calls Tryz.prog 64 #[cp c, .int .i64 p, .int .i64 (cm : Int), .int .i64 (om : Int)] W fun e w' => e = .returned (.tuple #[]) ∧ Cx B w'.heap.size w' c room (drL L p cm om) ∧ OffS (fun k => B ≤ k ∧ k < S) W w' := by
  have hb := H.base
  have hs := H.le
  obtain ⟨ao, cap, h⟩ := H.cw
  refine (drop_any W _ c room ao cap L h hl hE p cm om hcm hom).mono ?_
  rintro e w' ⟨rfl, u1, u2⟩
  exact ⟨rfl, Cx.of_nx (by omega) hs (Nx.of_ca u1 u2)⟩

/-! ### Masks stay masks -/

theorem EsOk.append {L M : List En} (h : EsOk L) (k : EsOk M) : EsOk (L ++ M) := fun x hx => by
  rcases List.mem_append.1 hx with h' | h'
  · exact h x h'
  · exact k x h'
theorem EsOk.take {L : List En} (h : EsOk L) (n : Nat) : EsOk (L.take n) := fun x hx => h x (List.mem_of_mem_take hx)
theorem EsOk.drop {L : List En} (h : EsOk L) (n : Nat) : EsOk (L.drop n) := fun x hx => h x (List.mem_of_mem_drop hx)
theorem EsOk.one {x : En} (h : x.c < 16 ∧ x.o < 16) : EsOk [x] := fun y hy => by
  obtain rfl : y = x := by simpa using hy
  exact h
theorem EsOk.mrL {L : List En} (h : EsOk L) (room : Int) (ks : List Int) : EsOk (mrL L room ks) := by
  unfold Go.Proofs.YtmmgdmfdiaoegaaGreat.mrL
  split
  · exact h
  · split
    · exact (h.take _).append (h.drop _)
    · exact h
theorem EsOk.putL {L : List En} (h : EsOk L) (room : Int) (ks : List Int) (p cm om : Nat) (hp : PutOk p cm om) (v : Nat → Nat × Nat) : EsOk (putL L room ks p cm om v) := by
  unfold Go.Proofs.YtmmgdmfdiaoegaaGreat.putL
  split
  · exact ((h.take _).append (h.drop _)).append (EsOk.one ⟨hp.c16, hp.o16⟩)
  · split
    · exact (h.mrL _ _).append (EsOk.one ⟨hp.c16, hp.o16⟩)
    · exact h
theorem EsOk.drL {L : List En} (h : EsOk L) (p : Int) (cm om : Nat) (hcm : cm < 16) (hom : om < 16) : EsOk (drL L p cm om) := by
  unfold Go.Proofs.YtmmgdmfdiaoegaaGreat.drL
  cases hx : L[plN L p]? with
  | none => exact h
  | some x =>
    have hxx := h x (List.mem_of_getElem? hx)
    simp only
    split
    · exact (h.take _).append (h.drop _)
    · intro y hy
      rcases List.mem_or_eq_of_mem_set hy with h' | rfl
      · exact h y h'
      · exact ⟨(not16c x.c hxx.1 cm hcm).2, (not16c x.o hxx.2 _ (or16c cm hcm om hom).2).2⟩

end Go.Proofs.YtmmgdmfdiaoegaaGreat
