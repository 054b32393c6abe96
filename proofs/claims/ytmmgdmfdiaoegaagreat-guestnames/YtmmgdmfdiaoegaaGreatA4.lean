/- end of package agent, walked: whoever was put off gets way. -/
import Derived.Test.YtmmgdmfdiaoegaaGreatA3
namespace Go.Proofs.YtmmgdmfdiaoegaaGreat
open Go.RowKit
set_option linter.unusedVariables false
set_option maxRecDepth 8000

def gv1 (x : As × List Mg) (M : Mg) : As × List Mg := (gvS x.1 M.p.toNat M.o.toNat M.wr, x.2 ++ [gvM x.1 M.p.toNat M.o.toNat M.wr])
def gvF (s : As) (K : List Mg) : As × List Mg := K.foldl gv1 (s, [])
theorem gvF_step (s : As) (K : List Mg) (k : Nat) (h : k < K.length) : gvF s (K.take (k + 1)) = gv1 (gvF s (K.take k)) K[k] := by
  unfold gvF
  rw [List.take_succ_eq_append_getElem h, List.foldl_append]
  rfl
theorem gv_fold : ∀ (K : List Mg) (x : As × List Mg), (K.foldl gv1 x).1.K = x.1.K ∧ (K.foldl gv1 x).2.length = x.2.length + K.length
  | [], x => ⟨rfl, rfl⟩
  | M :: K, x => by
    obtain ⟨h1, h2⟩ := gv_fold K (gv1 x M)
    rw [List.foldl_cons]
    refine ⟨h1, ?_⟩
    rw [h2]
    simp [gv1]
    omega
theorem gvF_K (s : As) (K : List Mg) : (gvF s K).1.K = s.K := (gv_fold K _).1
theorem gvF_len (s : As) (K : List Mg) : (gvF s K).2.length = K.length := by
  have := (gv_fold K (s, [])).2
  rw [List.length_nil, Nat.zero_add] at this
  exact this
/-- A call of an object that there is. -/
def CallOk (M : Mg) : Prop := ∃ p o : Nat, p < 6 ∧ o < 4 ∧ M.p = p ∧ M.o = o

theorem giveWay_call {w : World} {A : Nat → Prop} {a c : Nat} {pq ko : Option Addr} {kc : Nat} {s : As} (H : Ag w A a c pq ko kc s) (M : Mg) (hM : CallOk M) : Calls Tryz.prog 42 #[cp a, mgV M] w fun e w' => e = .returned (mgV (gvM s M.p.toNat M.o.toNat M.wr)) ∧ Ag w' (nwA A w w') a c pq ko kc (gvS s M.p.toNat M.o.toNat M.wr) ∧ OffS A w w' := by
  obtain ⟨p, o, hp, ho, e1, e2⟩ := hM
  have h := giveWay_any H M p o hp ho e1 e2
  rw [e1, e2, Int.toNat_natCast, Int.toNat_natCast]
  exact h

/-- The agent whose transaction is over. -/
def endS (s : As) : As := { (gvF (forS s) s.K).1 with K := [] }

/-- In the loop: the agent, and the row of what is sent. -/
structure Ed (A : Nat → Prop) (w wr : World) (a c : Nat) (ko : Option Addr) (kc : Nat) (s : As) (lo : Option Addr) (lc : Nat) (Ms : List Mg) : Prop where
  ag : ∃ A', (∀ k, A' k → (A k ∨ w.heap.size ≤ k) ∧ ¬ Ro lo k) ∧ Ag wr A' a c none ko kc s
  off : OffS A w wr
  own : OwR mgC 12 73 wr lo lc Ms
  new : ∀ p, lo = some p → w.heap.size ≤ p.block

section
variable {A : Nat → Prop} {w wr w2 w3 w4 : World} {a c : Nat} {ko : Option Addr} {kc : Nat} {s s2 : As} {lo l2 : Option Addr} {lc c2 : Nat} {Ms Ns : List Mg}
theorem Ed.below (h : Ed A w wr a c ko kc s lo lc Ms) (hb : Below wr.heap.size wr w2) : Ed A w w2 a c ko kc s lo lc Ms := by
  obtain ⟨A', h1, h2⟩ := h.ag
  exact ⟨⟨A', h1, h2.below hb⟩, h.off.trans (OffS.of_below hb), h.own.below hb, h.new⟩
theorem Ed.sz (h : Ed A w wr a c ko kc s lo lc Ms) : w.heap.size ≤ wr.heap.size := h.off.size
/-- A step of the agent. -/
theorem Ed.step (h : Ed A w wr a c ko kc s lo lc Ms) {A' : Nat → Prop} (hA : ∀ k, A' k → (A k ∨ w.heap.size ≤ k) ∧ ¬ Ro lo k) (h1 : Ag w2 (nwA A' wr w2) a c none ko kc s2) (h2 : OffS A' wr w2) : Ed A w w2 a c ko kc s2 lo lc Ms := by
  refine ⟨⟨_, ?_, h1⟩, h.off.trans (h2.mono fun k hk => (hA k hk).1), h.own.keep fun p hp hl => h2.block _ hl fun e => (hA _ e).2 ⟨p, hp, rfl⟩, h.new⟩
  rintro k (hk | hk)
  · exact hA k hk
  · refine ⟨.inr (Nat.le_trans h.off.size hk.1), ?_⟩
    rintro ⟨p, hp, e⟩
    have := (h.own.lt p hp).1
    omega
/-- An append to the row. -/
theorem Ed.app (h : Ed A w wr a c ko kc s lo lc Ms) (hg : wr.grownBy w2 (lo.map (·.block))) (ho : OwR mgC 12 73 w2 l2 c2 Ns) (hl : l2 = lo ∨ l2 = some ⟨wr.heap.size, 0, none⟩) (hA0 : ∀ k, A k → k < w.heap.size) : Ed A w w2 a c ko kc s l2 c2 Ns := by
  obtain ⟨A', h1, h2⟩ := h.ag
  refine ⟨⟨A', fun k hk => ⟨(h1 k hk).1, ?_⟩, h2.keep hg.size fun k hk => hg.block k (h2.lt k hk) ?_⟩, h.off.trans (OffS.grown hg ?_), ho, ?_⟩
  · rcases hl with rfl | rfl
    · exact (h1 k hk).2
    · rintro ⟨p, hp, e⟩
      cases hp
      have := h2.lt k hk
      have e' : wr.heap.size = k := e
      omega
  · intro e
    cases hlo : lo with
    | none => rw [hlo] at e; cases e
    | some p =>
      rw [hlo] at e
      cases e
      exact (h1 _ hk).2 ⟨p, hlo, rfl⟩
  · intro k hk
    cases hlo : lo with
    | none => rw [hlo] at hk; cases hk
    | some p =>
      rw [hlo] at hk
      cases hk
      exact .inr (h.new p hlo)
  · intro p hp
    rcases hl with rfl | rfl
    · exact h.new p hp
    · cases hp
      exact h.off.size
end

theorem ret_slice {lo : Option Addr} {n m lc : Nat} (h : n = m) : Ending.returned (.slice lo n lc) = .returned (.slice lo m lc) := by rw [h]

set_option maxHeartbeats 1600000 in
theorem end_any {w : World} {A : Nat → Prop} {a c : Nat} {pq ko : Option Addr} {kc : Nat} {s : As} (H : Ag w A a c pq ko kc s) (hK : ∀ M ∈ s.K, CallOk M) (hn : s.K.length ≤ 1000) : Calls Tryz.prog 28 #[cp a] w fun e w' => ∃ lo lc, e = .returned (.slice lo s.K.length lc) ∧ RdR mgC w' lo lc (gvF (forS s) s.K).2 ∧ Ng w w' A a (endS s) (Ro lo) ∧ (∀ p, lo = some p → w.heap.size ≤ p.block) := by
  have hst := fun (ad : Addr) (re im : Nat) (W : World) => run_store Tryz.prog W ad (.complex .f64 re im) .plain rfl
  obtain ⟨n, hln⟩ : ∃ n, s.K.length = n := ⟨_, rfl⟩
  have HA : Hid (Ag w A a c pq ko kc s ∧ (∀ M ∈ s.K, CallOk M) ∧ s.K.length = n) := ⟨H, hK, hln⟩
  rw [hln] at hn
  rw [hln]
  have HF : Hid (Calls Tryz.prog 41 #[cp a] w fun e w' => e = .returned (.tuple #[]) ∧ w'.cell? ⟨a, 40, none⟩ = some (.slice ko n kc) ∧ Hid (Ag w' A a c none ko kc (forS s) ∧ OffS (fun k => k = a) w w')) := by
    refine (forget_any H).mono ?_
    rintro e w' ⟨rfl, h1, h2⟩
    refine ⟨rfl, ?_, h1, h2⟩
    have := h1.ck
    rw [← hln]
    exact this
  clear H hK hln
  go_enter Tryz.func28, Tryz.ntmps28
  go_wp2_with (first
    | (go_at_call 41; refine HF.out.mono ?_; rintro e w1 ⟨rfl, hc1, H1⟩)
    | fail)
  have HE : Hid (Ed A w w1 a c ko kc (forS s) none 0 []) := ⟨⟨A, fun k hk => ⟨.inl hk, by rintro ⟨p, hp, _⟩; cases hp⟩, H1.out.1⟩, H1.out.2.mono fun k hk => (show k = a from hk) ▸ HA.out.1.aa, OwR.nil _ _, fun p hp => by cases hp⟩
  clear hc1 H1 HF
  go_loopw [3, 13] (fun t i wr => ∃ (k : Nat) (lo : Option Addr) (lc : Nat), k ≤ n ∧ i = .int .i64 k ∧ t = .slice lo k lc ∧ Hid (Ed A w wr a c ko kc (gvF (forS s) (s.K.take k)).1 lo lc (gvF (forS s) (s.K.take k)).2)) (fun _ i _ => n - (intOf i).toNat)
  case atStart => exact ⟨0, none, 0, Nat.zero_le _, rfl, rfl, HE⟩
  case round =>
    obtain ⟨k, lo, lc, hk, rfl, rfl, HI⟩ := hrel
    rename World => wr
    clear HE w1
    have HL : Hid ((gvF (forS s) (s.K.take k)).1.K = s.K ∧ (gvF (forS s) (s.K.take k)).2.length = k) := ⟨gvF_K _ _, by rw [gvF_len, List.length_take, HA.out.2.2]; omega⟩
    by_cases hlt : k < n
    · have hkl : k < s.K.length := by rw [HA.out.2.2]; exact hlt
      have HS : Hid (gvF (forS s) (s.K.take (k + 1)) = gv1 (gvF (forS s) (s.K.take k)) s.K[k]) := gvF_step _ _ _ hkl
      have HM : Hid (CallOk s.K[k]) := HA.out.2.1 _ (List.getElem_mem _)
      have HR : Hid (∃ b off, ko = some ⟨b, off, none⟩ ∧ b < wr.heap.size ∧ ∀ j u, (mgC s.K[k])[j]? = some u → wr.cell? ⟨b, off + k * 12 + j, none⟩ = some u) := by
        obtain ⟨A', h1, h2⟩ := HI.out.ag
        have h3 := h2.k
        rw [HL.out.1] at h3
        exact h3.rd.at mgE hkl
      obtain ⟨b, off, rfl, hb, hc⟩ := HR.out
      generalize s.K[k] = M at *
      have y0 := hc 0 _ rfl
      have y1 := hc 1 _ rfl
      have y2 := hc 2 _ rfl
      have y3 := hc 3 _ rfl
      have y4 := hc 4 _ rfl
      have y5 := hc 5 _ rfl
      have y6 := hc 6 _ rfl
      have y7 := hc 7 _ rfl
      have y8 := hc 8 _ rfl
      have y9 := hc 9 _ rfl
      have yA := hc 10 _ rfl
      have yB := hc 11 _ rfl
      simp only [Nat.add_zero] at y0
      clear hc HR
      generalize gvF (forS s) (s.K.take k) = G at *
      obtain ⟨R, hR⟩ : ∃ R, gvM G.1 M.p.toNat M.o.toNat M.wr = R := ⟨_, rfl⟩
      have HG : Hid (Calls Tryz.prog 42 #[cp a, mgV M] (wr.alloc (mgO M)) fun e w' => e = .returned (mgV R) ∧ Hid (Ed A w w' a c (some ⟨b, off, none⟩) kc (gv1 G M).1 lo lc G.2)) := by
        have h0 : Below wr.heap.size wr (wr.alloc (mgO M)) := (Below.refl _ _).alloc (Nat.le_refl _) _
        have hE := HI.out.below h0
        obtain ⟨A', h1, h2⟩ := hE.ag
        refine (giveWay_call h2 M HM.out).mono ?_
        rintro e w' ⟨rfl, h3, h4⟩
        exact ⟨by rw [hR], hE.step h1 h3 h4⟩
      have HGR : Hid ((gv1 G M).2 = G.2 ++ [R]) := by rw [← hR]; rfl
      clear hR HM hkl
      go_wp2_with (first
        | (at_builtin; refine wpList_append_R mgE _ rfl _ _ 54 rfl 73 _ 144 Tryz.underlying54 info50 rfl rfl rfl (H3.out.below ((Below.refl _ _).alloc (Nat.le_refl _) _)).own (RdR.built mgE w3 73 _ [R] rfl 1 rfl (by decide)) HL.out.2 rfl (by omega) (by unfold maxLen; omega) ?_; intro l2 c2 w4 ho4 hg4 hl4)
        | (go_at_call 42; refine HG.out.mono ?_; rintro e w3 ⟨rfl, H3⟩)
        | fail)
      go_roundw
      case rel =>
        refine ⟨k + 1, l2, c2, by omega, by go_num, rfl, ?_⟩
        have h5 := (H3.out.below ((Below.refl _ _).alloc (Nat.le_refl _) _)).app hg4 ho4 hl4 HA.out.1.lt
        rw [Hid, HS.out, HGR.out]
        exact h5
      case measure => simp [intOf]; omega
    · have hkn : k = n := by omega
      subst hkn
      have HT : Hid (s.K.take k = s.K) := List.take_of_length_le (by rw [HA.out.2.2]; exact Nat.le_refl _)
      obtain ⟨A', h1, h2⟩ := HI.out.ag
      have HX : Hid ((∀ j, A' j → (A j ∨ w.heap.size ≤ j) ∧ ¬ Ro lo j) ∧ Ag wr A' a c none ko kc (gvF (forS s) (s.K.take k)).1) := ⟨h1, h2⟩
      have hck := h2.ck
      have hfk := h2.fz 40
      clear h1 h2
      go_wp2
      go_ret
      have h3 := HX.out.2.recall A' wr (Nat.le_refl _) (fun _ _ _ => rfl) none 0 [] (OwR.nil _ _) (fun _ h => h) HX.out.2.lt (fun p hp => by cases hp)
      refine ⟨lo, lc, rfl, ?_, ?_, HI.out.new⟩
      · have h4 := HI.out.own.rd
        rw [HT.out] at h4
        refine h4.keep (by simp) fun p hp hl => Below.heap_setCell _ _ _ _ ?_
        intro e
        exact (HX.out.1 a HX.out.2.aa).2 ⟨p, hp, e⟩
      · have h5 : endS s = { (gvF (forS s) (s.K.take k)).1 with K := [] } := by unfold endS; rw [HT.out]
        rw [h5]
        exact Ng.of h3 HX.out.1 (HI.out.off.trans ((OffS.refl _ _).setCell (a := ⟨a, 40, none⟩) (HX.out.1 a HX.out.2.aa).1 _))

end Go.Proofs.YtmmgdmfdiaoegaaGreat
