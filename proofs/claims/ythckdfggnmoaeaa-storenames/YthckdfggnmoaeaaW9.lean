/- What Scan of package wal does with the bytes of commits, walked. -/
import Derived.Test.YthckdfggnmoaeaaW8
import Derived.ScopeJumps
namespace Go.Proofs.Ythckdfggnmoaeaa
open Go.RowKit
set_option linter.unusedVariables false

/-- The numbers follow on each other. -/
def Chain (L : List Bt) : Prop := ∀ i p q, L[i]? = some p → L[i + 1]? = some q → q.lsn = p.lsn + 1

/-- The bytes of commits. -/
def rowN (L : List Bt) : List Nat := L.flatMap wbN

theorem rowN_snoc (L : List Bt) (k : Nat) (h : k < L.length) : rowN (L.take (k + 1)) = rowN (L.take k) ++ wbN L[k] := by
  rw [List.take_succ_eq_append_getElem h, rowN, List.flatMap_append]
  simp [rowN]

theorem rowN_split (L : List Bt) (k : Nat) : rowN L = rowN (L.take k) ++ rowN (L.drop k) := by
  rw [rowN, rowN, rowN, ← List.flatMap_append, List.take_append_drop]

theorem rowN_drop (L : List Bt) (k : Nat) (h : k < L.length) : rowN (L.drop k) = wbN L[k] ++ rowN (L.drop (k + 1)) := by
  rw [List.drop_eq_getElem_cons h]
  rfl

theorem rowN_bytes (L : List Bt) : ∀ x ∈ rowN L, x < 256 := by
  intro x hx
  obtain ⟨b, _, h⟩ := List.mem_flatMap.1 hx
  exact wbN_bytes b x h

theorem row_at {w : World} {ao : Option Addr} {n cap : Nat} {L : List Bt} (h : Rd8 w ao n cap (rowN L)) (k p : Nat) (hk : k < L.length) (hp : (rowN (L.take k)).length = p) : Rd8 w (if cap = p then ao else ao.map (fun x => x.add p)) (n - p) (cap - p) (wbN L[k] ++ rowN (L.drop (k + 1))) := by
  have hs := rowN_split L k
  have hl := h.len
  rw [hs, List.length_append, hp] at hl
  have h1 := h.rd.tail p (by rw [ci_length, h.len]; omega)
  have e : (ci (rowN L)).drop p = ci (wbN L[k] ++ rowN (L.drop (k + 1))) := by
    rw [hs, ci_append, List.drop_append_of_le_length (by rw [ci_length]; omega), List.drop_of_length_le (by rw [ci_length]; omega), List.nil_append, rowN_drop L k hk]
  rw [e] at h1
  refine ⟨h1, by rw [← rowN_drop L k hk]; omega, ?_⟩
  intro x hx
  rw [← rowN_drop L k hk] at hx
  exact rowN_bytes _ x hx

theorem take_chain (L : List Bt) (hc : Chain L) (k : Nat) (hk : k < L.length) : L.take k = [] ∨ L[k].lsn = lastL (L.take k) + 1 := by
  cases k with
  | zero => exact .inl rfl
  | succ k =>
    refine .inr ?_
    have e : lastL (L.take (k + 1)) = L[k].lsn := by
      have e1 : (L.take (k + 1)).length - 1 = k := by rw [List.length_take]; omega
      rw [lastL, List.getLast?_eq_getElem?, e1, List.getElem?_take_of_lt (by omega), List.getElem?_eq_getElem (by omega)]
      rfl
    rw [e]
    exact hc k L[k] L[k + 1] (List.getElem?_eq_getElem _) (List.getElem?_eq_getElem _)

theorem info31 : (Try.prog.info? 53).map (fun i => (i.zero, i.size, i.bytes)) = some (some (.agg #[.int .i64 0, .int .i64 0, .int .i64 0, .int .i64 0, .slice none 0 0]), 5, 56) := by kernel_rfl

/-- One more is found. -/
theorem wpList_append_fnd (w : World) {ops : Array Oper} {rest : List Oper} {o : Oper} {a : Act} {Q : Exit → Act → World → Prop} (hgd : o.guard = none) (s x : Operand)
    (ho : o.op = .call { callee := .builtin .append, args := #[s, x], argTypes := #[44, 44] })
    (base : Nat) (v : Value) (L : List Bt) (b : Bt) (ap : Option Addr) (W : World) (hw : w = W.alloc (btO b.lsn b.cl b.ep b.tx ap b.ps.length b.ps.length)) (hs : a.eval s = v) (hx : a.eval x = .slice (some ⟨W.heap.size, 0, none⟩) 1 1) (hF : Fnd w base v L) (hP : OwnP w base ap b.ps.length (b.ps.map PutG.can)) (hl : L.length ≤ 20000) (hb : base ≤ w.heap.size)
    (h : ∀ v' w', Fnd w' base v' (L ++ [b]) → Below base w w' → wpList Try.prog ops Q rest (a.put o.dst v') w') : wpList Try.prog ops Q (o :: rest) a w := by
  obtain ⟨i, hi, hz, hsz, hby⟩ := info_parts info31
  obtain ⟨ao, cap, hv, hblk⟩ := hF.shape
  obtain ⟨R, hR, hps, hown⟩ := hF
  have hB := BtAt.new W b.lsn b.cl b.ep b.tx ap b.ps.length b.ps.length
  refine wpList_append_own (P := Try.prog) w hgd s x 44 ho base 53 i _ 5 56 Try.underlying44 hi hz hsz hby rfl (by omega) v L.length (rowC R) hs hown ⟨W.heap.size, 0, none⟩ 1 1 (btC b ap) hx rfl ?_ ?_ (by unfold maxLen; omega) (by omega) hb ?_
  · intro j u hj
    subst hw
    rw [Addr.add_lit, Nat.zero_add]
    match j, hj with
    | 0, hj => cases hj; exact hB.c0
    | 1, hj => cases hj; exact hB.c1
    | 2, hj => cases hj; exact hB.c2
    | 3, hj => cases hj; exact hB.c3
    | 4, hj => cases hj; exact hB.c4
    | (j + 5), hj => simp [btC] at hj
  · have := rowC_one [(b, ap)]
    simpa [rowC] using this
  · intro v' w' h1 h2 _
    have hkp : ∀ g, base ≤ g → g < w.heap.size → PTag w g → w'.heap[g]? = w.heap[g]? := by
      intro g _ hg2 ⟨cs, hcs⟩
      refine h2.block g hg2 fun e2 => ?_
      rcases hown.2 with ⟨hv2, _⟩ | ⟨g', cp', cur', kv, _, kh, _⟩
      · rw [hv2] at e2; simp [Value.ownBlock] at e2
      · rw [kv] at e2
        simp [Value.ownBlock] at e2
        subst e2
        rw [hcs] at kh
        simp only [Option.some.injEq, Obj.cells.injEq] at kh
        exact absurd kh.2.1 (by decide)
    refine h v' w' ⟨R ++ [(b, ap)], by simp [hR], fun r hr => ?_, ?_⟩ ?_
    · rcases List.mem_append.1 hr with hr | hr
      · exact (hps r hr).keep hkp h2.size
      · simp only [List.mem_cons, List.not_mem_nil, or_false] at hr
        subst hr
        exact hP.keep hkp h2.size
    · have e : rowC (R ++ [(b, ap)]) = rowC R ++ btC b ap := by simp [rowC, List.flatMap_append]
      rw [e, List.length_append]
      exact h1
    · rw [hv] at h2
      exact grown_below h2 (fun y hy => (hblk y hy).1) hb

/-- A scope whose label is come to from above, too. -/
theorem wp_scope_label {P : Program} {a : Act} {w : World} {Q : Exit → Act → World → Prop} {c rest : Code} (l : Nat) (J : Act → World → Prop) (μ : Act → World → Nat) (hf : findLabel c l = some (Code.skip.seq rest))
    (first : (∀ a w, J a w → rest.wp P (Exit.jump l J Q) a w) → c.wp P (Exit.jump l J Q) a w)
    (pass : ∀ a w, J a w → rest.wp P (Exit.jump l (fun a' w' => J a' w' ∧ μ a' w' < μ a w) Q) a w) : (Code.scope c).wp P Q a w := by
  refine wp_scope_jumps l J μ hf (first fun a w h => wp_mono (pass a w h) ?_) fun a w h => wp_seq (wp_skip (pass a w h))
  intro e a w hq
  cases e with
  | goto l' => exact ⟨hq.1, hq.2.1⟩
  | _ => exact hq

set_option maxRecDepth 1000000 in
set_option maxHeartbeats 1600000 in
theorem scan_ok (L : List Bt) (ao : Option Addr) (n cap : Nat) (w : World) (h : Rd8 w ao n cap (rowN L)) (hok : ∀ b ∈ L, BtOk b) (hch : Chain L) (hn : n ≤ 20000) :
    Calls Try.prog 29 #[.slice ao n cap] w fun x w' => ∃ v, x = .returned (.tuple #[v, .int .i64 (n : Int)]) ∧ Fnd w' w.heap.size v L ∧ Below w.heap.size w w' := by
  have hle := h.rd.le
  rw [ci_length, h.len] at hle
  have HR : Hid (Rd8 w ao n cap (rowN L)) := h
  have HOK : Hid (∀ b ∈ L, BtOk b) := hok
  have HC : Hid (Chain L) := hch
  have HLL : Hid (L.length ≤ 20000) := by
    have h1 := h.len
    have h2 : L.length ≤ (rowN L).length := by
      clear h HR hok hch hn hle h1 HOK HC
      induction L with
      | nil => simp
      | cons b r ih =>
        have e : rowN (b :: r) = wbN b ++ rowN r := rfl
        rw [e, List.length_append, wbN_length, List.length_cons]
        omega
    show L.length ≤ 20000
    omega
  clear h hok hch
  go_enter Try.func29, Try.ntmps29
  go_wp2
  obtain ⟨J, hJ⟩ : ∃ J : Act → World → Prop, ∀ a' w', J a' w' ↔ ∃ (k : Nat) (z : Int) (v : Value) (u1 u2 u3 u6 u7 u8 u9 u10 u11 u12 u13 u14 u15 u16 u17 u18 u19 u20 u21 u22 u23 u24 u25 u26 u27 u28 u29 u30 u31 u32 u33 : Value), k ≤ L.length ∧ z = ((rowN (L.take k)).length : Int) ∧ a' = { tmps := #[.slice ao n cap, u1, u2, u3, v, .int .i64 z, u6, u7, u8, u9, u10, u11, u12, u13, u14, u15, u16, u17, u18, u19, u20, u21, u22, u23, u24, u25, u26, u27, u28, u29, u30, u31, u32, u33], defers := [] } ∧ Fnd w' w.heap.size v (L.take k) ∧ Below w.heap.size w w' := ⟨_, fun _ _ => Iff.rfl⟩
  have HJ : Hid _ := hJ
  clear hJ
  refine wp_scope_label 0 J (fun a' _ => n - (intOf (a'.tmps.getD 5 undef)).toNat) rfl ?_ ?_
  · intro hpass
    go_wp2
    go_step3
    rename_i hK
    exact hK _ _ <| hpass _ _ <| (HJ.out _ _).2 ⟨0, 0, .slice none 0 0, _, _, _, _, _, _, _, _, _, _, _, _, _, _, _, _, _, _, _, _, _, _, _, _, _, _, _, _, _, _, _, Nat.zero_le _, rfl, rfl, Fnd.nil w w.heap.size, Below.refl _ _⟩
  · intro a' w' hJa
    obtain ⟨k, z, v, u1, u2, u3, u6, u7, u8, u9, u10, u11, u12, u13, u14, u15, u16, u17, u18, u19, u20, u21, u22, u23, u24, u25, u26, u27, u28, u29, u30, u31, u32, u33, hk, rfl, rfl, hF, hbel⟩ := (HJ.out _ _).1 hJa
    clear hJa
    have hlp := rowN_split L k
    have hln := HR.out.len
    rw [hlp, List.length_append] at hln
    obtain ⟨p, hp⟩ : ∃ p, (rowN (L.take k)).length = p := ⟨_, rfl⟩
    rw [hp] at hln ⊢
    by_cases hlt : k < L.length
    · have hx := row_at (HR.out.below hbel) k p hlt hp
      have hw1 := wbN_length L[k]
      have hsn := rowN_snoc L k hlt
      have hfo := take_chain L HC.out k hlt
      have hbk := HOK.out L[k] (List.getElem_mem _)
      rw [rowN_drop L k hlt, List.length_append, hw1] at hln
      have HT : Hid (L.take (k + 1) = L.take k ++ [L[k]]) := List.take_succ_eq_append_getElem hlt
      have HN : Hid (((rowN (L.take (k + 1))).length : Int) = (p : Int) + (20 + 22 * (L[k].ps.length : Int))) := by
        show ((rowN (L.take (k + 1))).length : Int) = _
        rw [hsn, List.length_append, hp, hw1]; omega
      have hpn : p + (20 + 22 * L[k].ps.length) ≤ n := by omega
      rw [if_neg (by omega)] at hx
      generalize L[k] = b at *
      have HX : Hid (Rd8 w' (ao.map (fun x => x.add p)) (n - p) (cap - p) (wbN b ++ rowN (L.drop (k + 1)))) := hx
      have HF : Hid (L.take k = [] ∨ b.lsn = lastL (L.take k) + 1) := hfo
      have HB : Hid (BtOk b) := hbk
      have HTL : Hid ((L.take k).length ≤ 20000) := by
        have := HLL.out
        show (L.take k).length ≤ 20000
        rw [List.length_take]; omega
      clear hx hfo hbk hsn hlp hln hw1
      go_wp2_with (first
        | (at_builtin; refine wpList_append_fnd _ rfl _ _ rfl w.heap.size v (L.take k) b ap _ rfl rfl rfl hF4 hP4 HTL.out ?_ ?_; (have := hB3.size; simp; omega); intro v4 w4 hF5 hb4)
        | (go_at_call 48; refine (follows_ok v (L.take k) w.heap.size b ap _ _ _ (hF2.below (below_box _ _)) HTL.out HB.out HF.out).mono ?_; rintro x w3 ⟨rfl, hb3⟩; have hq := (BtAt.new w2 b.lsn b.cl b.ep b.tx ap b.ps.length b.ps.length).below hb3; have q0 := hq.c0; have q1 := hq.c1; have q2 := hq.c2; have q3 := hq.c3; have q4 := hq.c4; clear hq; have hB3 : Below w.heap.size w w3 := below_step hB2 (below_alloc (hb3.mono (by simp))); have hF4 := ((hF2.below (below_box w2 (btO b.lsn b.cl b.ep b.tx ap b.ps.length b.ps.length))).below hb3).below (below_box w3 (btO b.lsn b.cl b.ep b.tx ap b.ps.length b.ps.length)); have hP4 := ((hP2.below (below_box w2 (btO b.lsn b.cl b.ep b.tx ap b.ps.length b.ps.length))).below hb3).below (below_box w3 (btO b.lsn b.cl b.ep b.tx ap b.ps.length b.ps.length)))
        | (go_at_call 47; refine (first_ok b _ _ _ _ _ HB.out HX.out (by omega)).mono ?_; rintro x w2 ⟨ap, rfl, hP2a, hb2⟩; have hP2 := hP2a.mono hbel.size; clear hP2a; have hB2 : Below w.heap.size w w2 := below_step hbel hb2; have hF2 := hF.below hb2)
        | (fail))
      go_step3
      refine ⟨rfl, (HJ.out _ _).2 ⟨k + 1, _, v4, _, _, _, _, _, _, _, _, _, _, _, _, _, _, _, _, _, _, _, _, _, _, _, _, _, _, _, _, _, _, _, by omega, HN.out.symm, rfl, by rw [HT.out]; exact hF5, (hB3.alloc hB3.size _).trans hb4⟩, ?_⟩
      simp [intOf]; omega
    · have hkl : k = L.length := by omega
      subst hkl
      rw [List.drop_of_length_le (Nat.le_refl _)] at hln
      have hpn : p = n := by simpa [rowN] using hln
      subst hpn
      rw [List.take_of_length_le (Nat.le_refl _)] at hF
      clear hlp hln hp
      go_wp2_with (first
        | (go_at_call 47; refine (first_short _ _ _ _ (by omega)).mono ?_; rintro x w2 ⟨rfl, hb2⟩)
        | (fail))
      all_goals (
        simp only [Exit.jump]
        go_returns
        exact ⟨v, rfl, (hF.below hb2).below (below_box _ _), (below_step hbel hb2).alloc (below_step hbel hb2).size _⟩)

end Go.Proofs.Ythckdfggnmoaeaa
