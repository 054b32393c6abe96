/- What Map of package store does, walked, out of what Get does with each page. -/
import Derived.Test.YthckdfggnmoaeaaQ5
import Derived.Maps.AppendAt
namespace Go.Proofs.Ythckdfggnmoaeaa
open Go.RowKit
set_option linter.unusedVariables false

/-- A page. -/
structure Pg where
  l : Int
  a : Nat × Nat
  b : Nat × Nat
  c : Nat × Nat
  d : Nat × Nat

/-- The cells of a page. -/
def pgC (x : Pg) : List Value := [.int .i64 x.l, .complex .f64 x.a.1 x.a.2, .complex .f64 x.b.1 x.b.2, .complex .f64 x.c.1 x.c.2, .complex .f64 x.d.1 x.d.2]

def rowPg (R : List Pg) : List Value := R.flatMap pgC

theorem rowPg_length (R : List Pg) : (rowPg R).length = R.length * 5 := by
  induction R with
  | nil => rfl
  | cons r s ih =>
    have e : rowPg (r :: s) = pgC r ++ rowPg s := rfl
    rw [e, List.length_append, ih, List.length_cons]
    simp [pgC]; omega

theorem rowPg_get (R : List Pg) : ∀ i (h : i < R.length) j, j < 5 → (rowPg R)[i * 5 + j]? = (pgC R[i])[j]? := by
  induction R with
  | nil => intro i h; simp at h
  | cons r s ih =>
    intro i h j hj
    have e : rowPg (r :: s) = pgC r ++ rowPg s := rfl
    have l5 : (pgC r).length = 5 := rfl
    rw [e]
    cases i with
    | zero => rw [Nat.zero_mul, Nat.zero_add, List.getElem?_append_left (by omega)]; rfl
    | succ i =>
      rw [List.getElem?_append_right (by omega), l5, show (i + 1) * 5 + j - 5 = i * 5 + j by omega]
      simpa using ih i (by simpa using h) j hj

/-- The slice holds these pages and is the call's own. -/
def Pgs (w : World) (base : Nat) (v : Value) (R : List Pg) : Prop := w.ownsRow base 42 5 v R.length (rowPg R)

theorem Pgs.keep {w w' : World} {base : Nat} {v : Value} {R : List Pg} (h : Pgs w base v R) (hb : ∀ k, base ≤ k → k < w.heap.size → w'.heap[k]? = w.heap[k]?) : Pgs w' base v R := by
  obtain ⟨h2, h3⟩ := h
  refine ⟨h2, ?_⟩
  rcases h3 with h3 | ⟨g, cp, cur, hv, hg2, hh, r⟩
  · exact .inl h3
  · exact .inr ⟨g, cp, cur, hv, hg2, by rw [hb g hg2 (Array.getElem?_eq_some_iff.1 hh).1]; exact hh, r⟩

theorem Pgs.below {w w' : World} {base : Nat} {v : Value} {R : List Pg} (h : Pgs w base v R) (hb : Below w.heap.size w w') : Pgs w' base v R := h.keep fun k _ hk => hb.block k hk

theorem Pgs.shape {w : World} {base : Nat} {v : Value} {R : List Pg} (h : Pgs w base v R) : ∃ ao cap, v = .slice ao R.length cap ∧ (∀ a, ao = some a → base ≤ a.block ∧ a.block < w.heap.size) := by
  obtain ⟨h2, h3⟩ := h
  rcases h3 with ⟨hv, hn⟩ | ⟨g, cp, cur, hv, hg2, hh, r⟩
  · exact ⟨none, 0, by rw [hn]; exact hv, fun a h => by cases h⟩
  · refine ⟨_, _, hv, fun a ha => ?_⟩
    cases ha
    exact ⟨hg2, (Array.getElem?_eq_some_iff.1 hh).1⟩

/-- One of the pages. -/
theorem Pgs.at {w : World} {base : Nat} {v : Value} {R : List Pg} (h : Pgs w base v R) (i : Nat) (hi : i < R.length) : ∃ g cap, v = .slice (some ⟨g, 0, none⟩) R.length cap ∧ g < w.heap.size ∧ base ≤ g ∧
    w.cell? ⟨g, i * 5, none⟩ = some (.int .i64 R[i].l) ∧ w.cell? ⟨g, i * 5 + 1, none⟩ = some (.complex .f64 R[i].a.1 R[i].a.2) ∧ w.cell? ⟨g, i * 5 + 2, none⟩ = some (.complex .f64 R[i].b.1 R[i].b.2) ∧ w.cell? ⟨g, i * 5 + 3, none⟩ = some (.complex .f64 R[i].c.1 R[i].c.2) ∧ w.cell? ⟨g, i * 5 + 4, none⟩ = some (.complex .f64 R[i].d.1 R[i].d.2) := by
  have hR := h
  obtain ⟨h2, h3⟩ := h
  rcases h3 with ⟨hv, hn⟩ | ⟨g, cp, cur, hv, hg2, hh, r⟩
  · omega
  · subst hv
    refine ⟨g, cp, rfl, (Array.getElem?_eq_some_iff.1 hh).1, hg2, ?_⟩
    have hc := fun j (hj : j < 5) => (World.ownsRow.cellAt hR (i * 5 + j) (by omega)).trans (rowPg_get R i hi j hj)
    exact ⟨hc 0 (by omega), hc 1 (by omega), hc 2 (by omega), hc 3 (by omega), hc 4 (by omega)⟩

theorem infoPg : (Try.prog.info? 42).map (fun i => (i.zero, i.size, i.bytes)) = some (some (.agg #[.int .i64 0, .complex .f64 0 0, .complex .f64 0 0, .complex .f64 0 0, .complex .f64 0 0]), 5, 72) := by kernel_rfl

/-- One more page. -/
theorem wpList_append_pg (w : World) {ops : Array Oper} {rest : List Oper} {o : Oper} {a : Act} {Q : Exit → Act → World → Prop} (hgd : o.guard = none) (s x : Operand)
    (ho : o.op = .call { callee := .builtin .append, args := #[s, x], argTypes := #[36, 36] })
    (base : Nat) (v : Value) (R : List Pg) (p : Pg) (W : World) (q : Nat) (hw : w = W.alloc (pgO p.l p.a p.b p.c p.d)) (hq : W.heap.size = q) (hs : a.eval s = v) (hx : a.eval x = .slice (some ⟨q, 0, none⟩) 1 1) (hF : Pgs w base v R) (hl : R.length ≤ 20000) (hb : base ≤ w.heap.size)
    (h : ∀ v' w', Pgs w' base v' (R ++ [p]) → w.grownBy w' v.ownBlock → (v'.ownBlock = v.ownBlock ∨ v'.ownBlock = some w.heap.size) → wpList Try.prog ops Q rest (a.put o.dst v') w') : wpList Try.prog ops Q (o :: rest) a w := by
  obtain ⟨i, hi, hz, hsz, hby⟩ := info_parts infoPg
  have hB := PgAt.new W p.l p.a p.b p.c p.d
  subst hq
  refine wpList_append_own_at (P := Try.prog) w hgd s x 36 ho base 42 i _ 5 72 Try.underlying36 hi hz hsz hby rfl (by omega) v R.length (rowPg R) hs hF ⟨W.heap.size, 0, none⟩ 1 1 (pgC p) hx rfl ?_ ?_ (by unfold maxLen; omega) (by omega) hb ?_
  · intro j u hj
    subst hw
    rw [Addr.add_lit, Nat.zero_add]
    match j, hj with
    | 0, hj => cases hj; exact hB.c0
    | 1, hj => cases hj; exact hB.c1
    | 2, hj => cases hj; exact hB.c2
    | 3, hj => cases hj; exact hB.c3
    | 4, hj => cases hj; exact hB.c4
    | (j + 5), hj => simp [pgC] at hj
  · intro u hu
    simp only [pgC, List.mem_cons, List.not_mem_nil, or_false] at hu
    rcases hu with rfl | rfl | rfl | rfl | rfl
    all_goals rfl
  · intro v' w' h1 h2 _ h4
    refine h v' w' ?_ h2 h4
    unfold Pgs
    have e : rowPg (R ++ [p]) = rowPg R ++ pgC p := by simp [rowPg, List.flatMap_append]
    rw [e, List.length_append]
    exact h1

/-- What a Get of each page does, wherever it is called. -/
abbrev GetsAll (gp gf g gl m : Nat) (PS : Nat → Pg) (LS : Nat → List Sec) (FS : Nat → List Fr) (HD : Nat → Nat) : Prop :=
  ∀ k, k < m → ∀ (W : World) (V : Nat → Prop), St W gp gf g gl V (LS k) (FS k) (HD k) → (∀ q, V q → q < W.heap.size) → Gets W gp gf g gl V (k : Int) (PS k).l (PS k).a (PS k).b (PS k).c (PS k).d (LS (k + 1)) (FS (k + 1)) (HD (k + 1))

theorem pgs_snoc (PS : Nat → Pg) (k : Nat) : (List.range (k + 1)).map PS = (List.range k).map PS ++ [PS k] := by
  rw [List.range_succ, List.map_append]; rfl

/-- What there is behind some pages. -/
structure Mapped (w wr : World) (gs gp gf g gl : Nat) (V V' : Nat → Prop) (L : List Sec) (F : List Fr) (hd : Nat) (v : Value) (R : List Pg) : Prop where
  s : St wr gp gf g gl V' L F hd
  bd : ∀ q, V' q → q < wr.heap.size
  vv : ∀ q, q < w.heap.size → V' q → V q
  off : Off3 gp gf g w wr
  ss : Ss wr gs g gl gp
  pg : Pgs wr w.heap.size v R
  nv : ∀ q, v.ownBlock = some q → ¬ V' q

section
variable {w wr w1 w2 : World} {gs gp gf g gl : Nat} {V V' V1 : Nat → Prop} {L L' : List Sec} {F F' : List Fr} {hd hd' : Nat} {v v2 : Value} {R R2 : List Pg}

theorem Mapped.got (h : Mapped w wr gs gp gf g gl V V' L F hd v R) (hlt : gp < w.heap.size ∧ gf < w.heap.size ∧ g + 1 < w.heap.size) (hs : gs < w.heap.size) (hne : gs ≠ gp ∧ gs ≠ gf ∧ gs ≠ g) (hS : St w1 gp gf g gl V1 L' F' hd') (hV : ∀ k, k < wr.heap.size → V1 k → V' k) (hO : Off3 gp gf g wr w1) :
    Mapped w w1 gs gp gf g gl V (fun k => V1 k ∧ k < w1.heap.size) L' F' hd' v R := by
  obtain ⟨h1, h2, h3⟩ := hlt
  have hsz := h.off.size
  refine ⟨hS.tight, fun q hq => hq.2, fun q hq hx => h.vv q hq (hV q (by omega) hx.1), h.off.trans hO, h.ss.keep (hO.block gs (by omega) hne.1 hne.2.1 hne.2.2) hO.size, h.pg.keep (fun k a1 a2 => hO.block k a2 (by omega) (by omega) (by omega)), fun q hq hx => ?_⟩
  obtain ⟨ao, cap, rfl, hb⟩ := h.pg.shape
  cases ao with
  | none => simp [Value.ownBlock] at hq
  | some a =>
    simp [Value.ownBlock] at hq
    subst hq
    exact h.nv _ (by simp [Value.ownBlock]) (hV _ (hb a rfl).2 hx.1)

theorem Mapped.below (h : Mapped w wr gs gp gf g gl V V' L F hd v R) (hb : Below wr.heap.size wr w1) : Mapped w w1 gs gp gf g gl V V' L F hd v R :=
  ⟨h.s.below hb, fun q hq => Nat.lt_of_lt_of_le (h.bd q hq) hb.size, h.vv, h.off.trans (Off3.of_below hb), h.ss.below hb, h.pg.below hb, h.nv⟩

theorem Mapped.more (h : Mapped w w1 gs gp gf g gl V V' L F hd v R) (hlt : gp < w.heap.size ∧ gf < w.heap.size ∧ g + 1 < w.heap.size) (hs : gs < w.heap.size) (hP : Pgs w2 w.heap.size v2 R2) (hg : w1.grownBy w2 v.ownBlock) (hloc : v2.ownBlock = v.ownBlock ∨ v2.ownBlock = some w1.heap.size) :
    Mapped w w2 gs gp gf g gl V V' L F hd v2 R2 := by
  obtain ⟨h1, h2, h3⟩ := hlt
  obtain ⟨ao, cap, rfl, hb⟩ := h.pg.shape
  have hge : ∀ q, (Value.slice ao R.length cap).ownBlock = some q → w.heap.size ≤ q := by
    intro q hq
    cases ao with
    | none => simp [Value.ownBlock] at hq
    | some a => simp [Value.ownBlock] at hq; subst hq; exact (hb a rfl).1
  refine ⟨h.s.blocks hg.size (fun k hk hx => hg.block k hk fun e => ?_), fun q hq => Nat.lt_of_lt_of_le (h.bd q hq) hg.size, h.vv, ⟨hg.os.trans h.off.os, hg.tape.trans h.off.tape, hg.output.trans h.off.output, Nat.le_trans h.off.size hg.size, fun k hk a1 a2 a3 => (hg.block k (Nat.lt_of_lt_of_le hk h.off.size) (fun e => by have := hge k e.symm; omega)).trans (h.off.block k hk a1 a2 a3)⟩, h.ss.keep (hg.block gs h.ss.lt (fun e => by have := hge gs e.symm; omega)) hg.size, hP, fun q hq hx => ?_⟩
  · have h5 := hge k e.symm
    rcases hx with hx | hx | hx | hx | hx
    · omega
    · omega
    · omega
    · omega
    · exact h.nv k e.symm hx
  · rcases hloc with e | e
    · exact h.nv q (e ▸ hq) hx
    · rw [e] at hq; cases hq; have := h.bd _ hx; omega
end

set_option maxRecDepth 100000 in
set_option maxHeartbeats 1600000 in
theorem map_store (gs gp gf g gl m : Nat) (PS : Nat → Pg) (LS : Nat → List Sec) (FS : Nat → List Fr) (HD : Nat → Nat) (V : Nat → Prop) (w : World) (hs : Ss w gs g gl gp) (hne : gs ≠ gp ∧ gs ≠ gf ∧ gs ≠ g) (hS : St w gp gf g gl V (LS 0) (FS 0) (HD 0)) (hv : ∀ k, V k → k < w.heap.size) (hm : (LS 0).length = m)
    (HG : GetsAll gp gf g gl m PS LS FS HD) :
    Calls Try.prog 8 #[tp gs] w fun x w' => ∃ v, x = .returned (.tuple #[v, .int .i64 0]) ∧ Pgs w' w.heap.size v ((List.range m).map PS) ∧ Left w w' gp gf g gl V (LS m) (FS m) (HD m) := by
  have hlt : gp < w.heap.size ∧ gf < w.heap.size ∧ g + 1 < w.heap.size := ⟨hS.p.lp, hS.p.lf, hS.d.lt⟩
  have hm6 : m ≤ 6 := by have := hS.d.le; omega
  have H1 : Hid (GetsAll gp gf g gl m PS LS FS HD) := HG
  have HL : Hid (Calls Try.prog 20 #[dp g] w fun x w' => x = .returned (.int .i64 (m : Int)) ∧ w' = w) := by
    rw [← hm]
    exact slen_any g V (LS 0) w hS.d
  have hst := fun (ad : Addr) (re im : Nat) (W : World) => run_store Try.prog W ad (.complex .f64 re im) .plain rfl
  have c0 := hs.c0
  have M0 : Mapped w w gs gp gf g gl V V (LS 0) (FS 0) (HD 0) (.slice none 0 0) [] := ⟨hS, hv, fun _ _ h => h, Off3.refl _ _ _ _, hs, World.ownsRow_nil w w.heap.size 42 5, fun q hq => by simp [Value.ownBlock] at hq⟩
  have hgs := hs.lt
  clear HG hm hS
  go_enter Try.func8, Try.ntmps8
  go_wp2_with (first
    | (go_at_call 20; refine HL.out.mono ?_; rintro x w' ⟨rfl, hw⟩; subst w')
    | fail)
  clear c0
  go_loopw [4, 13] (fun v i wr => ∃ (k : Nat) (V' : Nat → Prop), k ≤ m ∧ i = .int .i64 k ∧ Mapped w wr gs gp gf g gl V V' (LS k) (FS k) (HD k) v ((List.range k).map PS)) (fun _ i _ => m - (intOf i).toNat)
  case atStart => exact ⟨0, V, Nat.zero_le _, rfl, M0⟩
  case round =>
    clear M0
    obtain ⟨k, V', hk, rfl, M⟩ := hrel
    by_cases hlk : k < m
    · have HK : Hid (Gets wr gp gf g gl V' (k : Int) (PS k).l (PS k).a (PS k).b (PS k).c (PS k).d (LS (k + 1)) (FS (k + 1)) (HD (k + 1))) := H1.out k hlk wr V' M.s M.bd
      have HR : Hid ((List.range (k + 1)).map PS = (List.range k).map PS ++ [PS k]) := pgs_snoc PS k
      have c2 := M.ss.c2
      have HRL : Hid (((List.range k).map PS).length ≤ 20000) := by show _ ≤ _; simp; omega
      generalize (List.range k).map PS = R at *
      generalize PS k = x at *
      obtain ⟨l, a, b, c, d⟩ := x
      simp only at HK HR
      go_wp2_with (first
        | (at_builtin; refine wpList_append_pg _ rfl _ _ rfl w.heap.size _ R ⟨l, a, b, c, d⟩ (w1.alloc (pgO l a b c d)) (w1.heap.size + 1) rfl (by simp) rfl rfl M2.pg HRL.out ?_ ?_; (exact M2.off.size); intro v3 w3 hP3 hg3 hloc3)
        | (go_at_call 21; refine (HK.out wr (Below.refl _ _)).mono ?_; unfold pgV; rintro x w1 ⟨rfl, V1, hS1, hV1, hO1⟩; have M1 := M.got hlt hgs hne hS1 hV1 hO1; have M2 := (M1.below (below_box w1 (pgO l a b c d))).below (below_box _ (pgO l a b c d)))
        | fail)
      go_roundw
      case rel => exact ⟨k + 1, _, by omega, by go_num, by rw [HR.out]; exact M2.more hlt hgs hP3 hg3 hloc3⟩
      case measure => simp [intOf]; omega
    · have hkm : k = m := by omega
      subst hkm
      go_wp2
      go_ret2
      exact ⟨_, rfl, M.pg, V', M.s, M.vv, M.off⟩

end Go.Proofs.Ythckdfggnmoaeaa
