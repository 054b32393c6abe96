/- The reference's New and Sync, walked. -/
import Derived.Test.YtnapkcejpllmcaaR7
namespace Go.Proofs.Ytnapkcejpllmcaa
open Go.RowKit
set_option linter.unusedVariables false

theorem wpList_append_where {P : Program} (w : World) {ops : Array Oper} {rest : List Oper} {o : Oper} {a : Act} {Q : Exit → Act → World → Prop} (hgd : o.guard = none) (s x : Operand) (t : TypeId)
    (ho : o.op = .call { callee := .builtin .append, args := #[s, x], argTypes := #[t, t] })
    (base : Nat) (e : TypeId) (z : Value) (bytes : Nat) (ht : P.underlying t = some (.slice e))
    (hinfo : (P.info? e).map (fun i => (i.zero, i.size, i.bytes)) = some (some z, 1, bytes)) (hzs : z.cells.size = 1)
    {ao : Option Addr} {cap n : Nat} {xs : List Value} {ao' : Option Addr} {cap' : Nat} {y : Value}
    (hs : a.eval s = .slice ao n cap) (hx : a.eval x = .slice ao' 1 cap') (hown : OwnS w base e ao cap xs) (hrd : RdS w ao' cap' [y]) (hn : xs.length = n)
    (h1 : y.oneCell' = true) (hbytes : (n + 1) * bytes ≤ 140737488355328) (h63 : n + 1 ≤ maxLen) (hbase : base ≤ w.heap.size)
    (h : ∀ ao2 cap2 w', OwnS w' base e ao2 cap2 (xs ++ [y]) → w.grownBy w' (Value.ownBlock (.slice ao xs.length cap)) → (ao2 = ao ∨ ao2 = some ⟨w.heap.size, 0, none⟩) → wpList P ops Q rest (a.put o.dst (.slice ao2 (n + 1) cap2)) w') : wpList P ops Q (o :: rest) a w := by
  subst hn
  refine wpList_plain hgd fun _ hK => ?_
  obtain ⟨ao2, cap2, w', hr, h2, h3, h4⟩ := run_append_where (P := P) base t o.type e z bytes ht hinfo hzs hown hrd (by simp) (by intro u hu; simp at hu; subst hu; exact h1) hbytes h63 hbase
  unfold Oper.wp execOp
  simp only [List.length_cons, List.length_nil, Nat.zero_add] at hr
  simp only [ho, resolve, invoke, builtin, Sem.run_bind, Sem.run_pure, Result.andThen_ok, List.map_toArray, List.map_cons, List.map_nil, hs, hx, hr]
  exact hK _ _ (h ao2 cap2 w' h2 h3 h4)

/-- A slice of the call's own is kept by an append to another one. -/
theorem OwnS.other2 {w w' : World} {base : Nat} {e : TypeId} {ao ao' : Option Addr} {cap n cap' : Nat} {xs : List Value} (h : OwnS w base e ao cap xs) (hne : ∀ x y, ao = some x → ao' = some y → x.block ≠ y.block)
    (hg : w.grownBy w' (Value.ownBlock (.slice ao' n cap'))) : OwnS w' base e ao cap xs := by
  have hi := h.inn
  obtain ⟨h1, h2⟩ := h
  refine ⟨h1, ?_⟩
  rcases h2 with h2 | ⟨g, cp, cur, hv, hg2, hh, r⟩
  · exact .inl h2
  · refine .inr ⟨g, cp, cur, hv, hg2, ?_, r⟩
    simp only [Value.slice.injEq] at hv
    rw [hg.block g (Array.getElem?_eq_some_iff.1 hh).1 ?_]
    · exact hh
    · intro e2
      cases ao' with
      | none => simp [Value.ownBlock] at e2
      | some y =>
        simp [Value.ownBlock] at e2
        exact hne _ _ hv.1 rfl e2

/-- Three rows that grow. -/
structure NwS (base : Nat) (wr : World) (a0 : Option Addr) (c0 : Nat) (a1 : Option Addr) (c1 : Nat) (a2 : Option Addr) (c2 : Nat) (ps qs : List Pt) (k2 : Nat) : Prop where
  o0 : OwnS wr base 22 a0 c0 (ps.map Pt.val)
  e0 : ∀ p ∈ ps, p.bs = [] ∧ Own8 wr base p.ao p.n p.cap p.bs
  o1 : OwnS wr base 22 a1 c1 (qs.map Pt.val)
  e1 : ∀ p ∈ qs, p.bs = [] ∧ Own8 wr base p.ao p.n p.cap p.bs
  o2 : OwnS wr base 4 a2 c2 (List.replicate k2 (.bool false))
  ne : ∀ x y, a0 = some x → a1 = some y → x.block ≠ y.block
  le : base ≤ wr.heap.size

section
variable {base : Nat} {wr w' : World} {a0 a1 a2 A : Option Addr} {c0 c1 c2 C : Nat} {ps qs : List Pt} {k2 : Nat}

theorem NwS.alloc (h : NwS base wr a0 c0 a1 c1 a2 c2 ps qs k2) (o : Obj) : NwS base (wr.alloc o) a0 c0 a1 c1 a2 c2 ps qs k2 :=
  have hb : Below wr.heap.size wr (wr.alloc o) := (Below.refl _ _).alloc (Nat.le_refl _) o
  ⟨h.o0.below hb, fun p hp => ⟨(h.e0 p hp).1, (h.e0 p hp).2.below hb⟩, h.o1.below hb, fun p hp => ⟨(h.e1 p hp).1, (h.e1 p hp).2.below hb⟩, h.o2.below hb, h.ne, by have := h.le; simp; omega⟩

theorem NwS.set (h : NwS base wr a0 c0 a1 c1 a2 c2 ps qs k2) (a : Addr) (u : Value) (ha : a.block < base) : NwS base (wr.setCell a u) a0 c0 a1 c1 a2 c2 ps qs k2 :=
  ⟨h.o0.set_below a u ha, fun p hp => ⟨(h.e0 p hp).1, ⟨OwnS.set_below (h.e0 p hp).2.own a u ha, (h.e0 p hp).2.len, (h.e0 p hp).2.byte⟩⟩, h.o1.set_below a u ha, fun p hp => ⟨(h.e1 p hp).1, ⟨OwnS.set_below (h.e1 p hp).2.own a u ha, (h.e1 p hp).2.len, (h.e1 p hp).2.byte⟩⟩, h.o2.set_below a u ha, h.ne, by have := h.le; simpa [World.setCell] using this⟩

theorem NwS.app0 (h : NwS base wr a0 c0 a1 c1 a2 c2 ps qs k2) (p : Pt) (hp : p.bs = [] ∧ Own8 wr base p.ao p.n p.cap p.bs) (ho : OwnS w' base 22 A C (ps.map Pt.val ++ [p.val])) (hg : wr.grownBy w' (Value.ownBlock (.slice a0 (ps.map Pt.val).length c0))) (hw : A = a0 ∨ A = some ⟨wr.heap.size, 0, none⟩) :
    NwS base w' A C a1 c1 a2 c2 (ps ++ [p]) qs k2 := by
  have k8 : ∀ q : Pt, Own8 wr base q.ao q.n q.cap q.bs → Own8 w' base q.ao q.n q.cap q.bs := fun q hq => ⟨OwnS.other hq.own h.o0 rfl (by decide) hg, hq.len, hq.byte⟩
  refine ⟨by simpa using ho, fun q hq => ?_, h.o1.other2 (fun x y hx hy => (h.ne y x hy hx).symm) hg, fun q hq => ⟨(h.e1 q hq).1, k8 q (h.e1 q hq).2⟩, OwnS.other h.o2 h.o0 rfl (by decide) hg, fun x y hx hy => ?_, Nat.le_trans h.le hg.size⟩
  · rcases List.mem_append.1 hq with hq | hq
    · exact ⟨(h.e0 q hq).1, k8 q (h.e0 q hq).2⟩
    · simp at hq; subst hq; exact ⟨hp.1, k8 q hp.2⟩
  · rcases hw with hw | hw
    · subst hw; exact h.ne x y hx hy
    · rw [hw] at hx; cases hx
      have := (h.o1.inn y hy).2
      simp only; omega

theorem NwS.app1 (h : NwS base wr a0 c0 a1 c1 a2 c2 ps qs k2) (p : Pt) (hp : p.bs = [] ∧ Own8 wr base p.ao p.n p.cap p.bs) (ho : OwnS w' base 22 A C (qs.map Pt.val ++ [p.val])) (hg : wr.grownBy w' (Value.ownBlock (.slice a1 (qs.map Pt.val).length c1))) (hw : A = a1 ∨ A = some ⟨wr.heap.size, 0, none⟩) :
    NwS base w' a0 c0 A C a2 c2 ps (qs ++ [p]) k2 := by
  have k8 : ∀ q : Pt, Own8 wr base q.ao q.n q.cap q.bs → Own8 w' base q.ao q.n q.cap q.bs := fun q hq => ⟨OwnS.other hq.own h.o1 rfl (by decide) hg, hq.len, hq.byte⟩
  refine ⟨h.o0.other2 h.ne hg, fun q hq => ⟨(h.e0 q hq).1, k8 q (h.e0 q hq).2⟩, by simpa using ho, fun q hq => ?_, OwnS.other h.o2 h.o1 rfl (by decide) hg, fun x y hx hy => ?_, Nat.le_trans h.le hg.size⟩
  · rcases List.mem_append.1 hq with hq | hq
    · exact ⟨(h.e1 q hq).1, k8 q (h.e1 q hq).2⟩
    · simp at hq; subst hq; exact ⟨hp.1, k8 q hp.2⟩
  · rcases hw with hw | hw
    · subst hw; exact h.ne x y hx hy
    · rw [hw] at hy; cases hy
      have := (h.o0.inn x hx).2
      simp only; omega

theorem NwS.app2 (h : NwS base wr a0 c0 a1 c1 a2 c2 ps qs k2) (ho : OwnS w' base 4 A C (List.replicate k2 (.bool false) ++ [.bool false])) (hg : wr.grownBy w' (Value.ownBlock (.slice a2 (List.replicate k2 (Value.bool false)).length c2))) :
    NwS base w' a0 c0 a1 c1 A C ps qs (k2 + 1) := by
  have k8 : ∀ q : Pt, Own8 wr base q.ao q.n q.cap q.bs → Own8 w' base q.ao q.n q.cap q.bs := fun q hq => ⟨OwnS.other hq.own h.o2 rfl (by decide) hg, hq.len, hq.byte⟩
  exact ⟨OwnS.other h.o0 h.o2 rfl (by decide) hg, fun q hq => ⟨(h.e0 q hq).1, k8 q (h.e0 q hq).2⟩, OwnS.other h.o1 h.o2 rfl (by decide) hg, fun q hq => ⟨(h.e1 q hq).1, k8 q (h.e1 q hq).2⟩, by rw [List.replicate_succ']; exact ho, h.ne, Nat.le_trans h.le hg.size⟩
end

theorem Own8.fresh0 (w : World) (base : Nat) (hb : base ≤ w.heap.size) : Own8 (w.alloc (.cells #[] 5)) base (some ⟨w.heap.size, 0, none⟩) 0 0 [] := ⟨OwnI.fresh w base 5 .u8 hb, rfl, by simp⟩

theorem RdS.one2 (w : World) (o : Obj) (e : TypeId) (x : Value) : RdS ((w.alloc o).alloc (.cells #[x] e)) (some ⟨w.heap.size + 1, 0, none⟩) 1 [x] := by
  have := RdS.one (w.alloc o) e x
  simpa using this

theorem Bx.put1 {w : World} {p : Nat} {x0 x1 x2 : Value} (h : Bx w p x0 x1 x2) (y : Value) : Bx (w.setCell ⟨p, 0, none⟩ y) p y x1 x2 :=
  ⟨World.cell?_setCell_same _ _ _ h.c0, (put_other _ _ _ _ _ (by omega)).trans h.c1, (put_other _ _ _ _ _ (by omega)).trans h.c2, fun j => by rw [World.frozen?_setCell]; exact h.f j, by simpa [World.setCell] using h.lt⟩
theorem Bx.put2 {w : World} {p : Nat} {x0 x1 x2 : Value} (h : Bx w p x0 x1 x2) (y : Value) : Bx (w.setCell ⟨p, 1, none⟩ y) p x0 y x2 :=
  ⟨(put_other _ _ _ _ _ (by omega)).trans h.c0, World.cell?_setCell_same _ _ _ h.c1, (put_other _ _ _ _ _ (by omega)).trans h.c2, fun j => by rw [World.frozen?_setCell]; exact h.f j, by simpa [World.setCell] using h.lt⟩
theorem Bx.put3 {w : World} {p : Nat} {x0 x1 x2 : Value} (h : Bx w p x0 x1 x2) (y : Value) : Bx (w.setCell ⟨p, 2, none⟩ y) p x0 x1 y :=
  ⟨(put_other _ _ _ _ _ (by omega)).trans h.c0, (put_other _ _ _ _ _ (by omega)).trans h.c1, World.cell?_setCell_same _ _ _ h.c2, fun j => by rw [World.frozen?_setCell]; exact h.f j, by simpa [World.setCell] using h.lt⟩

theorem OwnS.shp {w : World} {base : Nat} {e : TypeId} {ao : Option Addr} {cap : Nat} {xs : List Value} (h : OwnS w base e ao cap xs) (n : Nat) (hn : xs.length = n) : Shp n ao cap := by
  subst hn
  exact ⟨h.rd.le, h.rd.mx, h.rd.nil⟩

theorem NwS.ref {b : Nat} {wr : World} {a0 a1 a2 : Option Addr} {c0 c1 c2 : Nat} {ps qs : List Pt} {k : Nat} (h : NwS (b + 2) wr a0 c0 a1 c1 a2 c2 ps qs k) (hp : ps.length = k) (hq : qs.length = k) (h6 : k ≤ 6) : Ref wr (fun j => b ≤ j) a0 c0 a1 c1 a2 c2 (List.replicate k Sec.e) := by
  refine ⟨by simpa using h6, by simpa using h.o0.shp k (by simpa using hp), by simpa using h.o1.shp k (by simpa using hq), by simpa using h.o2.shp k (by simp), fun hL => ?_⟩
  have hk : 0 < k := by
    rcases Nat.eq_zero_or_pos k with e | e
    · subst e; simp at hL
    · exact e
  have at0 : ∀ {e : TypeId} {ao : Option Addr} {cap : Nat} {xs : List Value}, OwnS wr (b + 2) e ao cap xs → 0 < xs.length → ∃ o, ao = some ⟨o, 0, none⟩ ∧ b + 2 ≤ o ∧ o < wr.heap.size := by
    intro e ao cap xs hh hx
    obtain ⟨_, q2⟩ := hh
    rcases q2 with ⟨hv, hn⟩ | ⟨g, cp, cur, hv, hg, hh, _⟩
    · omega
    · simp only [Value.slice.injEq] at hv
      exact ⟨g, hv.1, hg, (Array.getElem?_eq_some_iff.1 hh).1⟩
  obtain ⟨o0, e0, b0, l0⟩ := at0 h.o0 (by simpa [hp] using hk)
  obtain ⟨o1, e1, b1, l1⟩ := at0 h.o1 (by simpa [hq] using hk)
  obtain ⟨o2, e2, b2, l2⟩ := at0 h.o2 (by simpa using hk)
  have w0 := h.o0
  have w1 := h.o1
  have w2 := h.o2
  rw [e0] at w0
  rw [e1] at w1
  rw [e2] at w2
  refine ⟨o0, o1, o2, e0, e1, e2, ⟨fun i hi => ?_, fun i hi => ?_, fun i hi => ?_, l0, l1, l2⟩, by omega, by omega, by omega⟩
  · simp only [List.length_replicate] at hi
    have hc := w0.cellAt i (by simp; omega)
    simp only [List.getElem_map, Pt.val] at hc
    obtain ⟨r1, r2⟩ := h.e0 (ps[i]'(by omega)) (List.getElem_mem _)
    rw [r1] at r2
    exact ⟨_, _, _, hc, by simpa using r2.rd, r2.inn.mono (Nat.le_refl _) fun k _ hk => by omega⟩
  · simp only [List.length_replicate] at hi
    have hc := w1.cellAt i (by simp; omega)
    simp only [List.getElem_map, Pt.val] at hc
    obtain ⟨r1, r2⟩ := h.e1 (qs[i]'(by omega)) (List.getElem_mem _)
    rw [r1] at r2
    exact ⟨_, _, _, hc, by simpa using r2.rd, r2.inn.mono (Nat.le_refl _) fun k _ hk => by omega⟩
  · simp only [List.length_replicate] at hi
    have hc := w2.cellAt i (by simp; omega)
    simpa using hc

theorem RdS.one3 (w : World) (a : Addr) (u : Value) (o : Obj) (e : TypeId) (x : Value) : RdS (((w.setCell a u).alloc o).alloc (.cells #[x] e)) (some ⟨w.heap.size + 1, 0, none⟩) 1 [x] := by
  have := RdS.one2 (w.setCell a u) o e x
  simpa [World.setCell] using this

theorem RdS.one4 (w : World) (a : Addr) (u : Value) (e : TypeId) (x : Value) : RdS ((w.setCell a u).alloc (.cells #[x] e)) (some ⟨w.heap.size, 0, none⟩) 1 [x] := by
  have := RdS.one (w.setCell a u) e x
  simpa [World.setCell] using this

theorem Own8.fresh1 (w : World) (a : Addr) (u : Value) (base : Nat) (hb : base ≤ w.heap.size) : Own8 ((w.setCell a u).alloc (.cells #[] 5)) base (some ⟨w.heap.size, 0, none⟩) 0 0 [] := by
  have := Own8.fresh0 (w.setCell a u) base (by simpa [World.setCell] using hb)
  simpa [World.setCell] using this

set_option maxRecDepth 100000 in
set_option maxHeartbeats 6400000 in
theorem refNew_any (many : Int) (w : World) :
    Calls Try.prog 12 #[.int .i64 many] w fun e w' => ∃ A0 C0 A1 C1 A2 C2, e = .returned (.agg #[.slice A0 (newN many) C0, .slice A1 (newN many) C1, .slice A2 (newN many) C2]) ∧ Ref w' (fun k => w.heap.size ≤ k) A0 C0 A1 C1 A2 C2 (List.replicate (newN many) Sec.e) ∧ Below w.heap.size w w' := by
  have hN : newN many ≤ 6 := by unfold newN; omega
  have hN1 : ∀ k : Nat, k < newN many → (k : Int) < many := by unfold newN; omega
  have hN2 : ∀ k : Nat, ¬ k < newN many → (6 : Int) ≤ k ∨ many ≤ k := by unfold newN; omega
  generalize newN many = N at *
  have HN1 : Hid (∀ k : Nat, k < N → (k : Int) < many) := hN1
  have HN2 : Hid (∀ k : Nat, ¬ k < N → (6 : Int) ≤ k ∨ many ≤ k) := hN2
  clear hN1 hN2
  go_enter Try.func12, Try.ntmps12
  go_wp2
  go_loopw [4] (fun t wr => ∃ (k : Nat) (a0 : Option Addr) (c0 : Nat) (a1 : Option Addr) (c1 : Nat) (a2 : Option Addr) (c2 : Nat) (ps qs : List Pt), k ≤ N ∧ t = .int .i64 k ∧ Hid (NwS (w.heap.size + 2) wr a0 c0 a1 c1 a2 c2 ps qs k ∧ ps.length = k ∧ qs.length = k) ∧ Bx wr (w.heap.size + 1) (.slice a0 k c0) (.slice a1 k c1) (.slice a2 k c2) ∧ Bx wr w.heap.size (.slice none 0 0) (.slice none 0 0) (.slice none 0 0) ∧ Below w.heap.size w wr) (fun t _ => N - (intOf t).toNat)
  case atStart =>
    refine ⟨0, none, 0, none, 0, none, 0, [], [], Nat.zero_le _, rfl, ⟨⟨OwnS.nil _ _ _, by simp, OwnS.nil _ _ _, by simp, OwnS.nil _ _ _, fun x y h => (by cases h), by simp⟩, rfl, rfl⟩, ?_, ?_, ((Below.refl _ _).alloc (Nat.le_refl _) _).alloc (by simp) _⟩
    · exact Bx.of (t := 34) (by have := heap_alloc_new (w.alloc (.cells #[.slice none 0 0, .slice none 0 0, .slice none 0 0] 34)) (.cells #[.slice none 0 0, .slice none 0 0, .slice none 0 0] 34); simpa using this)
    · exact Bx.of (t := 34) (by rw [Below.heap_alloc _ _ _ (by simp)]; exact heap_alloc_new w _)
  case round =>
    obtain ⟨k, a0, c0, a1, c1, a2, c2, ps, qs, hk, rfl, HI, hb, hr, hbel⟩ := hrel
    by_cases hlt : k < N
    · have hkm := HN1.out k hlt
      have hk6 : (k : Int) < 6 := by omega
      have q0 := hb.c0
      have hpl := HI.out.2.1
      have hql := HI.out.2.2
      have hle := HI.out.1.le
      go_wp2_with (first
        | (at_builtin; refine wpList_append_where _ rfl (.tmp 16) (.tmp 18) 31 rfl (w.heap.size + 2) 22 (.slice none 0 0) 24 Try.underlying31 info22 rfl rfl rfl ((HI.out.1.alloc (.cells #[] 5)).alloc _).o0 (RdS.one2 _ _ _ _) (by rw [List.length_map]; exact hpl) rfl (by omega) (by unfold maxLen; omega) (by simp; omega) ?_; intro A0 C0 w3 ho3 hg3 hw3; have hS3 := ((HI.out.1.alloc (.cells #[] 5)).alloc (.cells #[.slice (some ⟨wr.heap.size, 0, none⟩) 0 0] 22)).app0 ⟨some ⟨wr.heap.size, 0, none⟩, 0, 0, []⟩ ⟨rfl, (Own8.fresh0 wr _ hle).below ((Below.refl _ _).alloc (Nat.le_refl _) _)⟩ ho3 hg3 hw3; have hB3 : Below (w.heap.size + 2) ((wr.alloc (.cells #[] 5)).alloc (.cells #[.slice (some ⟨wr.heap.size, 0, none⟩) 0 0] 22)) w3 := ((HI.out.1.alloc (.cells #[] 5)).alloc (.cells #[.slice (some ⟨wr.heap.size, 0, none⟩) 0 0] 22)).o0.grownBelow rfl (by simp; omega) hg3; have hb3 := ((hb.below ((Below.refl _ _).alloc (Nat.le_refl _) (.cells #[] 5)) hb.lt).below ((Below.refl _ _).alloc (Nat.le_refl _) (.cells #[.slice (some ⟨wr.heap.size, 0, none⟩) 0 0] 22)) (by have := hb.lt; simp; omega)).below hB3 (by omega); have hr3 := ((hr.below ((Below.refl _ _).alloc (Nat.le_refl _) (.cells #[] 5)) hr.lt).below ((Below.refl _ _).alloc (Nat.le_refl _) (.cells #[.slice (some ⟨wr.heap.size, 0, none⟩) 0 0] 22)) (by have := hr.lt; simp; omega)).below hB3 (by omega); have hbel3 : Below w.heap.size w w3 := ((hbel.alloc hbel.size _).alloc (by have := hbel.size; simp; omega) _).trans (hB3.mono (by omega)); have s0 := hb3.c0; have s1 := hb3.c1; have g0 := hb3.f 0)
        | (at_builtin; refine wpList_append_where _ rfl (.tmp 22) (.tmp 24) 31 rfl (w.heap.size + 2) 22 (.slice none 0 0) 24 Try.underlying31 info22 rfl rfl rfl (((hS3.set ⟨w.heap.size + 1, 0, none⟩ (.slice A0 (k + 1) C0) (by simp)).alloc (.cells #[] 5)).alloc (.cells #[.slice (some ⟨w3.heap.size, 0, none⟩) 0 0] 22)).o1 (RdS.one3 _ _ _ _ _ _) (by rw [List.length_map]; exact hql) rfl (by omega) (by unfold maxLen; omega) (by have := hS3.le; simp [World.setCell]; omega) ?_; intro A1 C1 w4 ho4 hg4 hw4; have hS4 := (((hS3.set ⟨w.heap.size + 1, 0, none⟩ (.slice A0 (k + 1) C0) (by simp)).alloc (.cells #[] 5)).alloc (.cells #[.slice (some ⟨w3.heap.size, 0, none⟩) 0 0] 22)).app1 ⟨some ⟨w3.heap.size, 0, none⟩, 0, 0, []⟩ ⟨rfl, (Own8.fresh1 w3 _ _ _ hS3.le).below ((Below.refl _ _).alloc (Nat.le_refl _) _)⟩ ho4 hg4 hw4; have hB4 : Below (w.heap.size + 2) (((w3.setCell ⟨w.heap.size + 1, 0, none⟩ (.slice A0 (k + 1) C0)).alloc (.cells #[] 5)).alloc (.cells #[.slice (some ⟨w3.heap.size, 0, none⟩) 0 0] 22)) w4 := (((hS3.set ⟨w.heap.size + 1, 0, none⟩ (.slice A0 (k + 1) C0) (by simp)).alloc (.cells #[] 5)).alloc (.cells #[.slice (some ⟨w3.heap.size, 0, none⟩) 0 0] 22)).o1.grownBelow rfl (by have := hS3.le; simp [World.setCell]; omega) hg4; have hb4 := (((hb3.put1 (.slice A0 (k + 1) C0)).below ((Below.refl _ _).alloc (Nat.le_refl _) (.cells #[] 5)) (hb3.put1 (.slice A0 (k + 1) C0)).lt).below ((Below.refl _ _).alloc (Nat.le_refl _) (.cells #[.slice (some ⟨w3.heap.size, 0, none⟩) 0 0] 22)) (by have := hS3.le; simp [World.setCell]; omega)).below hB4 (by omega); have hr4 := (((hr3.other ⟨w.heap.size + 1, 0, none⟩ (.slice A0 (k + 1) C0) (by simp)).below ((Below.refl _ _).alloc (Nat.le_refl _) (.cells #[] 5)) (by have := hr3.lt; simp [World.setCell]; omega)).below ((Below.refl _ _).alloc (Nat.le_refl _) (.cells #[.slice (some ⟨w3.heap.size, 0, none⟩) 0 0] 22)) (by have := hr3.lt; simp [World.setCell]; omega)).below hB4 (by omega); have hbel4 : Below w.heap.size w w4 := (((hbel3.setCell (p := ⟨w.heap.size + 1, 0, none⟩) (by simp) (.slice A0 (k + 1) C0)).alloc (by have := hbel3.size; simp [World.setCell]; omega) _).alloc (by have := hbel3.size; simp [World.setCell]; omega) _).trans (hB4.mono (by omega)); have t1 := hb4.c1; have t2 := hb4.c2; have g1 := hb4.f 1)
        | (at_builtin; refine wpList_append_where _ rfl (.tmp 28) (.tmp 29) 32 rfl (w.heap.size + 2) 4 (.bool false) 1 Try.underlying32 info4 rfl rfl rfl ((hS4.set ⟨w.heap.size + 1, 1, none⟩ (.slice A1 (k + 1) C1) (by simp)).alloc (.cells #[.bool false] 4)).o2 (RdS.one4 _ _ _ _ _) (by simp) rfl (by omega) (by unfold maxLen; omega) (by have := hS4.le; simp [World.setCell]; omega) ?_; intro A2 C2 w5 ho5 hg5 hw5; have hS5 := ((hS4.set ⟨w.heap.size + 1, 1, none⟩ (.slice A1 (k + 1) C1) (by simp)).alloc (.cells #[.bool false] 4)).app2 ho5 hg5; have hB5 : Below (w.heap.size + 2) ((w4.setCell ⟨w.heap.size + 1, 1, none⟩ (.slice A1 (k + 1) C1)).alloc (.cells #[.bool false] 4)) w5 := ((hS4.set ⟨w.heap.size + 1, 1, none⟩ (.slice A1 (k + 1) C1) (by simp)).alloc (.cells #[.bool false] 4)).o2.grownBelow rfl (by have := hS4.le; simp [World.setCell]; omega) hg5; have hb5 := ((hb4.put2 (.slice A1 (k + 1) C1)).below ((Below.refl _ _).alloc (Nat.le_refl _) (.cells #[.bool false] 4)) (hb4.put2 (.slice A1 (k + 1) C1)).lt).below hB5 (by omega); have hr5 := ((hr4.other ⟨w.heap.size + 1, 1, none⟩ (.slice A1 (k + 1) C1) (by simp)).below ((Below.refl _ _).alloc (Nat.le_refl _) (.cells #[.bool false] 4)) (by have := hr4.lt; simp [World.setCell]; omega)).below hB5 (by omega); have hbel5 : Below w.heap.size w w5 := ((hbel4.setCell (p := ⟨w.heap.size + 1, 1, none⟩) (by simp) (.slice A1 (k + 1) C1)).alloc (by have := hbel4.size; simp [World.setCell]; omega) _).trans (hB5.mono (by omega)); have t5 := hb5.c2; have g2 := hb5.f 2)
        | fail)
      go_roundw
      case rel =>
        refine ⟨k + 1, A0, C0, A1, C1, A2, C2, _, _, by omega, by go_num, ⟨hS5.set ⟨w.heap.size + 1, 2, none⟩ (.slice A2 (k + 1) C2) (by simp), by simp; omega, by simp; omega⟩, hb5.put3 (.slice A2 (k + 1) C2), hr5.other _ _ (by simp), hbel5.setCell (by simp) _⟩
      case measure => simp [intOf]; omega
    · have hkN : k = N := by omega
      have hex := HN2.out k hlt
      have q0 := hb.c0
      have q1 := hb.c1
      have q2 := hb.c2
      have u0 := hr.c0
      have u1 := hr.c1
      have u2 := hr.c2
      have g0 := hr.f 0
      have g1 := hr.f 1
      have g2 := hr.f 2
      have hres := hr.put (.slice a0 k c0) (.slice a1 k c1) (.slice a2 k c2)
      have p0 := hres.c0
      have p1 := hres.c1
      have p2 := hres.c2
      have hBC := ((hbel.setCell (p := ⟨w.heap.size, 0, none⟩) (Nat.le_refl _) (.slice a0 k c0)).setCell (p := ⟨w.heap.size, 1, none⟩) (Nat.le_refl _) (.slice a1 k c1)).setCell (p := ⟨w.heap.size, 2, none⟩) (Nat.le_refl _) (.slice a2 k c2)
      have HBC := (show Hid _ from hBC)
      have hSF := ((HI.out.1.set ⟨w.heap.size, 0, none⟩ (.slice a0 k c0) (by simp)).set ⟨w.heap.size, 1, none⟩ (.slice a1 k c1) (by simp)).set ⟨w.heap.size, 2, none⟩ (.slice a2 k c2) (by simp)
      have HSF := (show Hid _ from hSF)
      have hpl := HI.out.2.1
      have hql := HI.out.2.2
      clear hBC hSF
      have HkN : Hid (k = N) := hkN
      clear hkN
      have fin : ∃ A0 C0 A1 C1 A2 C2, Ending.returned (.agg #[.slice a0 k c0, .slice a1 k c1, .slice a2 k c2]) = .returned (.agg #[.slice A0 N C0, .slice A1 N C1, .slice A2 N C2]) ∧ Ref (((wr.setCell ⟨w.heap.size, 0, none⟩ (.slice a0 k c0)).setCell ⟨w.heap.size, 1, none⟩ (.slice a1 k c1)).setCell ⟨w.heap.size, 2, none⟩ (.slice a2 k c2)) (fun k => w.heap.size ≤ k) A0 C0 A1 C1 A2 C2 (List.replicate N Sec.e) ∧ Below w.heap.size w (((wr.setCell ⟨w.heap.size, 0, none⟩ (.slice a0 k c0)).setCell ⟨w.heap.size, 1, none⟩ (.slice a1 k c1)).setCell ⟨w.heap.size, 2, none⟩ (.slice a2 k c2)) := by
        have e := HkN.out
        subst e
        exact ⟨a0, c0, a1, c1, a2, c2, rfl, NwS.ref HSF.out hpl hql (by omega), HBC.out⟩
      have HF := (show Hid _ from fin)
      clear fin
      rcases hex with hx | hx
      · go_wp2
        refine bodyPost_ret (by simp [results, Try.results12, go_sem, p0, p1, p2]; try rfl) rfl ?_
        exact HF.out
      · by_cases h6 : (k : Int) < 6
        · go_wp2
          refine bodyPost_ret (by simp [results, Try.results12, go_sem, p0, p1, p2]; try rfl) rfl ?_
          exact HF.out
        · go_wp2
          refine bodyPost_ret (by simp [results, Try.results12, go_sem, p0, p1, p2]; try rfl) rfl ?_
          exact HF.out

end Go.Proofs.Ytnapkcejpllmcaa
