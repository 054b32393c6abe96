/- The bytes of all sectors in a list; two such lists compared. -/
import Derived.Test.YtnapkcejpllmcaaS3
import Derived.BigQuiet
namespace Go.Proofs.Ytnapkcejpllmcaa
open Go.RowKit
set_option linter.unusedVariables false

/-- What an append to a slice of the call's own leaves; which block alone it may have written. -/
theorem run_append_g {P : Program} {w : World} (base : Nat) (t ty e : TypeId) (z : Value) (bytes : Nat) (ht : P.underlying t = some (.slice e))
    (hinfo : (P.info? e).map (fun i => (i.zero, i.size, i.bytes)) = some (some z, 1, bytes)) (hzs : z.cells.size = 1)
    {ao : Option Addr} {cap : Nat} {xs : List Value} (hown : OwnS w base e ao cap xs) {ao' : Option Addr} {cap' : Nat} {ys : List Value} (hrd : RdS w ao' cap' ys)
    (h1 : ∀ u ∈ ys, u.oneCell' = true) (hbytes : (xs.length + ys.length) * bytes ≤ 140737488355328) (h63 : xs.length + ys.length ≤ maxLen) (hbase : base ≤ w.heap.size) :
    ∃ ao2 cap2 w', (Builtin.append_ #[t, t] ty #[.slice ao xs.length cap, .slice ao' ys.length cap']).run P w = .ok (.slice ao2 (xs.length + ys.length) cap2) w' ∧
      OwnS w' base e ao2 cap2 (xs ++ ys) ∧ w.grownBy w' (Value.ownBlock (.slice ao xs.length cap)) := by
  obtain ⟨i0, hi, hz0, hz1, hz2⟩ := info_parts hinfo
  have fin : ∀ v' w', w'.ownsRow base e 1 v' (xs.length + ys.length) (xs ++ ys) → ∃ ao2 cap2, v' = .slice ao2 (xs.length + ys.length) cap2 ∧ OwnS w' base e ao2 cap2 (xs ++ ys) := by
    intro v' w' h
    obtain ⟨h1, h2⟩ := h
    have hlen : (xs ++ ys).length = xs.length + ys.length := by simp
    rcases h2 with ⟨hv, hn⟩ | ⟨g, cp, cur, hv, r⟩
    · exact ⟨none, 0, by rw [hv, hn], by unfold OwnS World.ownsRow; rw [hlen]; exact ⟨by simp, .inl ⟨by rw [hn], hn⟩⟩⟩
    · exact ⟨some ⟨g, 0, none⟩, cp, hv, by unfold OwnS World.ownsRow; rw [hlen]; exact ⟨by simp, .inr ⟨g, cp, cur, rfl, r⟩⟩⟩
  by_cases hy : ys = []
  · subst hy
    cases ao' with
    | none =>
      have hc := hrd.nil rfl
      subst hc
      have hrun := run_append_owned_none (P := P) (w := w) base t ty e i0 1 ht hi _ xs.length xs hown
      refine ⟨ao, cap, w, by simpa using hrun, by simpa using hown, ⟨rfl, rfl, rfl, Nat.le_refl _, fun _ _ _ => rfl⟩⟩
    | some ad =>
      obtain ⟨v', w', hr, h2, h3, _⟩ := run_append_own (P := P) w base t ty e i0 z 1 bytes ht hi hz0 hz1 hz2 hzs (by decide) _ _ _ hown ad 0 cap' [] (by simp) (by intro j u h; simp at h) (by simp) h63 hbytes hbase
      obtain ⟨ao2, cap2, rfl, ho⟩ := fin v' w' h2
      exact ⟨ao2, cap2, w', hr, ho, h3⟩
  · obtain ⟨b, off, rfl, _, hc⟩ := hrd.cell hy
    obtain ⟨v', w', hr, h2, h3, _⟩ := run_append_own (P := P) w base t ty e i0 z 1 bytes ht hi hz0 hz1 hz2 hzs (by decide) _ _ _ hown ⟨b, off, none⟩ ys.length cap' ys (by simp) (by
      intro j u h
      obtain ⟨hj, rfl⟩ := List.getElem?_eq_some_iff.1 h
      rw [Addr.add_lit]
      exact hc j hj) h1 h63 hbytes hbase
    obtain ⟨ao2, cap2, rfl, ho⟩ := fin v' w' h2
    exact ⟨ao2, cap2, w', hr, ho, h3⟩

theorem wpList_append_g {P : Program} (w : World) {ops : Array Oper} {rest : List Oper} {o : Oper} {a : Act} {Q : Exit → Act → World → Prop} (hgd : o.guard = none) (s x : Operand) (t : TypeId)
    (ho : o.op = .call { callee := .builtin .append, args := #[s, x], argTypes := #[t, t] })
    (base : Nat) (e : TypeId) (z : Value) (bytes : Nat) (ht : P.underlying t = some (.slice e))
    (hinfo : (P.info? e).map (fun i => (i.zero, i.size, i.bytes)) = some (some z, 1, bytes)) (hzs : z.cells.size = 1)
    {ao : Option Addr} {cap n : Nat} {xs : List Value} {ao' : Option Addr} {cap' m : Nat} {ys : List Value}
    (hs : a.eval s = .slice ao n cap) (hx : a.eval x = .slice ao' m cap') (hown : OwnS w base e ao cap xs) (hrd : RdS w ao' cap' ys) (hn : xs.length = n) (hm : ys.length = m)
    (h1 : ∀ u ∈ ys, u.oneCell' = true) (hbytes : (n + m) * bytes ≤ 140737488355328) (h63 : n + m ≤ maxLen) (hbase : base ≤ w.heap.size)
    (h : ∀ ao2 cap2 w', OwnS w' base e ao2 cap2 (xs ++ ys) → w.grownBy w' (Value.ownBlock (.slice ao n cap)) → wpList P ops Q rest (a.put o.dst (.slice ao2 (n + m) cap2)) w') : wpList P ops Q (o :: rest) a w := by
  subst hn hm
  refine wpList_plain hgd fun _ hK => ?_
  obtain ⟨ao2, cap2, w', hr, h2, h3⟩ := run_append_g (P := P) base t o.type e z bytes ht hinfo hzs hown hrd h1 hbytes h63 hbase
  unfold Oper.wp execOp
  simp only [ho, resolve, invoke, builtin, Sem.run_bind, Sem.run_pure, Result.andThen_ok, List.map_toArray, List.map_cons, List.map_nil, hs, hx, hr]
  exact hK _ _ (h ao2 cap2 w' h2 h3)

/-- What is of another type is kept by an append. -/
theorem OwnS.other {w w' : World} {base base' : Nat} {e f : TypeId} {ao ao' : Option Addr} {cap n cap' : Nat} {xs ys : List Value} (h : OwnS w base e ao cap xs) (k : OwnS w base' f ao' cap' ys) (hn : ys.length = n) (hne : e ≠ f)
    (hg : w.grownBy w' (Value.ownBlock (.slice ao' n cap'))) : OwnS w' base e ao cap xs := by
  subst hn
  obtain ⟨h1, h2⟩ := h
  refine ⟨h1, ?_⟩
  rcases h2 with h2 | ⟨g, cp, cur, hv, hg2, hh, r⟩
  · exact .inl h2
  · refine .inr ⟨g, cp, cur, hv, hg2, ?_, r⟩
    rw [hg.block g (Array.getElem?_eq_some_iff.1 hh).1 ?_]
    · exact hh
    · intro e2
      obtain ⟨_, k2⟩ := k
      rcases k2 with ⟨kv, _⟩ | ⟨g', cp', cur', kv, _, kh, _⟩
      · rw [kv] at e2; simp [Value.ownBlock] at e2
      · rw [kv] at e2
        simp [Value.ownBlock] at e2
        subst e2
        rw [hh] at kh
        simp only [Option.some.injEq, Obj.cells.injEq] at kh
        exact hne kh.2.1

theorem OwnS.grownBelow {w w' : World} {base : Nat} {e : TypeId} {ao : Option Addr} {cap n : Nat} {xs : List Value} (h : OwnS w base e ao cap xs) (hn : xs.length = n) (hs : base ≤ w.heap.size)
    (hg : w.grownBy w' (Value.ownBlock (.slice ao n cap))) : Below base w w' := by
  subst hn
  exact h.grown (Nat.le_refl _) hs hg

/-- A part, as a value. -/
structure Pt where
  ao : Option Addr
  n : Nat
  cap : Nat
  bs : List Nat

def Pt.val (p : Pt) : Value := .slice p.ao p.n p.cap

theorem info22 : (Try.prog.info? 22).map (fun i => (i.zero, i.size, i.bytes)) = some (some (.slice none 0 0), 1, 24) := by kernel_rfl

theorem RdS.one1 (w : World) (e : TypeId) (x : Value) : RdS (w.alloc (.cells #[x] e)) (some ⟨w.heap.size, 0, none⟩) 1 [x] := RdS.one w e x

/-- A list of bytes of the call's own. -/
structure Own88 (w : World) (base : Nat) (ao : Option Addr) (cap : Nat) (ps : List Pt) : Prop where
  own : OwnS w base 22 ao cap (ps.map Pt.val)
  el : ∀ p ∈ ps, Own8 w base p.ao p.n p.cap p.bs

set_option maxHeartbeats 800000 in
theorem all_any (g : Nat) (V : Nat → Prop) (L : List Sec) (w : World) (h : Drv w g V L) :
    Calls Try.prog 21 #[dp g] w fun e w' => ∃ ao cap ps, e = .returned (.slice ao L.length cap) ∧ Own88 w' w.heap.size ao cap ps ∧ ps.map Pt.bs = L.map Sec.b ∧ Below w.heap.size w w' := by
  have hle := h.le
  go_enter Try.func21, Try.ntmps21
  go_wp2
  go_loopw [3, 4] (fun t i wr => ∃ (k : Nat) (a : Option Addr) (c : Nat) (ps : List Pt), k ≤ L.length ∧ i = .int .i64 k ∧ t = .slice a k c ∧ Hid (Own88 wr w.heap.size a c ps ∧ ps.map Pt.bs = (L.take k).map Sec.b) ∧ Below w.heap.size w wr) (fun _ i _ => L.length - (intOf i).toNat)
  case atStart => exact ⟨0, _, _, [], Nat.zero_le _, rfl, rfl, ⟨⟨OwnS.built w _ 22 [] (by simp) (Nat.le_refl _), by simp⟩, by simp⟩, (Below.refl _ _).alloc (Nat.le_refl _) _⟩
  case round =>
    obtain ⟨k, a, c, ps, hk, rfl, rfl, HO, hbel⟩ := hrel
    have hD := h.below hbel
    have hsz := hbel.size
    have hpl : ps.length = k := by have := congrArg List.length HO.out.2; simp at this; omega
    by_cases hlt : k < L.length
    · go_wp2_with (first
        | (go_at_call 11; refine (len_any g V L _ hD).mono ?_; rintro e w' ⟨rfl, hw⟩; subst w')
        | (go_at_call 9; refine (read_ok g V L k _ hD hlt).mono ?_; rintro e w1 ⟨ao1, n1, cap1, rfl, ho1, _, hb1⟩; have hs1 := hb1.size)
        | (at_builtin; refine wpList_append_g _ rfl (.tmp 20) (.tmp 22) 31 rfl w.heap.size 22 (.slice none 0 0) 24 Try.underlying31 info22 rfl rfl rfl ((HO.out.1.own.below hb1).alloc _) (RdS.one1 _ _ _) (by rw [List.length_map]; exact hpl) rfl (by intro u hu; simp at hu; subst hu; rfl) (by omega) (by unfold maxLen; omega) (by simp; omega) ?_; intro ao2 cap2 w2 ho2 hg2))
      have hX := (HO.out.1.own.below hb1).alloc (.cells #[.slice ao1 n1 cap1] 22)
      have hB2 : Below w.heap.size (w1.alloc (.cells #[.slice ao1 n1 cap1] 22)) w2 := hX.grownBelow (by rw [List.length_map]; exact hpl) (by simp; omega) hg2
      have hel : ∀ p ∈ ps ++ [⟨ao1, n1, cap1, L[k].b⟩], Own8 w2 w.heap.size p.ao p.n p.cap p.bs := by
        intro p hp
        have hq : Own8 (w1.alloc (.cells #[.slice ao1 n1 cap1] 22)) w.heap.size p.ao p.n p.cap p.bs := by
          rcases List.mem_append.1 hp with hp | hp
          · exact ((HO.out.1.el p hp).below hb1).below ((Below.refl _ _).alloc (Nat.le_refl _) _)
          · simp at hp; subst hp
            exact ⟨(ho1.own.mono hsz).alloc _, ho1.len, ho1.byte⟩
        exact ⟨OwnS.other hq.own hX (by rw [List.length_map]; exact hpl) (by decide) hg2, hq.len, hq.byte⟩
      go_roundw
      case rel => exact ⟨k + 1, _, _, ps ++ [⟨ao1, n1, cap1, L[k].b⟩], by omega, by go_num, rfl, ⟨⟨by simpa [Pt.val] using ho2, hel⟩, by rw [List.map_append, HO.out.2, List.take_succ_eq_append_getElem hlt, List.map_append]; rfl⟩, ((below_step hbel hb1).alloc (by omega) _).trans hB2⟩
      case measure => simp [intOf]; omega
    · go_wp2_with (first
        | (go_at_call 11; refine (len_any g V L _ hD).mono ?_; rintro e w' ⟨rfl, hw⟩; subst w'))
      go_ret
      have : k = L.length := by omega
      subst this
      exact ⟨_, _, ps, rfl, HO.out.1, by rw [HO.out.2, List.take_length], hbel⟩

set_option maxHeartbeats 800000 in
theorem same_true (a : Option Addr) (c n : Nat) (b : Option Addr) (d : Nat) (ps qs : List Pt) (w : World) (ha : RdS w a c (ps.map Pt.val)) (hb : RdS w b d (qs.map Pt.val)) (hpa : ∀ p ∈ ps, Rd8 w p.ao p.n p.cap p.bs) (hpb : ∀ p ∈ qs, Rd8 w p.ao p.n p.cap p.bs)
    (hn : ps.length = n) (heq : ps.map Pt.bs = qs.map Pt.bs) (hm : n ≤ 9223372036854775807) :
    Calls Try.prog 20 #[.slice a n c, .slice b n d] w fun e w' => e = .returned (.bool true) ∧ ∃ j, w' = w.drewN j := by
  have hn2 : qs.length = n := by have := congrArg List.length heq; simp at this; omega
  have HA : Hid (∀ p ∈ ps, Rd8 w p.ao p.n p.cap p.bs) := hpa
  have HB : Hid (∀ p ∈ qs, Rd8 w p.ao p.n p.cap p.bs) := hpb
  have HE : Hid (ps.map Pt.bs = qs.map Pt.bs) := heq
  clear hpa hpb heq
  go_enter Try.func20, Try.ntmps20
  go_wp2
  go_loopw [13] (fun i wr => ∃ k j : Nat, k ≤ n ∧ i = .int .i64 k ∧ wr = w.drewN j) (fun i _ => n - (intOf i).toNat)
  case atStart => exact ⟨0, 0, Nat.zero_le _, rfl, rfl⟩
  case round =>
    obtain ⟨k, j, hk, rfl, rfl⟩ := hrel
    by_cases hlt : k < n
    · obtain ⟨b1, o1, rfl, _, hc1⟩ := ha.at (t := k) (by simp; omega)
      obtain ⟨b2, o2, rfl, _, hc2⟩ := hb.at (t := k) (by simp; omega)
      have hd1 := hc1 k (by simp; omega)
      have hd2 := hc2 k (by simp; omega)
      simp only [List.getElem_map, Pt.val] at hd1 hd2
      have e8 : ps[k].bs = qs[k].bs := by
        have h1 : (ps.map Pt.bs)[k]? = (qs.map Pt.bs)[k]? := by rw [HE.out]
        simpa [show k < ps.length by omega, show k < qs.length by omega] using h1
      have r1 := HA.out ps[k] (List.getElem_mem _)
      have r2 := HB.out qs[k] (List.getElem_mem _)
      rw [← e8] at r2
      have s1 : ∀ m, (convert 22 9 (.slice ps[k].ao ps[k].n ps[k].cap)).run Try.prog (w.drewN m) = .ok (.string (strOfNums (ci ps[k].bs))) (w.drewN m) := fun m => (r1.heap (w' := w.drewN m) rfl).str
      have s2 : ∀ m, (convert 22 9 (.slice qs[k].ao qs[k].n qs[k].cap)).run Try.prog (w.drewN m) = .ok (.string (strOfNums (ci ps[k].bs))) (w.drewN m) := fun m => (r2.heap (w' := w.drewN m) rfl).str
      have hlt' : (k : Int) < (n : Int) := by omega
      clear e8 r1 r2 hc1 hc2
      go_wp2
      go_quiet (fail)
      go_wp2
      go_roundw
      case rel => exact ⟨k + 1, _, by omega, by go_num, rfl⟩
      case measure => simp [intOf]; omega
    · go_wp2
      go_ret
      exact ⟨rfl, _, rfl⟩

end Go.Proofs.Ytnapkcejpllmcaa
