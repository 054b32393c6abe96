/- What Push of package link does, walked. -/
import Derived.Test.YtmmgdmfdiaoegaaGreatL2
namespace Go.Proofs.YtmmgdmfdiaoegaaGreat.Lnk
open Go.RowKit
set_option linter.unusedVariables false
set_option maxRecDepth 8000

theorem ne_own {ao ao2 : Option Addr} {g : Nat} {w : World} (ne : ∀ a, ao = some a → a.block ≠ g) (hlt : g < w.heap.size) (h : Nw w ao ao2) : ∀ a, ao2 = some a → a.block ≠ g := by
  intro a ha
  rcases h a ha with ⟨c, hc, e⟩ | hc
  · have := ne c hc; omega
  · omega
theorem nw_at {w : World} {ao ao2 : Option Addr} (h : ao2 = ao ∨ ao2 = some ⟨w.heap.size, 0, none⟩) : Nw w ao ao2 := by
  rcases h with rfl | rfl
  · exact Nw.refl _ _
  · intro a ha; cases ha; exact .inr (Nat.le_refl _)
theorem _root_.Go.Proofs.YtmmgdmfdiaoegaaGreat.Nw.older {w w1 : World} {ao ao2 : Option Addr} (h : Nw w1 ao ao2) (hs : w.heap.size ≤ w1.heap.size) : Nw w ao ao2 := fun a ha => (h a ha).imp id (by omega)

/-- An append as a step of a region that draws; where its result begins. -/
theorem step_append_atS {P : Program} (w : World) {ops : Array Oper} {o : Oper} {a : Act} {K : Act → World → Prop} {Q : Exit → Act → World → Prop} {E : Prop} (hgd : o.guard = none) (s x : Operand) (t : TypeId)
    (ho : o.op = .call { callee := .builtin .append, args := #[s, x], argTypes := #[t, t] })
    (base : Nat) (e : TypeId) (z : Value) (bytes : Nat) (ht : P.underlying t = some (.slice e))
    (hinfo : (P.info? e).map (fun i => (i.zero, i.size, i.bytes)) = some (some z, 1, bytes)) (hzs : z.cells.size = 1)
    {ao : Option Addr} {cap n : Nat} {xs : List Value} {ao' : Option Addr} {cap' m : Nat} {ys : List Value}
    (hs : a.eval s = .slice ao n cap) (hx : a.eval x = .slice ao' m cap') (hown : OwnS w base e ao cap xs) (hrd : RdS w ao' cap' ys) (hn : xs.length = n) (hm : ys.length = m)
    (h1 : ∀ u ∈ ys, u.oneCell' = true) (hbytes : (n + m) * bytes ≤ 140737488355328) (h63 : n + m ≤ maxLen) (hbase : base ≤ w.heap.size)
    (h : ∀ ao2 cap2 w', OwnS w' base e ao2 cap2 (xs ++ ys) → w.grownBy w' (Value.ownBlock (.slice ao n cap)) → (ao2 = ao ∨ ao2 = some ⟨w.heap.size, 0, none⟩) → K (a.put o.dst (.slice ao2 (n + m) cap2)) w') :
    if Region.wanted o (yielded ops a.tmps) = true then Oper.wp P o a w K Q else E := by
  have hw : Region.wanted o (yielded ops a.tmps) = true := by simp [Region.wanted, hgd]
  rw [if_pos hw]
  subst hn hm
  obtain ⟨ao2, cap2, w', hr, h2, h3, h4⟩ := run_append_at (P := P) base t o.type e z bytes ht hinfo hzs hown hrd h1 hbytes h63 hbase
  unfold Oper.wp execOp
  simp only [ho, resolve, invoke, builtin, Sem.run_bind, Sem.run_pure, Result.andThen_ok, List.map_toArray, List.map_cons, List.map_nil, hs, hx, hr]
  exact h ao2 cap2 w' h2 h3 h4

/-- What an errno says. -/
theorem push_big (g : Nat) (ax : Option Addr) (m cx : Nat) (w : World) (hm : 700 < m) : Calls Tryz.prog 30 #[lp g, .slice ax m cx] w fun e w' => e = .returned (.int .i64 101) ∧ w' = w := by
  go_enter Tryz.func30, Tryz.ntmps30
  go_wp2
  go_ret
  exact ⟨rfl, rfl⟩

theorem push_full (w : World) (B g : Nat) (ao : Option Addr) (cap : Nat) (V : Nat → Prop) (I : LkI) (L : List (List Nat)) (s h : Nat) (H : Lk w B g ao 8 cap V I L s h) (ax : Option Addr) (m cx : Nat) (hm : m ≤ 700) (hs : s < 16777215) :
    Calls Tryz.prog 30 #[lp g, .slice ax m cx] w fun e w' => e = .returned (.int .i64 111) ∧ w' = w := by
  have h4 := H.hd.c4
  have h5 := H.hd.c5
  have hq : ¬ ((s : Int) = 16777215) := by omega
  go_enter Tryz.func30, Tryz.ntmps30
  go_wp2
  go_ret
  exact ⟨rfl, rfl⟩

set_option maxHeartbeats 1600000 in
theorem push_ok (w : World) (B g : Nat) (ao : Option Addr) (n cap : Nat) (V : Nat → Prop) (I : LkI) (L : List (List Nat)) (s h : Nat) (H : Lk w B g ao n cap V I L s h) (ax : Option Addr) (m cx : Nat) (bs : List Nat) (hr : Rd8 w ax m cx bs) (hm : m ≤ 700) (hn : n < 8) (hs : s < 16777215) (hV : ∀ k, w.heap.size ≤ k → V k) :
    Calls Tryz.prog 30 #[lp g, .slice ax m cx] w fun e w' => e = .returned (.int .i64 0) ∧ Led w w' B g ao (n + 1) V I (L ++ [bs]) (s + 1) h := by
  have h4 := H.hd.c4
  have h5 := H.hd.c5
  have f4 := H.hd.fz 4
  have f5 := H.hd.fz 5
  have hq : ¬ ((s : Int) = 16777215) := by omega
  have hq8 : ¬ ((n : Int) = 8) := by omega
  have hg := H.hd.lt
  have hbg := H.bg
  obtain ⟨vs, ho, hbs⟩ := H.row
  have hlen := H.len
  have hvl : vs.length = n := hbs.len.trans hlen
  have hlm := hr.len
  have HC : Hid (Calls Tryz.prog 47 #[.slice ax m cx] w.drew fun e w' => ∃ a1 c1, e = .returned (.slice a1 m c1) ∧ Below w.heap.size w w' ∧ Lk w' B g ao n cap V I L s h ∧ OwnS w' B 43 ao cap vs ∧ By w' V (.slice a1 m c1) bs) := by
    refine (clone_any ax m cx bs w.drew (hr.heap rfl) (by omega)).mono ?_
    rintro e w' ⟨a1, c1, rfl, hy, hb⟩
    have hb' : Below w.heap.size w w' := ⟨hb.os, hb.tape, hb.output, hb.size, hb.block⟩
    exact ⟨a1, c1, rfl, hb', H.below hb', ho.below hb', hy.mono fun k _ hk => hV k hk⟩
  have HF : Hid (∀ (w1 w2 : World) (a1 ao2 : Option Addr) (c1 cap2 : Nat), Below w.heap.size w w1 → Lk w1 B g ao n cap V I L s h → By w1 V (.slice a1 m c1) bs → OwnS w2 B 43 ao2 cap2 (vs ++ [.slice a1 m c1]) → (w1.alloc (.cells #[.slice a1 m c1] 43)).grownBy w2 (Value.ownBlock (.slice ao n cap)) → (ao2 = ao ∨ ao2 = some ⟨(w1.alloc (.cells #[.slice a1 m c1] 43)).heap.size, 0, none⟩) →
      Lh w2 g I (.slice ao n cap) s h ∧ Led w ((w2.setCell ⟨g, 4, none⟩ (.slice ao2 (n + 1) cap2)).setCell ⟨g, 5, none⟩ (.int .i64 ((s : Int) + 1))) B g ao (n + 1) V I (L ++ [bs]) (s + 1) h) := by
    intro w1 w2 a1 ao2 c1 cap2 hb1 H1 hy1 ho2 hG hW
    have hbA : Below w1.heap.size w1 (w1.alloc (.cells #[.slice a1 m c1] 43)) := (Below.refl _ _).alloc (Nat.le_refl _) _
    have HA := H1.below hbA
    have hOA : Off2 g ao w (w1.alloc (.cells #[.slice a1 m c1] 43)) := Off2.of_below ao (below_step hb1 hbA)
    have hO2 : Off2 g ao (w1.alloc (.cells #[.slice a1 m c1] 43)) w2 := Off2.of_grown g hG
    have hL2 : Lh w2 g I (.slice ao n cap) s h := HA.hd.keep (hG.block g HA.hd.lt (by
      cases ao with
      | none => simp [Value.ownBlock]
      | some a => have := H.ne a rfl; simp [Value.ownBlock]; omega))
    have hK2 : KT w1 w2 := (KT.of_below hbA).trans (HA.ktOff hO2)
    have hNA : Nw (w1.alloc (.cells #[.slice a1 m c1] 43)) ao ao2 := nw_at hW
    have hN : Nw w ao ao2 := hNA.older (Nat.le_trans hb1.size hbA.size)
    have hne2 : ∀ a, ao2 = some a → a.block ≠ g := ne_own H.ne hg hN
    have hOO : Off2 g ao w w2 := hOA.trans hO2 (Nw.refl _ _)
    have hsnoc : Bys w2 V (vs ++ [.slice a1 m c1]) (L ++ [bs]) := by
      have hKw : KT w w2 := (KT.of_below hb1).trans hK2
      exact (hbs.kt hKw).snoc (hy1.kt hK2)
    have e1 : ((s : Int) + 1) = ((s + 1 : Nat) : Int) := by omega
    refine ⟨hL2, ao2, cap2, ⟨by rw [e1]; exact (hL2.put4 _).put5 _, ⟨_, (ho2.keep fun a ha => Below.heap_setCell _ _ _ _ (hne2 a ha)).keep fun a ha => Below.heap_setCell _ _ _ _ (hne2 a ha), (hsnoc.kt (KT.setCell _ hL2.tyx)).kt (KT.setCell _ (hL2.put4 _).tyx)⟩, by simp; omega, hbg, by omega, by have := H.sl; omega, by omega, H.hm, ?_⟩, (hOO.setCell rfl _).setCell rfl _, hN⟩
    intro b hb
    rcases List.mem_append.1 hb with hb | hb
    · exact H.sz b hb
    · simp only [List.mem_singleton] at hb
      subst hb; omega
  clear hlen hbs hlm
  have hw1 : IntKind.i64.wrap ((s : Int) + 1) = (s : Int) + 1 := by rw [IntKind.wrap_i64]; omega
  go_enter Tryz.func30, Tryz.ntmps30
  go_upto_region 7 with fail
  go_region_law (first
    | (refine step_append_atS _ (by rfl) _ _ 30 (by rfl) B 43 (.slice none 0 0) 24 Tryz.underlying30 info27 (by rfl) (by rfl) (by rfl) (ho1.alloc _) (RdS.one w1 43 _) hvl (by rfl) (by simp [hy1.one]) (by omega) (by unfold maxLen; omega) (by simp; omega) ?_; intro ao2 cap2 w2 ho2 hG2 hW2; obtain ⟨hL2, hF2⟩ := HF.out _ _ _ _ _ _ hb1 H1 hy1 ho2 hG2 hW2; have q4 := hL2.c4; have q5 := hL2.c5; have g4 := hL2.fz 4; have g5 := hL2.fz 5)
    | (go_simp; go_at_call 47; refine HC.out.mono ?_; rintro e w1 ⟨a1, c1, rfl, hb1, H1, ho1, hy1⟩; have p4 := H1.hd.c4; have p5 : (w1.alloc (.cells #[.slice a1 m c1] 43)).cell? ⟨g, 4, none⟩ = some (.slice ao n cap) := (H1.below ((Below.refl _ _).alloc (Nat.le_refl _) _)).hd.c4; have hs1 := hb1.size))
  all_goals go_wp2
  all_goals go_ret
  all_goals exact ⟨rfl, hF2⟩

end Go.Proofs.YtmmgdmfdiaoegaaGreat.Lnk
