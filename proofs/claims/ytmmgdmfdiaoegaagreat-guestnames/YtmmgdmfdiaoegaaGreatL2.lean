/- What slices.Delete does with the first ones of a list of bodies; forget, walked. -/
import Derived.Test.YtmmgdmfdiaoegaaGreatL1
import Derived.Deep.RegionHeldLaw
import Derived.Deep.RegionLaw
import Derived.Deep.DeepCutAuto
import Derived.Deep.CutBlock
namespace Go.Proofs.YtmmgdmfdiaoegaaGreat.Lnk
open Go.RowKit
set_option linter.unusedVariables false
set_option maxRecDepth 8000

theorem info27 : (Tryz.prog.info? 43).map (fun i => (i.zero, i.size, i.bytes)) = some (some (.slice none 0 0), 1, 24) := by kernel_rfl

/-- Where a list begins, if there is something in it. -/
theorem _root_.Go.Proofs.YtmmgdmfdiaoegaaGreat.OwnS.place {w : World} {base : Nat} {e : TypeId} {ao : Option Addr} {cap : Nat} {xs : List Value} (h : OwnS w base e ao cap xs) (hx : 0 < xs.length) : ∃ g, ao = some ⟨g, 0, none⟩ := by
  obtain ⟨_, h2⟩ := h
  rcases h2 with ⟨hv, hn⟩ | ⟨g, cp, cur, hv, _⟩
  · omega
  · simp only [Value.slice.injEq] at hv
    exact ⟨g, hv.1⟩

/-- An append to the empty beginning of a list that has room. -/
theorem step_append_fits {P : Program} (w : World) {ops : Array Oper} {o : Oper} {a : Act} {K : Act → World → Prop} {Q : Exit → Act → World → Prop} {E : Prop} (hgd : o.guard = none) (s x : Operand) (t : TypeId)
    (ho : o.op = .call { callee := .builtin .append, args := #[s, x], argTypes := #[t, t] })
    (base : Nat) (e : TypeId) (z : Value) (bytes : Nat) (ht : P.underlying t = some (.slice e))
    (hinfo : (P.info? e).map (fun i => (i.zero, i.size, i.bytes)) = some (some z, 1, bytes))
    {r cap : Nat} {xs : List Value} {ao' : Option Addr} {cap' m : Nat} {ys : List Value}
    (hs : a.eval s = .slice (some ⟨r, 0, none⟩) 0 cap) (hx : a.eval x = .slice ao' m cap') (hown : OwnS w base e (some ⟨r, 0, none⟩) cap xs) (hrd : RdS w ao' cap' ys) (hm : ys.length = m) (hle : ys.length ≤ xs.length)
    (h1 : ∀ u ∈ ys, u.oneCell' = true) (hsome : ao'.isSome = true)
    (h : ∀ w', OwnS w' base e (some ⟨r, 0, none⟩) cap ys → w.grownBy w' (some r) → K (a.put o.dst (.slice (some ⟨r, 0, none⟩) m cap)) w') :
    if Region.wanted o (yielded ops a.tmps) = true then Oper.wp P o a w K Q else E := by
  have hw : Region.wanted o (yielded ops a.tmps) = true := by simp [Region.wanted, hgd]
  rw [if_pos hw]
  subst hm
  obtain ⟨i0, hi, hz0, hz1, hz2⟩ := info_parts hinfo
  obtain ⟨ad, rfl⟩ : ∃ ad, ao' = some ad := by cases ao' with
    | none => cases hsome
    | some ad => exact ⟨ad, rfl⟩
  have hcap := hown.rd.le
  have hown0 := OwnS.take hown 0 (Nat.zero_le _)
  simp only [List.take_zero] at hown0
  obtain ⟨w', hr, h2, h3⟩ := run_append_fits (P := P) w base t o.type e i0 1 ht hi hz1 r 0 cap [] hown0 ad ys.length cap' ys (by simp) (by
    intro j u h
    obtain ⟨hj, rfl⟩ := List.getElem?_eq_some_iff.1 h
    obtain ⟨b, off, e, _, hc⟩ := hrd.at hj
    cases e
    rw [Addr.add_lit]
    exact hc j hj) h1 (by omega)
  simp only [Nat.zero_add, List.nil_append] at hr h2
  unfold Oper.wp execOp
  simp only [ho, resolve, invoke, builtin, Sem.run_bind, Sem.run_pure, Result.andThen_ok, List.map_toArray, List.map_cons, List.map_nil, hs, hx, hr]
  exact h w' h2 h3

theorem setCells_own {base : Nat} {e : TypeId} {r cap : Nat} {xs : List Value} : ∀ (us : List Value) (o : Nat) (w : World), OwnS w base e (some ⟨r, 0, none⟩) cap xs → xs.length ≤ o → OwnS (w.setCells r o us) base e (some ⟨r, 0, none⟩) cap xs ∧ w.grownBy (w.setCells r o us) (some r)
  | [], _, w, h, _ => ⟨h, ⟨rfl, rfl, rfl, Nat.le_refl _, fun _ _ _ => rfl⟩⟩
  | u :: us, o, w, h, ho => by
    have h1 := World.ownsRow.stored h o u
    rw [List.set_eq_of_length_le ho] at h1
    obtain ⟨k1, k2⟩ := setCells_own us (o + 1) (w.setCell ⟨r, o, none⟩ u) h1.1 (by omega)
    refine ⟨k1, ⟨k2.os.trans h1.2.os, k2.tape.trans h1.2.tape, k2.output.trans h1.2.output, Nat.le_trans h1.2.size k2.size, fun k hk hne => (k2.block k (Nat.lt_of_lt_of_le hk h1.2.size) hne).trans (h1.2.block k hk hne)⟩⟩

theorem wpList_clear (w : World) {ops : Array Oper} {rest : List Oper} {o : Oper} {a : Act} {Q : Exit → Act → World → Prop} (hgd : o.guard = none) (x : Operand)
    (ho : o.op = .call { callee := .builtin .clear, args := #[x], argTypes := #[30] }) (base : Nat) {r k m c cap : Nat} {xs : List Value}
    (hx : a.eval x = .slice (some ⟨r, k, none⟩) m c) (hm : 0 < m) (hown : OwnS w base 43 (some ⟨r, 0, none⟩) cap xs) (hk : xs.length ≤ k) (hkm : k + m ≤ cap)
    (h : ∀ w', OwnS w' base 43 (some ⟨r, 0, none⟩) cap xs → w.grownBy w' (some r) → wpList Tryz.prog ops Q rest (a.put o.dst (.tuple #[])) w') : wpList Tryz.prog ops Q (o :: rest) a w := by
  refine wpList_plain hgd fun _ hK => ?_
  have hz : ∀ W : World, (zeroValue 43).run Tryz.prog W = .ok (.slice none 0 0) W := by
    intro W
    obtain ⟨i0, hi, hz0, _⟩ := info_parts info27
    simp [zeroValue, typeInfo, hi, hz0]
  have hr := Go.Lib.run_clear_slice (P := Tryz.prog) w 30 43 o.type (.slice none 0 0) Tryz.underlying30 hz rfl rfl r k m c hm (by
    intro j hj
    have hown' := hown
    obtain ⟨_, h2⟩ := hown'
    rcases h2 with ⟨hv, _⟩ | ⟨g, cp, cur, hv, hg, hh, _, _, hsz, _⟩
    · simp at hv
    · simp only [Value.slice.injEq, Option.some.injEq, Addr.mk.injEq, true_and, and_true] at hv
      obtain ⟨rfl, rfl⟩ := hv
      rw [cell_of_row _ _ _ _ _ _ hh]
      simp
      omega) (fun j _ => World.ownsRow.frozenAt hown _)
  unfold Oper.wp execOp
  simp only [ho, resolve, invoke, builtin, Sem.run_bind, Sem.run_pure, Result.andThen_ok, List.map_toArray, List.map_cons, List.map_nil, hx, hr]
  obtain ⟨k1, k2⟩ := setCells_own (List.replicate m (Value.slice none 0 0)) k w hown hk
  exact hK _ _ (h _ k1 k2)

set_option maxHeartbeats 800000 in
theorem delete_any (g B : Nat) (ao : Option Addr) (n cap : Nat) (vs : List Value) (w : World) (ho : OwnS w B 43 ao cap vs) (hl : vs.length = n) (h1 : ∀ u ∈ vs, u.oneCell' = true) (hn : n ≤ 8) (j : Nat) (hj : j ≤ n) (hB : B ≤ w.heap.size) :
    Calls Tryz.prog 31 #[.slice ao n cap, .int .i64 0, .int .i64 (j : Int)] w fun e w' => e = .returned (.slice ao (n - j) cap) ∧ OwnS w' B 43 ao cap (vs.drop j) ∧ Off2 g ao w w' := by
  have hcap := ho.rd.le
  rw [hl] at hcap
  have hmx := ho.rd.mx
  unfold maxLen at hmx
  by_cases h0 : j = 0
  · subst h0
    go_enter Tryz.func31, Tryz.ntmps31
    go_wp2
    go_ret
    exact ⟨rfl, by simpa using ho, Off2.refl _ _ _⟩
  · obtain ⟨r, rfl⟩ := ho.place (by omega)
    have hcut : RdS w (if cap = j then some ⟨r, 0, none⟩ else some ⟨r, j, none⟩) (cap - j) (vs.drop j) := by
      have := ho.rd.cut j n hj (by omega)
      rw [List.take_of_length_le (by simp; omega)] at this
      simpa [Addr.add_lit] using this
    have HR : Hid (RdS w.drew (if cap = j then some ⟨r, 0, none⟩ else some ⟨r, j, none⟩) (cap - j) (vs.drop j)) := hcut.drew
    have hcj : ¬ (cap = n - j) := by omega
    clear hcut
    go_enter Tryz.func31, Tryz.ntmps31
    go_upto_region 5 with fail
    go_region_law (refine step_append_fits _ (by rfl) _ _ 30 (by rfl) B 43 (.slice none 0 0) 24 Tryz.underlying30 info27 (r := r) (cap := cap) (xs := vs) (ys := vs.drop j) (by rfl) (by rfl) ho HR.out (by simp; omega) (by simp) (fun u hu => h1 u (List.mem_of_mem_drop hu)) (by first | rfl | (split <;> rfl)) ?_; intro w1 ho1 hg1)
    go_wp2_with (refine wpList_clear _ rfl _ rfl B rfl (by omega) ho1 (by simp; omega) (by omega) ?_; intro w2 ho2 hg2)
    all_goals go_ret
    all_goals
      refine ⟨by first | rfl | rw [← h], by first | exact ho2 | (rw [h] at ho2; exact ho2), ?_⟩
      have hO1 : Off2 g (some ⟨r, 0, none⟩) w w1 := ⟨hg1.os, hg1.tape, hg1.output, hg1.size, fun k hk _ ha => hg1.block k hk (fun e => ha ⟨r, 0, none⟩ rfl (by simpa using e.symm))⟩
      have hO2 : Off2 g (some ⟨r, 0, none⟩) w1 w2 := ⟨hg2.os, hg2.tape, hg2.output, hg2.size, fun k hk _ ha => hg2.block k hk (fun e => ha ⟨r, 0, none⟩ rfl (by simpa using e.symm))⟩
      exact hO1.trans hO2 (Nw.refl _ _)

/-- How many of the bodies that are under way are known to have come behind an ack. -/
def came (n s : Nat) (ak : Int) : Nat := (max ak ((s : Int) - (n : Int)) - ((s : Int) - (n : Int))).toNat

set_option maxHeartbeats 800000 in
theorem forget_any (w : World) (B g : Nat) (ao : Option Addr) (n cap : Nat) (V : Nat → Prop) (I : LkI) (L : List (List Nat)) (s h : Nat) (H : Lk w B g ao n cap V I L s h) (ak : Int) (ha : ak ≤ (s : Int)) (c : Nat) (hc : came n s ak = c) :
    Calls Tryz.prog 52 #[lp g, .int .i64 ak] w fun e w' => e = .returned (.tuple #[]) ∧ Lk w' B g ao (n - c) cap V I (L.drop c) s h ∧ Off2 g ao w w' := by
  have h4 := H.hd.c4
  have h1 := H.sl
  have h2 := H.sm
  have hle := H.le
  obtain ⟨vs, ho, hbs⟩ := H.row
  have hlen := H.len
  have hvl : vs.length = n := hbs.len.trans hlen
  have hcn : c ≤ n := by unfold came at hc; omega
  have hg := H.hd.lt
  have hbg := H.bg
  have HD : Hid (∀ (i : Nat) (X : Int), X = (c : Int) → Calls Tryz.prog 31 #[.slice ao n cap, .int .i64 0, .int .i64 X] (w.drewN i) fun e w' => e = .returned (.slice ao (n - c) cap) ∧ Lh w' g I (.slice ao n cap) s h ∧ Lk (w'.setCell ⟨g, 4, none⟩ (.slice ao (n - c) cap)) B g ao (n - c) cap V I (L.drop c) s h ∧ Off2 g ao w (w'.setCell ⟨g, 4, none⟩ (.slice ao (n - c) cap))) := by
    intro i X hX
    subst hX
    refine (delete_any w.heap.size B ao n cap vs (w.drewN i) (ho.keep fun a _ => rfl) hvl hbs.one hle c hcn (by simp; omega)).mono ?_
    rintro e w' ⟨rfl, ho', hO'⟩
    have hW2 : Off2 g ao w w' := ⟨hO'.os, hO'.tape, hO'.output, hO'.size, fun k hk _ ha => hO'.block k hk (by omega) ha⟩
    have hL : Lh w' g I (.slice ao n cap) s h := H.hd.keep (hO'.block g hg (by omega) H.ne)
    refine ⟨rfl, hL, ⟨hL.put4 _, ⟨vs.drop c, ho'.keep fun a ha => Below.heap_setCell _ _ _ _ (H.ne a ha), ?_⟩, by simp; omega, hbg, by omega, by omega, h2, H.hm, fun bs hb => H.sz bs (List.mem_of_mem_drop hb)⟩, hW2.setCell rfl _⟩
    exact ((hbs.drop c).kt (H.ktOff hW2)).kt (KT.setCell _ hL.tyx)
  clear hbs ho hvl hlen
  unfold came at hc
  by_cases hk : ak ≤ (s : Int) - (n : Int)
  · have hw1 : IntKind.i64.wrap ((s : Int) - (n : Int) - ((s : Int) - (n : Int))) = 0 := by rw [IntKind.wrap_i64]; omega
    have HC : Hid (c = 0) := by unfold Hid; omega
    clear hc
    go_enter Tryz.func52, Tryz.ntmps52
    go_wp2_with (first
      | (go_at_call 31; refine (HD.out _ _ ?_).mono ?_; have := HC.out; omega; rintro e w2 ⟨rfl, hL2, hK2, hO2⟩; have q4 := hL2.c4; have qf := hL2.fz 4)
      | (go_at_call 49; refine (known_any _ _ _ _ _ _ _ _ _ _ _ H).mono ?_; rintro e w1 ⟨rfl, j1, hw⟩; subst w1))
    all_goals go_end0
    all_goals exact ⟨rfl, hK2, hO2⟩
  · have hw1 : IntKind.i64.wrap (ak - ((s : Int) - (n : Int))) = ak - ((s : Int) - (n : Int)) := by rw [IntKind.wrap_i64]; omega
    have HC : Hid ((c : Int) = ak - ((s : Int) - (n : Int))) := by unfold Hid; omega
    clear hc
    go_enter Tryz.func52, Tryz.ntmps52
    go_wp2_with (first
      | (go_at_call 31; refine (HD.out _ _ ?_).mono ?_; have := HC.out; omega; rintro e w2 ⟨rfl, hL2, hK2, hO2⟩; have q4 := hL2.c4; have qf := hL2.fz 4)
      | (go_at_call 49; refine (known_any _ _ _ _ _ _ _ _ _ _ _ H).mono ?_; rintro e w1 ⟨rfl, j1, hw⟩; subst w1))
    all_goals go_end0
    all_goals exact ⟨rfl, hK2, hO2⟩

end Go.Proofs.YtmmgdmfdiaoegaaGreat.Lnk
