/- What way of the document does, walked. -/
import Derived.Test.YteofipheoipeoaaDoorV1
import Derived.WalkKit
import Derived.Below
import Derived.Deep.QuietTactic
import Derived.BigQuiet
import Derived.Deep.RegionWith
import Derived.Deep.RegionHeld
import Derived.Deep.RegionHeldLaw
import Derived.RegionTactic
namespace Go.Proofs.YteofipheoipeoaaDoor
open Go.RowKit
set_option linter.unusedVariables false
theorem wpList_callP {P : Program} {ops : Array Oper} {rest : List Oper} {o : Oper} {a : Act} {w : World} {Q : Exit → Act → World → Prop} (hg : o.guard = none)
    (f : FuncId) (args : Array Value) (hrun : (execOp a.eval o).run P w = .ok (.enter f args) w) {Post : Ending → World → Prop} (hc : Calls P f args w Post)
    (h : ∀ e w', Post e w' → ∃ v, e = .returned v ∧ wpList P ops Q rest (a.put o.dst v) w') : wpList P ops Q (o :: rest) a w :=
  wpList_plain hg fun K hK => by
    have key : Calls P f args w (fun | .returned v, w'' => K (a.put o.dst v) w'' | .panicked c, w'' => Q (.panic c) a w'' | .outgrown, _ => LetsOut Q) :=
      hc.mono fun e w2 hp => by
        rcases h e w2 hp with ⟨v, e1, h2⟩
        rw [e1]
        exact hK _ _ h2
    show Oper.upon P o a K Q ((execOp a.eval o).run P w)
    rw [hrun]
    exact key

theorem two45 (w : World) (M : Nat → Nat → Bool) : Rm ((w.alloc (.cells (mA M) 45)).alloc (.cells (mA M) 45)) w.heap.size M ∧ Rm ((w.alloc (.cells (mA M) 45)).alloc (.cells (mA M) 45)) (w.heap.size + 1) M ∧ Below w.heap.size w ((w.alloc (.cells (mA M) 45)).alloc (.cells (mA M) 45)) := by
  have := Rm.new (w.alloc (.cells (mA M) 45)) M
  exact ⟨(Rm.new w _).below ((Below.refl _ _).alloc (Nat.le_refl _) _), by simpa using this, below_step ((Below.refl _ _).alloc (Nat.le_refl _) _) ((Below.refl _ _).alloc (Nat.le_refl _) _)⟩
theorem pn_zero (E : List (Int × Int)) : mA (pnB E 0) = mA fun _ _ => false := mA_congr fun i k _ _ => by simp [pnB]

set_option maxHeartbeats 1600000 in
theorem way_zero (w : World) (ao : Option Addr) (n cap : Nat) (E : List (Int × Int)) : Calls Tryd.prog 25 #[.slice ao n cap, .int .i64 0] w fun e w' => e = .returned (.agg (mA (pnB E 0))) ∧ Below w.heap.size w w' := by
  have hz := zero45
  rw [pn_zero]
  have H2 : Hid (Rm ((w.alloc (.cells (mA fun _ _ => false) 45)).alloc (.cells (mA fun _ _ => false) 45)) w.heap.size (fun _ _ => false) ∧ Rm ((w.alloc (.cells (mA fun _ _ => false) 45)).alloc (.cells (mA fun _ _ => false) 45)) (w.heap.size + 1) (fun _ _ => false) ∧ Below w.heap.size w ((w.alloc (.cells (mA fun _ _ => false) 45)).alloc (.cells (mA fun _ _ => false) 45))) := two45 w _
  go_enter Tryd.func25, Tryd.ntmps25
  go_upto_region 1 with fail
  refine wp_region_lit ?_
  refine wpList_plain rfl fun K1 hK1 => ?_
  go_step
  refine hK1 _ _ ?_
  clear hK1 K1
  refine wpList_plain rfl fun K2 hK2 => ?_
  go_step
  refine hK2 _ _ ?_
  clear hK2 K2
  refine wpList_store45 rfl _ _ rfl (w.heap.size + 1) (fun _ _ => false) (fun _ _ => false) rfl rfl H2.out.2.1 ?_
  intro w2 hM2 ho2
  refine wpList_nil ?_
  have HW : Hid (Rm w2 w.heap.size (fun _ _ => false) ∧ Below w.heap.size w w2) := ⟨H2.out.1.keep (ho2.block _ H2.out.1.lt (by omega)), H2.out.2.2.trans (ho2.below (by omega) H2.out.2.2.size)⟩
  clear H2 ho2 hz
  go_upto_region 3 with fail
  refine wp_region_lit ?_
  refine wpList_load45 rfl _ rfl (w.heap.size + 1) (fun _ _ => false) rfl hM2 ?_
  refine wpList_store45 rfl _ _ rfl w.heap.size (fun _ _ => false) (fun _ _ => false) rfl rfl HW.out.1 ?_
  intro w9 hR9 ho9
  refine wpList_nil ?_
  go_wp2
  refine bodyPost_ret (results_cell Tryd.results25 (by rfl) (loadV45 hR9)) (by rfl) ?_
  exact ⟨rfl, HW.out.2.trans (ho9.below (Nat.le_refl _) HW.out.2.size)⟩

/-- What the next table is to hold: what the last one held, and what the first t edges lead to; nothing but ways of one step more. -/
structure Nxt (E : List (Int × Int)) (s t : Nat) (M : Nat → Nat → Bool) : Prop where
  old : ∀ i k, pnB E s i k = true → M i k = true
  new : ∀ i j : Nat, ∀ u, u < t → E[u]? = some ((i : Int), (j : Int)) → i < 4 → j < 4 → M i j = true ∧ ∀ k, pnB E s j k = true → M i k = true
  only : ∀ i k, M i k = true → pnB E (s + 1) i k = true

theorem Nxt.first (E : List (Int × Int)) (s : Nat) : Nxt E s 0 (pnB E s) := ⟨fun _ _ h => h, fun i j u hu => by omega, fun i k h => pn_mono h⟩
theorem Nxt.skip {E : List (Int × Int)} {s t : Nat} {M : Nat → Nat → Bool} (h : Nxt E s t M) {e : Int × Int} (he : E[t]? = some e) (hb : okE e = false) : Nxt E s (t + 1) M := by
  refine ⟨h.old, fun i j u hu hE hi hj => ?_, h.only⟩
  rcases Nat.lt_or_ge u t with h1 | h1
  · exact h.new i j u h1 hE hi hj
  · have : u = t := by omega
    subst this
    rw [he] at hE
    cases hE
    simp [okE, cl_nat hi, cl_nat hj] at hb
theorem Nxt.last {E : List (Int × Int)} {s : Nat} {M : Nat → Nat → Bool} (h : Nxt E s E.length M) : mA M = mA (pnB E (s + 1)) := mA_congr fun i k hi hk => by
  have h1 := h.only i k
  have h2 : pnB E (s + 1) i k = true → M i k = true := fun h3 => by
    rcases (pn_iff _ _ _ _).1 h3 with h4 | ⟨j, h4, h5⟩
    · obtain ⟨_, hk4, hm⟩ := (ad_iff _ _ _).1 h4
      obtain ⟨u, hu⟩ := List.mem_iff_getElem?.1 hm
      exact (h.new i k u (List.getElem?_eq_some_iff.1 hu).1 hu hi hk4).1
    · obtain ⟨_, hj4, hm⟩ := (ad_iff _ _ _).1 h4
      obtain ⟨u, hu⟩ := List.mem_iff_getElem?.1 hm
      exact (h.new i j u (List.getElem?_eq_some_iff.1 hu).1 hu hi hj4).2 k h5
  revert h1 h2
  cases M i k <;> cases pnB E (s + 1) i k <;> simp

/-- In the midst of an edge: of its row what lies below x is done. -/
structure Mid (E : List (Int × Int)) (s t i j x : Nat) (M : Nat → Nat → Bool) : Prop where
  n : Nxt E s t M
  one : M i j = true
  row : ∀ k, k < x → pnB E s j k = true → M i k = true

theorem Nxt.mid {E : List (Int × Int)} {s t i j : Nat} {M : Nat → Nat → Bool} (h : Nxt E s t M) (he : E[t]? = some ((i : Int), (j : Int))) (hi : i < 4) (hj : j < 4) : Mid E s t i j 0 (put2 M i j true) := by
  have hup : ∀ a b, M a b = true → put2 M i j true a b = true := fun a b hab => by
    unfold put2; split
    · rfl
    · exact hab
  have had : adB E i j = true := (ad_iff _ _ _).2 ⟨hi, hj, List.mem_iff_getElem?.2 ⟨t, he⟩⟩
  refine ⟨⟨fun a b hab => hup a b (h.old a b hab), fun a b u hu hE ha hb => ⟨hup _ _ (h.new a b u hu hE ha hb).1, fun k hk => hup _ _ ((h.new a b u hu hE ha hb).2 k hk)⟩, fun a b hab => ?_⟩, by simp [put2], fun k hk => by omega⟩
  unfold put2 at hab
  split at hab
  · rename_i e
    obtain ⟨rfl, rfl⟩ := e
    exact (pn_iff _ _ _ _).2 (.inl had)
  · exact h.only a b hab
theorem Mid.next {E : List (Int × Int)} {s t i j x : Nat} {M : Nat → Nat → Bool} (h : Mid E s t i j x M) (he : E[t]? = some ((i : Int), (j : Int))) (hi : i < 4) (hj : j < 4) : Mid E s t i j (x + 1) (put2 M i x (M i x || pnB E s j x)) := by
  have hup : ∀ a b, M a b = true → put2 M i x (M i x || pnB E s j x) a b = true := fun a b hab => by
    unfold put2; split
    · rename_i e
      obtain ⟨rfl, rfl⟩ := e
      rw [hab]; rfl
    · exact hab
  have had : adB E i j = true := (ad_iff _ _ _).2 ⟨hi, hj, List.mem_iff_getElem?.2 ⟨t, he⟩⟩
  refine ⟨⟨fun a b hab => hup a b (h.n.old a b hab), fun a b u hu hE ha hb => ⟨hup _ _ (h.n.new a b u hu hE ha hb).1, fun k hk => hup _ _ ((h.n.new a b u hu hE ha hb).2 k hk)⟩, fun a b hab => ?_⟩, hup _ _ h.one, fun k hk hp => ?_⟩
  · unfold put2 at hab
    split at hab
    · rename_i e
      obtain ⟨rfl, rfl⟩ := e
      rw [Bool.or_eq_true] at hab
      rcases hab with h1 | h1
      · exact h.n.only _ _ h1
      · exact (pn_iff _ _ _ _).2 (.inr ⟨j, had, h1⟩)
    · exact h.n.only a b hab
  · rcases Nat.lt_or_ge k x with h1 | h1
    · exact hup _ _ (h.row k h1 hp)
    · have : k = x := by omega
      subst this
      simp [put2, hp]
theorem Mid.end {E : List (Int × Int)} {s t i j : Nat} {M : Nat → Nat → Bool} (h : Mid E s t i j 4 M) (he : E[t]? = some ((i : Int), (j : Int))) : Nxt E s (t + 1) M := by
  refine ⟨h.n.old, fun a b u hu hE ha hb => ?_, h.n.only⟩
  rcases Nat.lt_or_ge u t with h1 | h1
  · exact h.n.new a b u h1 hE ha hb
  · have : u = t := by omega
    subst this
    rw [he] at hE
    simp only [Option.some.injEq, Prod.mk.injEq] at hE
    have e1 : i = a := by omega
    have e2 : j = b := by omega
    subst e1 e2
    refine ⟨h.one, fun k hk => h.row k ?_ hk⟩
    cases s with
    | zero => simp [pnB] at hk
    | succ s =>
      rcases pn_last hk with h3 | ⟨c, _, h3⟩
      · exact ((ad_iff _ _ _).1 h3).2.1
      · exact ((ad_iff _ _ _).1 h3).2.1

/-- An edge's block. -/
structure EB (w : World) (g i j : Nat) : Prop where
  blk : w.heap[g]? = some (.cells #[.int .i64 (i : Int), .int .i64 (j : Int)] 29 (0, 0))
theorem EB.c0 {w : World} {g i j : Nat} (h : EB w g i j) : w.cell? ⟨g, 0, none⟩ = some (.int .i64 (i : Int)) := by rw [cell_of_row _ _ _ _ _ _ h.blk]; rfl
theorem EB.c1 {w : World} {g i j : Nat} (h : EB w g i j) : w.cell? ⟨g, 1, none⟩ = some (.int .i64 (j : Int)) := by rw [cell_of_row _ _ _ _ _ _ h.blk]; rfl
theorem EB.keep {w w' : World} {g i j : Nat} (h : EB w g i j) (hb : w'.heap[g]? = w.heap[g]?) : EB w' g i j := ⟨hb.trans h.blk⟩
set_option maxRecDepth 100000 in
set_option maxHeartbeats 6400000 in
theorem way_succ (s : Nat) (hs : s < 4) (ih : ∀ (w : World) (ao : Option Addr) (n cap : Nat) (E : List (Int × Int)), RdE w ao cap E → E.length = n → Calls Tryd.prog 25 #[.slice ao n cap, .int .i64 (s : Int)] w fun e w' => e = .returned (.agg (mA (pnB E s))) ∧ Below w.heap.size w w')
    (w : World) (ao : Option Addr) (n cap : Nat) (E : List (Int × Int)) (hr : RdE w ao cap E) (hn : E.length = n) : Calls Tryd.prog 25 #[.slice ao n cap, .int .i64 ((s + 1 : Nat) : Int)] w fun e w' => e = .returned (.agg (mA (pnB E (s + 1)))) ∧ Below w.heap.size w w' := by
  have hz := zero45
  have hle := hr.le
  have hmx := hr.mx
  simp only [maxLen] at hmx
  have HIH : Hid (∀ (w : World) (ao : Option Addr) (n cap : Nat) (E : List (Int × Int)), RdE w ao cap E → E.length = n → Calls Tryd.prog 25 #[.slice ao n cap, .int .i64 (s : Int)] w fun e w' => e = .returned (.agg (mA (pnB E s))) ∧ Below w.heap.size w w') := ih
  clear ih
  have H2 : Hid (Rm ((w.alloc (.cells (mA fun _ _ => false) 45)).alloc (.cells (mA fun _ _ => false) 45)) w.heap.size (fun _ _ => false) ∧ Rm ((w.alloc (.cells (mA fun _ _ => false) 45)).alloc (.cells (mA fun _ _ => false) 45)) (w.heap.size + 1) (fun _ _ => false) ∧ Below w.heap.size w ((w.alloc (.cells (mA fun _ _ => false) 45)).alloc (.cells (mA fun _ _ => false) 45))) := two45 w _
  obtain ⟨z, hz1⟩ : ∃ z : Int, ((s + 1 : Nat) : Int) = z := ⟨_, rfl⟩
  rw [hz1]
  have e0 : (z == 0) = false := by simp; omega
  have e1 : IntKind.i64.wrap (z - 1) = (s : Int) := by
    subst hz1
    match s, hs with
    | 0, _ | 1, _ | 2, _ | 3, _ => rfl
  clear hz1
  go_enter Tryd.func25, Tryd.ntmps25
  go_upto_region 1 with fail
  refine wp_region_lit ?_
  refine wpList_plain rfl fun K1 hK1 => ?_
  go_step
  refine hK1 _ _ ?_
  clear hK1 K1
  refine wpList_plain rfl fun K2 hK2 => ?_
  go_step
  refine hK2 _ _ ?_
  clear hK2 K2
  refine wpList_store45 rfl _ _ rfl (w.heap.size + 1) (fun _ _ => false) (fun _ _ => false) rfl rfl H2.out.2.1 ?_
  intro w2 hM2 ho2
  refine wpList_nil ?_
  have hM0 : Rm w2 w.heap.size (fun _ _ => false) := H2.out.1.keep (ho2.block _ H2.out.1.lt (by omega))
  have hB2 : Below w.heap.size w w2 := H2.out.2.2.trans (ho2.below (by omega) H2.out.2.2.size)
  clear H2 ho2
  go_upto_region 4 with fail
  refine wp_region_lit ?_
  refine wpList_plain rfl fun K1 hK1 => ?_
  go_step
  refine hK1 _ _ ?_
  clear hK1 K1
  refine wpList_plain rfl fun K1 hK1 => ?_
  go_step
  refine hK1 _ _ ?_
  clear hK1 K1
  refine wpList_plain rfl fun K1 hK1 => ?_
  go_step
  refine hK1 _ _ ?_
  clear hK1 K1
  refine wpList_callP rfl 25 #[.slice ao n cap, .int .i64 (s : Int)] (by simp [go_sem]) (HIH.out w2 ao n cap E (hr.below hB2) hn) ?_
  rintro e w3 ⟨rfl, hb3⟩
  refine ⟨_, rfl, ?_⟩
  refine wpList_store45 rfl _ _ rfl (w.heap.size + 1) (pnB E s) (fun _ _ => false) rfl rfl (hM2.below hb3) ?_
  intro w4 hM4 ho4
  refine wpList_nil ?_
  have hB3 := below_step hB2 hb3
  have hM0' : Rm w4 w.heap.size (fun _ _ => false) := (hM0.below hb3).keep (ho4.block _ (hM0.below hb3).lt (by omega))
  have hB4 : Below w.heap.size w w4 := hB3.trans (ho4.below (by omega) hB3.size)
  clear hM0 hM2 hb3 hB2 hB3 ho4 HIH e0 e1
  have hlt4 := hM4.lt
  go_upto_region 5 with fail
  refine wp_region_lit ?_
  refine wpList_load45 rfl _ rfl (w.heap.size + 1) _ rfl hM4 ?_
  refine wpList_plain rfl fun K1 hK1 => ?_
  go_step
  refine hK1 _ _ ?_
  clear hK1 K1
  refine wpList_store45 rfl _ _ rfl w4.heap.size (pnB E s) (fun _ _ => false) rfl rfl (Rm.new w4 _) ?_
  intro w5 hM5 ho5
  refine wpList_nil ?_
  have hb45 : Below w4.heap.size w4 w5 := ((Below.refl _ _).alloc (Nat.le_refl _) (.cells (mA fun _ _ => false) 45)).trans (ho5.below (Nat.le_refl _) (by simp))
  have h50 := hM0'.below hb45
  have h51 := hM4.below hb45
  have hB5 := below_step hB4 hb45
  clear ho5 hb45 hM4 hM0' hz
  generalize w4.heap.size = q at *
  clear hB4
  go_wp2
  go_loopw [21] (fun i wr => ∃ (t : Nat) (M : Nat → Nat → Bool), i = .int .i64 t ∧ t ≤ n ∧ Rm wr w.heap.size (fun _ _ => false) ∧ Rm wr (w.heap.size + 1) (pnB E s) ∧ Rm wr q M ∧ Hid (Nxt E s t M) ∧ Below w.heap.size w wr) (fun i _ => n - (intOf i).toNat)
  case atStart => exact ⟨0, _, rfl, by omega, h50, h51, hM5, Nxt.first E s, hB5⟩
  case round =>
    clear h50 h51 hM5 hB5
    obtain ⟨t, M, rfl, ht, h0, h1, h6, HX, hbel⟩ := hrel
    rename World => wr
    by_cases hlt : t < n
    · obtain ⟨b, off, rfl, hbl, c0, c1⟩ := (hr.below hbel).at (t := t) (by omega)
      have he : E[t]? = some E[t] := List.getElem?_eq_getElem (by omega)
      generalize E[t] = x at *
      obtain ⟨x, y⟩ := x
      have HE : Hid (E[t]? = some (x, y)) := he
      clear he
      have e4 : decide ((t : Int) < n) = true := by simp; omega
      have hb' : Below wr.heap.size wr (wr.alloc (eO x y)) := by go_grown
      by_cases hx0 : x < 0
      · have HK : Hid (okE (x, y) = false) := by have : okE (x, y) = false := (by simp [okE, clB]; omega); exact this
        go_wp2
        go_roundw
        case rel => exact ⟨t + 1, M, by go_num, by omega, h0.below hb', h1.below hb', h6.below hb', HX.out.skip HE.out HK.out, below_step hbel hb'⟩
        case measure => simp [intOf]; omega
      by_cases hx3 : 3 < x
      · have HK : Hid (okE (x, y) = false) := by have : okE (x, y) = false := (by simp [okE, clB]; omega); exact this
        go_wp2
        go_roundw
        case rel => exact ⟨t + 1, M, by go_num, by omega, h0.below hb', h1.below hb', h6.below hb', HX.out.skip HE.out HK.out, below_step hbel hb'⟩
        case measure => simp [intOf]; omega
      by_cases hy0 : y < 0
      · have HK : Hid (okE (x, y) = false) := by have : okE (x, y) = false := (by simp [okE, clB]; omega); exact this
        go_wp2
        go_roundw
        case rel => exact ⟨t + 1, M, by go_num, by omega, h0.below hb', h1.below hb', h6.below hb', HX.out.skip HE.out HK.out, below_step hbel hb'⟩
        case measure => simp [intOf]; omega
      by_cases hy3 : 3 < y
      · have HK : Hid (okE (x, y) = false) := by have : okE (x, y) = false := (by simp [okE, clB]; omega); exact this
        go_wp2
        go_roundw
        case rel => exact ⟨t + 1, M, by go_num, by omega, h0.below hb', h1.below hb', h6.below hb', HX.out.skip HE.out HK.out, below_step hbel hb'⟩
        case measure => simp [intOf]; omega
      obtain ⟨i, rfl⟩ : ∃ i : Nat, x = i := ⟨x.toNat, by omega⟩
      obtain ⟨j, rfl⟩ : ∃ j : Nat, y = j := ⟨y.toNat, by omega⟩
      have hi : i < 4 := by omega
      have hj : j < 4 := by omega
      have k0 := (h6.below hb').cell hi hj
      have f0 := (h6.below hb').fz (i * 4 + j)
      go_upto_region 10 with fail
      go_big_region
      go_wp2
      have hg := h6.lt
      have hg' := hbel.size
      have hkp : ∀ k, k ≠ q → ((wr.alloc (eO (i : Int) (j : Int))).setCell ⟨q, i * 4 + j, none⟩ (.bool true)).drew.heap[k]? = (wr.alloc (eO (i : Int) (j : Int))).heap[k]? := fun k hne => Below.heap_setCell _ _ _ _ (fun e => hne e)
      have h0' : Rm ((wr.alloc (eO (i : Int) (j : Int))).setCell ⟨q, i * 4 + j, none⟩ (.bool true)).drew w.heap.size (fun _ _ => false) := (h0.below hb').keep (hkp _ (by omega))
      have h1' : Rm ((wr.alloc (eO (i : Int) (j : Int))).setCell ⟨q, i * 4 + j, none⟩ (.bool true)).drew (w.heap.size + 1) (pnB E s) := (h1.below hb').keep (hkp _ (by omega))
      have h6' : Rm ((wr.alloc (eO (i : Int) (j : Int))).setCell ⟨q, i * 4 + j, none⟩ (.bool true)).drew q (put2 M i j true) := ⟨((h6.below hb').put hi hj true).blk⟩
      have hE' : EB ((wr.alloc (eO (i : Int) (j : Int))).setCell ⟨q, i * 4 + j, none⟩ (.bool true)).drew wr.heap.size i j := ⟨(hkp _ (by omega)).trans (heap_alloc_new wr (eO (i : Int) (j : Int)))⟩
      have hB' : Below w.heap.size w ((wr.alloc (eO (i : Int) (j : Int))).setCell ⟨q, i * 4 + j, none⟩ (.bool true)).drew := by
        have h8 := below_set (below_step hbel hb') (p := ⟨q, i * 4 + j, none⟩) (by show w.heap.size ≤ q; omega) (.bool true)
        exact ⟨h8.os, h8.tape, h8.output, h8.size, h8.block⟩
      have HMd : Hid (Mid E s t i j 0 (put2 M i j true)) := HX.out.mid HE.out hi hj
      clear hkp k0 f0 h0 h1 h6 HX hb' hbel c0 c1
      generalize ((wr.alloc (eO (i : Int) (j : Int))).setCell ⟨q, i * 4 + j, none⟩ (.bool true)).drew = W6 at *
      generalize wr.heap.size = g at *
      go_loopw [9] (fun v wi => ∃ (x : Nat) (N : Nat → Nat → Bool), v = .int .i64 x ∧ x ≤ 4 ∧ Rm wi w.heap.size (fun _ _ => false) ∧ Rm wi (w.heap.size + 1) (pnB E s) ∧ Rm wi q N ∧ EB wi g i j ∧ Hid (Mid E s t i j x N) ∧ Below w.heap.size w wi) (fun v _ => 4 - (intOf v).toNat)
      case atStart => exact ⟨0, _, rfl, by omega, h0', h1', h6', hE', HMd, hB'⟩
      case round =>
        clear h0' h1' h6' hE' HMd hB'
        obtain ⟨x, N, rfl, hx4, h0, h1, h6, hE, HM, hbel⟩ := hrel
        rename World => wi
        by_cases hlx : x < 4
        · have e5 : decide ((x : Int) < 4) = true := by simp; omega
          have k0 := hE.c0
          have k1 := hE.c1
          have k2 := h6.cell hi hlx
          have k3 := h1.cell hj hlx
          have f0 := h6.fz (i * 4 + x)
          have HN : Hid (Mid E s t i j (x + 1) (put2 N i x (N i x || pnB E s j x))) := HM.out.next HE.out hi hj
          have hput : ∀ v, Rm (wi.setCell ⟨q, i * 4 + x, none⟩ (.bool v)).drew q (put2 N i x v) := fun v => ⟨(h6.put hi hlx v).blk⟩
          have HPut : Hid (∀ v, Rm (wi.setCell ⟨q, i * 4 + x, none⟩ (.bool v)).drew q (put2 N i x v)) := hput
          have HKp : Hid (∀ k v, k ≠ q → (wi.setCell ⟨q, i * 4 + x, none⟩ (.bool v)).drew.heap[k]? = wi.heap[k]?) := fun k v hne => Below.heap_setCell _ _ _ _ (fun e => hne e)
          have HBl : Hid (∀ v, Below w.heap.size w (wi.setCell ⟨q, i * 4 + x, none⟩ (.bool v)).drew) := fun v => by
            have h8 := below_set hbel (p := ⟨q, i * 4 + x, none⟩) (by show w.heap.size ≤ q; omega) (.bool v)
            exact ⟨h8.os, h8.tape, h8.output, h8.size, h8.block⟩
          clear hput
          cases hN : N i x
          · rw [hN] at k2
            have HV : Hid ((N i x || pnB E s j x) = pnB E s j x) := by have : (N i x || pnB E s j x) = pnB E s j x := (by rw [hN]; rfl); exact this
            clear hN
            generalize hpv : pnB E s j x = pv at *
            clear hpv
            go_upto_region 14 with fail
            go_big_region
            go_wp2
            go_roundw
            case rel =>
              have h9 := HN.out
              rw [HV.out] at h9
              exact ⟨x + 1, _, by go_num, by omega, h0.keep (HKp.out _ _ (by omega)), h1.keep (HKp.out _ _ (by omega)), HPut.out pv, hE.keep (HKp.out _ _ (by omega)), h9, HBl.out pv⟩
            case measure => simp [intOf]; omega
          · rw [hN] at k2
            have HV : Hid ((N i x || pnB E s j x) = true) := by have : (N i x || pnB E s j x) = true := (by rw [hN]; rfl); exact this
            clear hN
            go_upto_region 14 with fail
            go_big_region
            go_wp2
            go_roundw
            case rel =>
              have h9 := HN.out
              rw [HV.out] at h9
              exact ⟨x + 1, _, by go_num, by omega, h0.keep (HKp.out _ _ (by omega)), h1.keep (HKp.out _ _ (by omega)), HPut.out true, hE.keep (HKp.out _ _ (by omega)), h9, HBl.out true⟩
            case measure => simp [intOf]; omega
        · obtain rfl : x = 4 := by omega
          go_wp2
          go_roundw
          case rel => exact ⟨t + 1, N, by go_num, by omega, h0, h1, h6, HM.out.end HE.out, hbel⟩
          case measure => simp [intOf]; omega
    · obtain rfl : t = n := by omega
      have e4 : decide ((t : Int) < t) = false := by simp
      go_upto_region 16 with fail
      refine wp_region_lit ?_
      refine wpList_load45 rfl _ rfl q _ rfl h6 ?_
      refine wpList_store45 rfl _ _ rfl w.heap.size M (fun _ _ => false) rfl rfl h0 ?_
      intro w9 hR9 ho9
      refine wpList_nil ?_
      go_wp2
      refine bodyPost_ret (results_cell Tryd.results25 (by rfl) (loadV45 hR9)) (by rfl) ?_
      subst hn
      exact ⟨by rw [HX.out.last], hbel.trans (ho9.below (Nat.le_refl _) hbel.size)⟩

theorem way_any : ∀ s : Nat, s ≤ 4 → ∀ (w : World) (ao : Option Addr) (n cap : Nat) (E : List (Int × Int)), RdE w ao cap E → E.length = n → Calls Tryd.prog 25 #[.slice ao n cap, .int .i64 (s : Int)] w fun e w' => e = .returned (.agg (mA (pnB E s))) ∧ Below w.heap.size w w'
  | 0, _, w, ao, n, cap, E, _, _ => way_zero w ao n cap E
  | s + 1, h, w, ao, n, cap, E, hr, hn => way_succ s (by omega) (way_any s (by omega)) w ao n cap E hr hn
theorem way4 (w : World) (ao : Option Addr) (n cap : Nat) (E : List (Int × Int)) (hr : RdE w ao cap E) (hn : E.length = n) : Calls Tryd.prog 25 #[.slice ao n cap, .int .i64 4] w fun e w' => e = .returned (.agg (mA (rB E))) ∧ Below w.heap.size w w' := way_any 4 (Nat.le_refl _) w ao n cap E hr hn

end Go.Proofs.YteofipheoipeoaaDoor
