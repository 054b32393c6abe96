/- Lane, isLane, New, Len, has, copied and add (Put) of package net, walked. -/
import Derived.Test.YtfllkhimlambhaaN0
import Derived.Deep.RegionHeld
import Derived.Handy
import Derived.BigQuiet
import Derived.Deep.DeepCutAuto
namespace Go.Proofs.Ytfllkhimlambhaa
open Go.RowKit
set_option linter.unusedVariables false
set_option maxRecDepth 8000

theorem ret_int {k : IntKind} {a b : Int} (h : a = b) : Ending.returned (.int k a) = .returned (.int k b) := by rw [h]
theorem ret_bool {a b : Bool} (h : a = b) : Ending.returned (.bool a) = .returned (.bool b) := by rw [h]
theorem bel0 (w : World) : Below w.heap.size w w.drew := ⟨rfl, rfl, rfl, Nat.le_refl _, fun _ _ => rfl⟩

section
variable {P : Program} {ops : Array Oper} {Q : Exit → Act → World → Prop} {md : Region.Mode} {F : World → Prop} {z : Nat}
/-- A call that may come up alone, ahead of z. -/
theorem Till.call {i : Nat} {oi : Oper} (d : Nat) (fn : FuncId) (args : Array Value) {f : Nat} {l : Array Bool} {a : Act} {w : World} (hi : ops[i]? = some oi) (hd : oi.dst = some d) (hr : Region.ready md ops l = [i])
    (hw : Region.wanted oi (yielded ops a.tmps) = true) (hrun : (execOp a.eval oi).run P w = .ok (.enter fn args) w) {Post : Ending → World → Prop} (hc : Calls P fn args w Post)
    (h : ∀ e w', Post e w' → ∃ v, e = .returned v ∧ F w' ∧ Till P md ops Q F z f (l.setIfInBounds i true) (a.put (some d) v) w') : Till P md ops Q F z (f + 1) l a w := by
  refine ⟨fun h0 => (by rw [h0] at hr; cases hr), fun j hj => ?_⟩
  rw [hr] at hj
  obtain rfl : j = i := by simpa using hj
  unfold Go.wpOp
  simp only [hi, hw, if_true, Oper.wp, hrun, Oper.upon_enter]
  refine .inl (hc.mono fun e w' hp => ?_)
  obtain ⟨v, rfl, h2, h3⟩ := h e w' hp
  exact ⟨fun _ => h2, hd ▸ h3⟩
/-- Number i first: it yields its value as long as F holds, and z is among some that wait for it or for one another. -/
theorem Till.firstD {i : Nat} {oi : Oper} {v : Value} (D : List Nat) (hi : ops[i]? = some oi) (hzD : z ∈ D) (hiD : i ∉ D) (hD : ∀ d ∈ D, ∃ od, ops[d]? = some od ∧ ∃ e ∈ od.after, Region.binds md e = true ∧ (e.on = i ∨ e.on ∈ D)) (hsel : ∀ (j : Nat) (o : Oper) cs b, ops[j]? = some o → o.op ≠ .select cs b)
    (hQ : ∀ c a w, Q (.panic c) (a.put oi.dst v) w → Q (.panic c) a w) :
    ∀ (f : Nat) (l : Array Bool) (a : Act) (w : World),
      (∀ j oj, ops[j]? = some oj → j ≠ i → l.getD j true = false → (∀ e ∈ oj.after, Region.binds md e = true → e.on ≠ i) → oi.apart ops oj = true) →
      i ∈ Region.ready md ops l → (∀ d ∈ D, l.getD d true = false ∧ l.getD d false = false) → YieldsIf P ops F oi v a → F w →
      Till P md ops Q F z f (l.setIfInBounds i true) (a.put oi.dst v) w → Till P md ops Q F z (f + 1) l a w
  | f, l, a, w, hfree, hr, hlz, hy, hF, H => by
    constructor
    · intro h0
      rw [h0] at hr
      cases hr
    intro j hj
    rcases Nat.decEq j i with hji | rfl
    · have hj2 := ready_mono hj hji
      match f, H with
      | 0, H => exact absurd (H.1 ▸ hj2) (by simp)
      | f + 1, H =>
        have h1 := H.2 j hj2
        obtain ⟨_, oj, hoj, hbj⟩ := mem_ready.1 hj
        obtain ⟨hun, hno⟩ := not_on hr hj hoj
        have hjD : j ∉ D := by
          intro hjd
          obtain ⟨od, hod, e, he, hb, hon⟩ := hD j hjd
          rw [hoj] at hod
          cases hod
          rcases hon with hon | hon
          · exact hno e he hb hon
          · have h2 := getD_both (hbj e he hb)
            rw [(hlz _ hon).1] at h2
            cases h2
        have hne : ∀ d ∈ D, j ≠ d := fun d hd e => hjD (e ▸ hd)
        have hz1 : ∀ l' : Array Bool, l'.getD z false = false → (l'.setIfInBounds j true).getD z false = false := fun l' h => (getD_ne false (hne z hzD)).trans h
        have hz2 : (l.setIfInBounds i true).getD z false = false := (getD_ne false (fun e : i = z => hiD (by rw [e]; exact hzD))).trans (hlz z hzD).2
        have hlz2 : ∀ d ∈ D, (l.setIfInBounds j true).getD d true = false ∧ (l.setIfInBounds j true).getD d false = false := fun d hd => ⟨(getD_ne true (hne d hd)).trans (hlz d hd).1, (getD_ne false (hne d hd)).trans (hlz d hd).2⟩
        have hfree2 := apart_left (p := fun k ok => (∀ e ∈ ok.after, Region.binds md e = true → e.on ≠ i) → oi.apart ops ok = true) hfree hun
        have h2 := wpOp_putIf hoj (hfree j oj hoj hji hun hno) (fun cs b => hsel i oi cs b hi) (fun cs b => hsel j oj cs b hoj) hQ hy h1
        refine wpOp_mono (fun a' w' h3 => ?_) h2
        obtain ⟨hy', hF', hT⟩ := h3
        have hFw := hF' (hz1 _ hz2)
        rw [← Array.setIfInBounds_comm _ _ hji] at hT
        exact ⟨fun _ => hFw, Till.firstD D hi hzD hiD hD hsel hQ f _ _ _ hfree2 (ready_mono hr (Ne.symm hji)) hlz2 hy' hFw hT⟩
    · exact hy.wpOp hi hF ⟨fun _ => hF, H⟩

theorem Till.valD {i : Nat} {oi : Oper} (D : List Nat) (v : Value) (d : Nat) {f : Nat} {l : Array Bool} {a : Act} {w : World} (hi : ops[i]? = some oi) (hd : oi.dst = some d) (hzD : D.contains z = true) (hiD : D.contains i = false) (hD : D.all (fun d => (ops[d]?.map fun od => od.after.any (fun e => Region.binds md e && (e.on == i || D.contains e.on))).getD false) = true) (hs : Region.noSelect ops = true) (hf : Region.free md ops l i = true) (hr : (Region.ready md ops l).contains i = true) (hl : D.all (fun d => l.getD d true == false && l.getD d false == false) = true)
    (hw : Region.wanted oi (yielded ops a.tmps) = true) (hQ : ∀ c a w, Q (.panic c) (a.put oi.dst v) w → Q (.panic c) a w) (hF : F w) (hy : ∀ w, F w → (execOp a.eval oi).run P w = .ok (.value v) w) (h : Till P md ops Q F z f (l.setIfInBounds i true) (a.put (some d) v) w) : Till P md ops Q F z (f + 1) l a w := by
  refine Till.firstD D hi (by simpa using hzD) (by simpa using hiD) ?_ (Region.noSelect_spec hs) hQ f l a w (Region.free_spec hi hf) (by simpa using hr) ?_ (.inl ⟨hw, hy⟩) hF (hd ▸ h)
  · intro d hd
    have h1 := List.all_eq_true.1 hD d hd
    cases ho : ops[d]? with
    | none => rw [ho] at h1; simp at h1
    | some od =>
      rw [ho] at h1
      simp only [Option.map_some, Option.getD_some] at h1
      obtain ⟨k, hk, hb⟩ := Array.any_iff_exists.1 h1
      simp only [Bool.and_eq_true, Bool.or_eq_true, beq_iff_eq] at hb
      exact ⟨od, rfl, _, Array.getElem_mem hk, hb.2.2.1, hb.2.2.2.imp id (by simp)⟩
  · intro d hd
    have h1 := List.all_eq_true.1 hl d hd
    simp only [Bool.and_eq_true, beq_iff_eq] at h1
    exact h1
end

abbrev np (g : Nat) : Value := .pointer (some ⟨g, 0, none⟩)

def laB (z : Int) : Bool := decide (0 ≤ z ∧ z < 8)
theorem laB_nat {l : Nat} (h : l < 8) : laB (l : Int) = true := by simp [laB]; omega
theorem laB_no {z : Int} (h : ¬ (0 ≤ z ∧ z < 8)) : laB z = false := by simp [laB]; omega

theorem isLane_any (c : Int) (w : World) : Calls Try.prog 25 #[.int .i64 c] w fun e w' => e = .returned (.bool (laB c)) ∧ w' = w := by
  have HE : Hid (laB c = (decide (0 ≤ c) && decide (c < 8))) := by unfold Hid; simp [laB]
  cases hd : decide (0 ≤ c)
  all_goals
    have h' := hd
    simp only [decide_eq_true_eq, decide_eq_false_iff_not] at h'
    go_enter Try.func25, Try.ntmps25
    go_wp2
    go_ret
    exact ⟨ret_bool (by rw [HE.out, hd]; rfl), rfl⟩

def lanZ (c : Int) (s : Bool) : Int := if 0 ≤ c ∧ c < 4 then (if s then 2 * c + 1 else 2 * c) else -1

theorem lane_any (c : Int) (s : Bool) (w : World) : Calls Try.prog 10 #[.int .i64 c, .bool s] w fun e w' => e = .returned (.int .i64 (lanZ c s)) ∧ w' = w := by
  by_cases h0 : c < 0
  · have HE : Hid (lanZ c s = -1) := by unfold Hid lanZ; rw [if_neg (by omega)]
    go_enter Try.func10, Try.ntmps10
    go_wp2
    go_ret
    exact ⟨ret_int HE.out.symm, rfl⟩
  · by_cases h4 : (4 : Int) ≤ c
    · have HE : Hid (lanZ c s = -1) := by unfold Hid lanZ; rw [if_neg (by omega)]
      go_enter Try.func10, Try.ntmps10
      go_wp2
      go_ret
      exact ⟨ret_int HE.out.symm, rfl⟩
    · have hw2 : IntKind.i64.wrap (2 * c) = 2 * c := by rw [IntKind.wrap_i64]; omega
      have hw3 : IntKind.i64.wrap (2 * c + 1) = 2 * c + 1 := by rw [IntKind.wrap_i64]; omega
      cases s
      · have HE : Hid (lanZ c false = 2 * c) := by unfold Hid lanZ; rw [if_pos (by omega)]; rfl
        go_enter Try.func10, Try.ntmps10
        go_wp2
        go_ret
        exact ⟨ret_int HE.out.symm, rfl⟩
      · have HE : Hid (lanZ c true = 2 * c + 1) := by unfold Hid lanZ; rw [if_pos (by omega)]; rfl
        go_enter Try.func10, Try.ntmps10
        go_wp2
        go_ret
        exact ⟨ret_int HE.out.symm, rfl⟩

theorem new_any (w : World) : Calls Try.prog 8 #[] w fun e w' => e = .returned (np w.heap.size) ∧ Net w' w.heap.size (fun k => w.heap.size ≤ k) (fun _ => []) ∧ Below w.heap.size w w' := by
  have HN : Hid (Net (w.alloc (.cells #[.slice none 0 0, .slice none 0 0, .slice none 0 0, .slice none 0 0, .slice none 0 0, .slice none 0 0, .slice none 0 0, .slice none 0 0] 59)) w.heap.size (fun k => w.heap.size ≤ k) (fun _ => []) ∧ Below w.heap.size w (w.alloc (.cells #[.slice none 0 0, .slice none 0 0, .slice none 0 0, .slice none 0 0, .slice none 0 0, .slice none 0 0, .slice none 0 0, .slice none 0 0] 59))) := ⟨nine0 w, (Below.refl _ _).alloc (Nat.le_refl _) _⟩
  go_enter Try.func8, Try.ntmps8
  go_wp2
  go_ret
  exact ⟨rfl, HN.out⟩

/-- How many are on a lane. -/
def lenZ (T : Nat → List It) (z : Int) : Int := if 0 ≤ z ∧ z < 8 then ((T z.toNat).length : Int) else 0

/-- One lane of a net. -/
theorem Net.lane {w : World} {g : Nat} {V : Nat → Prop} {T : Nat → List It} (H : Net w g V T) {l : Nat} (hl : l < 8) : ∃ ao cap L, w.cell? ⟨g, l, none⟩ = some (.slice ao (T l).length cap) ∧ OwR fvC 2 63 w ao cap L ∧ L.map Fv.it = T l ∧ (∀ x ∈ L, Fb w V x) ∧ (T l).length ≤ 200 := by
  obtain ⟨A, C, F, h, e⟩ := H
  have e1 : (F l).length = (T l).length := by rw [← e l hl, List.length_map]
  have h1 := h.cell l hl
  rw [e1] at h1
  exact ⟨A l, C l, F l, h1, h.row l hl, e l hl, h.by' l hl, e1 ▸ h.le l hl⟩

theorem len_any {w : World} {g : Nat} {V : Nat → Prop} {T : Nat → List It} (H : Net w g V T) (z : Int) : Calls Try.prog 12 #[np g, .int .i64 z] w fun e w' => e = .returned (.int .i64 (lenZ T z)) ∧ w' = w := by
  by_cases hz : 0 ≤ z ∧ z < 8
  · obtain ⟨l, rfl⟩ : ∃ l : Nat, z = (l : Int) := ⟨z.toNat, by omega⟩
    have hl : l < 8 := by omega
    obtain ⟨ao, cap, L, hc, ho, -, -, h200⟩ := H.lane hl
    have HE : Hid (lenZ T (l : Int) = ((T l).length : Int)) := by unfold Hid lenZ; rw [if_pos hz, Int.toNat_natCast]
    have hb := laB_nat hl
    clear hz
    generalize (T l).length = n at *
    go_enter Try.func12, Try.ntmps12
    go_wp2_with (go_at_call 25; refine (isLane_any _ _).mono ?_; rw [hb]; rintro e w1 ⟨rfl, hw1⟩; subst w1)
    go_ret
    exact ⟨ret_int HE.out.symm, rfl⟩
  · have HE : Hid (lenZ T z = 0) := by unfold Hid lenZ; rw [if_neg hz]
    have hb := laB_no hz
    clear hz
    go_enter Try.func12, Try.ntmps12
    go_wp2_with (go_at_call 25; refine (isLane_any _ _).mono ?_; rw [hb]; rintro e w1 ⟨rfl, hw1⟩; subst w1)
    go_ret
    exact ⟨ret_int HE.out.symm, rfl⟩

def hasB (T : Nat → List It) (z i : Int) : Bool := decide (0 ≤ i ∧ i < lenZ T z)

theorem has_any {w : World} {g : Nat} {V : Nat → Prop} {T : Nat → List It} (H : Net w g V T) (z i : Int) : Calls Try.prog 26 #[np g, .int .i64 z, .int .i64 i] w fun e w' => e = .returned (.bool (hasB T z i)) ∧ w' = w := by
  have HE : Hid (hasB T z i = (decide (0 ≤ i) && decide (i < lenZ T z))) := by unfold Hid; simp [hasB]
  cases hd : decide (0 ≤ i)
  all_goals
    have h' := hd
    simp only [decide_eq_true_eq, decide_eq_false_iff_not] at h'
    go_enter Try.func26, Try.ntmps26
    go_wp2_with (go_at_call 12; refine (len_any H _).mono ?_; rintro e w1 ⟨rfl, hw1⟩; subst w1)
    go_ret
    exact ⟨ret_bool (by rw [HE.out, hd]; rfl), rfl⟩

set_option maxHeartbeats 400000 in
theorem ncopied_any (ao : Option Addr) (n cap : Nat) (bs : List Nat) (w : World) (h : Rd8 w ao n cap bs) (hn : n ≤ 140737488355328) :
    Calls Try.prog 34 #[.slice ao n cap] w fun e w' => ∃ ao' cap', e = .returned (.slice ao' n cap') ∧ Own8 w' w.heap.size ao' n cap' bs ∧ Below w.heap.size w w' := by
  have hl := h.len
  go_enter Try.func34, Try.ntmps34
  go_wp2_with (at_builtin; refine wpList_append_rdI _ rfl _ _ 33 rfl w.heap.size 5 .u8 (.int .u8 0) 1 Try.underlying33 info5 rfl rfl rfl (OwnI.nil _ _ _ _) h.rd rfl (by rw [ci_length]; omega) (by omega) (by unfold maxLen; omega) (Nat.le_refl _) ?_; intro ao2 cap2 w1 ho1 hb1)
  go_ret
  exact ⟨_, _, rfl, ⟨ho1, hl, h.byte⟩, hb1⟩

/-- May one more be put? -/
def putB (T : Nat → List It) (z : Int) : Bool := decide (0 ≤ z ∧ z < 8) && decide (lenZ T z < 200)
def putT (T : Nat → List It) (z : Int) (x : It) : Nat → List It := if putB T z then upd T z.toNat (T z.toNat ++ [x]) else T

theorem lenZ_nat (T : Nat → List It) {l : Nat} (h : l < 8) : lenZ T (l : Int) = ((T l).length : Int) := by
  unfold lenZ
  rw [if_pos (by omega), Int.toNat_natCast]
theorem putB_nat (T : Nat → List It) {l : Nat} (h : l < 8) : putB T (l : Int) = decide ((T l).length < 200) := by
  unfold putB
  rw [lenZ_nat T h, decide_eq_true (show 0 ≤ (l : Int) ∧ (l : Int) < 8 by omega), Bool.true_and]
  congr 1
  simp only [eq_iff_iff]
  omega

theorem add_no {w : World} {g : Nat} {V : Nat → Prop} {T : Nat → List It} (H : Net w g V T) (z : Int) (hz : putB T z = false) (sv : Value) (sp : Bool) : Calls Try.prog 24 #[np g, .int .i64 z, sv, .bool sp] w fun e w' => e = .returned (.bool false) ∧ w' = w := by
  by_cases hi : 0 ≤ z ∧ z < 8
  · obtain ⟨l, rfl⟩ : ∃ l : Nat, z = (l : Int) := ⟨z.toNat, by omega⟩
    have hl : l < 8 := by omega
    obtain ⟨ao, cap, L, hc, ho, -, -, h200⟩ := H.lane hl
    have hn : (200 : Int) ≤ ((T l).length : Int) := by
      rw [putB_nat T hl, decide_eq_false_iff_not] at hz
      omega
    have hb := laB_nat hl
    clear hi hz
    generalize (T l).length = n at *
    go_enter Try.func24, Try.ntmps24
    go_wp2_with (go_at_call 25; refine (isLane_any _ _).mono ?_; rw [hb]; rintro e w1 ⟨rfl, hw1⟩; subst w1)
    go_ret
    exact ⟨rfl, rfl⟩
  · have hb := laB_no hi
    clear hi hz
    go_enter Try.func24, Try.ntmps24
    go_wp2_with (go_at_call 25; refine (isLane_any _ _).mono ?_; rw [hb]; rintro e w1 ⟨rfl, hw1⟩; subst w1)
    go_ret
    exact ⟨rfl, rfl⟩

/-- A net behind an append to one of its rows. -/
theorem Nt.appended {w w6 w7 : World} {g : Nat} {V : Nat → Prop} {A : Nat → Option Addr} {C : Nat → Nat} {F : Nat → List Fv} (H : Nt w g V A C F) {l : Nat} (hl : l < 8) (hb : Below w.heap.size w w6) (hg : w6.grownBy w7 ((A l).map (·.block))) {x : Fv} (hx : Fb w6 (Grow w V) x) {ao3 : Option Addr} {cap3 : Nat} (ho : OwR fvC 2 63 w7 ao3 cap3 (F l ++ [x])) (hloc : ao3 = A l ∨ ao3 = some ⟨w6.heap.size, 0, none⟩) (hn : (F l).length < 200) :
    Nt (w7.setCell ⟨g, l, none⟩ (.slice ao3 ((F l).length + 1) cap3)) g (Grow w V) (upd A l ao3) (upd C l cap3) (upd F l (F l ++ [x])) ∧ OffN V w (w7.setCell ⟨g, l, none⟩ (.slice ao3 ((F l).length + 1) cap3)) := by
  have hrow : ∀ (k : Nat) cs, w6.heap[k]? = some (.cells cs 5) → w7.heap[k]? = w6.heap[k]? := by
    intro k cs hc
    refine hg.block k (Array.getElem?_eq_some_iff.1 hc).1 ?_
    intro e
    cases ha : A l with
    | none => rw [ha] at e; cases e
    | some a =>
      rw [ha] at e
      obtain ⟨h1, cur, h2⟩ := (H.row l hl).lt a ha
      have e2 : k = a.block := by simpa using e
      rw [e2, hb.block _ h1, h2] at hc
      cases hc
  refine H.stored hl (Nat.le_trans hb.size hg.size) (hg.os.trans hb.os) (hg.tape.trans hb.tape) (hg.output.trans hb.output) ?_ ho (by simp) (by omega) (fun k hk => .inl hk) ?_ ?_
  · intro k hk hne
    refine (hg.block k (Nat.lt_of_lt_of_le hk hb.size) ?_).trans (hb.block k hk)
    intro e
    cases ha : A l with
    | none => rw [ha] at e; cases e
    | some a => rw [ha] at e; exact hne a ha (by simpa using e.symm)
  · rcases hloc with e | e
    · exact .inl e
    · exact .inr fun a ha => by rw [e] at ha; cases ha; exact ⟨hb.size, .inr hb.size⟩
  · intro y hy
    rcases List.mem_append.1 hy with hy | hy
    · have h1 := (((H.by' l hl y hy).mono (U := Grow w V) fun k _ hk => .inl hk).below hb)
      exact h1.keep hg.size fun k cs _ hc => hrow k cs hc
    · have : y = x := by simpa using hy
      subst this
      exact hx.keep hg.size fun k cs _ hc => hrow k cs hc

theorem fz_of {w : World} {g j : Nat} (h : ∃ cs, w.heap[g]? = some (.cells cs 59)) : w.frozen? ⟨g, j, none⟩ = false := by obtain ⟨cs, h⟩ := h; exact frozen_of_row _ _ _ _ _ h

set_option maxHeartbeats 3200000 in
theorem add_in {w : World} {g : Nat} {V : Nat → Prop} {A : Nat → Option Addr} {C : Nat → Nat} {F : Nat → List Fv} (H : Nt w g V A C F) (l : Nat) (hl : l < 8) (ao : Option Addr) (n cap : Nat) (hA : A l = ao) (hC : C l = cap) (hF : (F l).length = n) (hn : n < 200) (ax : Option Addr) (m cx : Nat) (bs : List Nat) (hr : Rd8 w ax m cx bs) (hm : m ≤ 140737488355328) (sp : Bool) : Calls Try.prog 24 #[np g, .int .i64 (l : Int), .slice ax m cx, .bool sp] w fun e w' => e = .returned (.bool true) ∧ ∃ x ao3 cap3, x.it = (bs, sp) ∧ Nt w' g (Grow w V) (upd A l ao3) (upd C l cap3) (upd F l (F l ++ [x])) ∧ OffN V w w' := by
  have hc := H.cell l hl
  rw [hA, hC, hF] at hc
  have hb := laB_nat hl
  have hn2 : ¬ (200 : Int) ≤ (n : Int) := by omega
  have HA : Hid (Nt w g V A C F ∧ A l = ao ∧ C l = cap ∧ (F l).length = n ∧ n < 200) := ⟨H, hA, hC, hF, hn⟩
  have HS : Hid (∀ U, Below w.heap.size w U → U.cell? ⟨g, l, none⟩ = some (.slice ao n cap) ∧ U.frozen? ⟨g, l, none⟩ = false) := by
    intro U hU
    have h1 := H.keep hU.size fun k hk _ => hU.block k hk
    have h2 := h1.cell l hl
    rw [hA, hC, hF] at h2
    exact ⟨h2, h1.fz l⟩
  have HC : Hid (Calls Try.prog 34 #[.slice ax m cx] w.drew fun e w' => ∃ ao' cap', e = .returned (.slice ao' m cap') ∧ Hid (Own8 w' w.heap.size ao' m cap' bs ∧ Below w.heap.size w w')) := by
    refine (ncopied_any ax m cx bs w.drew (hr.heap rfl) hm).mono ?_
    rintro e w' ⟨a1, c1, rfl, h1, h2⟩
    exact ⟨a1, c1, rfl, h1, below_step (bel0 w) h2⟩
  have HM : Hid (m ≤ 140737488355328) := hm
  clear H hA hC hF hn hr hm
  go_enter Try.func24, Try.ntmps24
  go_upto_region 3 with (first
    | (go_at_call 25; refine (isLane_any _ _).mono ?_; rw [hb]; rintro e w1 ⟨rfl, hw1⟩; subst w1)
    | fail)
  clear hc
  refine wp_region_till (fun U => U.cell? ⟨g, l, none⟩ = some (.slice ao n cap) ∧ U.frozen? ⟨g, l, none⟩ = false) 17 (by kernel_rfl) ?_
  have hF := HS.out _ (bel0 w)
  have hlz : (l : Int) < 8 := by omega
  refine Till.val (i := 0) ?_ 22 rfl rfl rfl (by kernel_rfl) (by decide) (by kernel_rfl) (by kernel_rfl) (by kernel_rfl) (by kernel_rfl) (by rfl) (fun _ _ _ h => h) hF ?_ ?_
  rotate_left
  · (intro w hSw; go_simp; first | done | with_reducible rfl)
  simp only [Act.put, List.setIfInBounds_toArray, List.set_cons_zero, List.set_cons_succ]
  refine Till.val (i := 1) ?_ 23 rfl rfl rfl (by kernel_rfl) (by decide) (by kernel_rfl) (by kernel_rfl) (by kernel_rfl) (by kernel_rfl) (by rfl) (fun _ _ _ h => h) hF ?_ ?_
  rotate_left
  · (intro w hSw; go_simp; first | done | with_reducible rfl)
  simp only [Act.put, List.setIfInBounds_toArray, List.set_cons_zero, List.set_cons_succ]
  refine Till.val (i := 2) ?_ 24 rfl rfl rfl (by kernel_rfl) (by decide) (by kernel_rfl) (by kernel_rfl) (by kernel_rfl) (by kernel_rfl) (by rfl) (fun _ _ _ h => h) hF ?_ ?_
  rotate_left
  · (intro w hSw; go_simp; first | done | with_reducible rfl)
  simp only [Act.put, List.setIfInBounds_toArray, List.set_cons_zero, List.set_cons_succ]
  refine Till.val (i := 3) ?_ 25 rfl rfl rfl (by kernel_rfl) (by decide) (by kernel_rfl) (by kernel_rfl) (by kernel_rfl) (by kernel_rfl) (by rfl) (fun _ _ _ h => h) hF ?_ ?_
  rotate_left
  · (intro w hSw; go_simp; first | done | with_reducible rfl)
  simp only [Act.put, List.setIfInBounds_toArray, List.set_cons_zero, List.set_cons_succ]
  refine Till.val (i := 4) ?_ 26 rfl rfl rfl (by kernel_rfl) (by decide) (by kernel_rfl) (by kernel_rfl) (by kernel_rfl) (by kernel_rfl) (by rfl) (fun _ _ _ h => h) hF ?_ ?_
  rotate_left
  · (intro w hSw; go_simp; first | done | with_reducible rfl)
  simp only [Act.put, List.setIfInBounds_toArray, List.set_cons_zero, List.set_cons_succ]
  refine Till.val (i := 5) ?_ 27 rfl rfl rfl (by kernel_rfl) (by decide) (by kernel_rfl) (by kernel_rfl) (by kernel_rfl) (by kernel_rfl) (by rfl) (fun _ _ _ h => h) hF ?_ ?_
  rotate_left
  · (intro w hSw; go_simp; first | done | with_reducible rfl)
  simp only [Act.put, List.setIfInBounds_toArray, List.set_cons_zero, List.set_cons_succ]
  refine Till.val (i := 6) ?_ 28 rfl rfl rfl (by kernel_rfl) (by decide) (by kernel_rfl) (by kernel_rfl) (by kernel_rfl) (by kernel_rfl) (by rfl) (fun _ _ _ h => h) hF ?_ ?_
  rotate_left
  · (intro w hSw; go_simp; first | done | with_reducible rfl)
  simp only [Act.put, List.setIfInBounds_toArray, List.set_cons_zero, List.set_cons_succ]
  refine Till.val (i := 7) ?_ 29 rfl rfl rfl (by kernel_rfl) (by decide) (by kernel_rfl) (by kernel_rfl) (by kernel_rfl) (by kernel_rfl) (by rfl) (fun _ _ _ h => h) hF ?_ ?_
  rotate_left
  · (intro w hSw; obtain ⟨k0, k1⟩ := hSw; go_simp; first | done | with_reducible rfl)
  simp only [Act.put, List.setIfInBounds_toArray, List.set_cons_zero, List.set_cons_succ]
  refine Till.val (i := 8) ?_ 30 rfl rfl rfl (by kernel_rfl) (by decide) (by kernel_rfl) (by kernel_rfl) (by kernel_rfl) (by kernel_rfl) (by rfl) (fun _ _ _ h => h) hF ?_ ?_
  rotate_left
  · (intro w hSw; go_simp; first | done | with_reducible rfl)
  simp only [Act.put, List.setIfInBounds_toArray, List.set_cons_zero, List.set_cons_succ]
  refine Till.val (i := 10) ?_ 32 rfl rfl rfl (by kernel_rfl) (by decide) (by kernel_rfl) (by kernel_rfl) (by kernel_rfl) (by kernel_rfl) (by rfl) (fun _ _ _ h => h) hF ?_ ?_
  rotate_left
  · (intro w hSw; go_simp; first | done | with_reducible rfl)
  simp only [Act.put, List.setIfInBounds_toArray, List.set_cons_zero, List.set_cons_succ]
  refine Till.valD (i := 14) [15, 16, 17] ?_ 36 rfl rfl (by decide) (by decide) (by kernel_rfl) (by kernel_rfl) (by kernel_rfl) (by kernel_rfl) (by kernel_rfl) (by rfl) (fun _ _ _ h => h) hF ?_ ?_
  rotate_left
  · (intro w hSw; go_simp; first | done | with_reducible rfl)
  simp only [Act.put, List.setIfInBounds_toArray, List.set_cons_zero, List.set_cons_succ]
  refine Till.valD (i := 15) [16, 17] ?_ 37 rfl rfl (by decide) (by decide) (by kernel_rfl) (by kernel_rfl) (by kernel_rfl) (by kernel_rfl) (by kernel_rfl) (by rfl) (fun _ _ _ h => h) hF ?_ ?_
  rotate_left
  · (intro w hSw; go_simp; first | done | with_reducible rfl)
  simp only [Act.put, List.setIfInBounds_toArray, List.set_cons_zero, List.set_cons_succ]
  refine Till.call (i := 9) 31 34 #[.slice ax m cx] rfl rfl (by kernel_rfl) (by rfl) (by simp [go_sem]) HC.out ?_
  rintro e W6 ⟨a6, c6, rfl, HB6⟩
  have hF6 := HS.out _ HB6.out.2
  refine ⟨_, rfl, hF6, ?_⟩
  simp only [Act.put, List.setIfInBounds_toArray, List.set_cons_zero, List.set_cons_succ]
  refine Till.run (i := 11) 33 (fvV ⟨a6, m, c6, bs, sp⟩) W6 rfl rfl (by kernel_rfl) (by rfl) (by go_simp) hF6 ?_
  simp only [Act.put, List.setIfInBounds_toArray, List.set_cons_zero, List.set_cons_succ]
  have HB7 : Hid (Below w.heap.size w (W6.alloc (fvO ⟨a6, m, c6, bs, sp⟩))) := HB6.out.2.trans ((Below.refl _ _).alloc HB6.out.2.size _)
  have hF7 := HS.out _ HB7.out
  refine Till.run (i := 12) 34 (.slice (some ⟨W6.heap.size, 0, none⟩) 1 1) (W6.alloc (fvO ⟨a6, m, c6, bs, sp⟩)) rfl rfl (by kernel_rfl) (by rfl) (by go_simp) hF7 ?_
  simp only [Act.put, List.setIfInBounds_toArray, List.set_cons_zero, List.set_cons_succ]
  have HO : Hid (OwR fvC 2 63 (W6.alloc (fvO ⟨a6, m, c6, bs, sp⟩)) ao cap (F l) ∧ RdR fvC (W6.alloc (fvO ⟨a6, m, c6, bs, sp⟩)) (some ⟨W6.heap.size, 0, none⟩) 1 [⟨a6, m, c6, bs, sp⟩] ∧ Fb (W6.alloc (fvO ⟨a6, m, c6, bs, sp⟩)) (Grow w V) ⟨a6, m, c6, bs, sp⟩ ∧ (F l).length = n) := by
    have h1 := HA.out.1.row l hl
    rw [HA.out.2.1, HA.out.2.2.1] at h1
    refine ⟨h1.below HB7.out, RdR.built fvE W6 63 _ [⟨a6, m, c6, bs, sp⟩] rfl 1 rfl (by decide), (Fb.own HB6.out.1 sp (Grow w V) (fun k hk => .inr hk) HM.out).below ((Below.refl _ _).alloc (Nat.le_refl _) _), HA.out.2.2.2.1⟩
  generalize W6.alloc (fvO ⟨a6, m, c6, bs, sp⟩) = W7 at *
  refine till_append_R fvE (i := 13) (n := n) (m := 1) (L := F l) (M := [⟨a6, m, c6, bs, sp⟩]) 35 (.tmp 29) (.tmp 34) 56 rfl rfl (by kernel_rfl) (by rfl) rfl 63 _ 32 Try.underlying56 info63 rfl rfl rfl HO.out.1 HO.out.2.1 HO.out.2.2.2 rfl (by have := HA.out.2.2.2.2; omega) (by have := HA.out.2.2.2.2; unfold maxLen; omega) ?_
  intro k2 c2 W8 ho8 hg8 hl8
  have HX : Hid (OwR fvC 2 63 W8 k2 c2 (F l ++ [⟨a6, m, c6, bs, sp⟩]) ∧ W7.grownBy W8 (ao.map (·.block)) ∧ (k2 = ao ∨ k2 = some ⟨W7.heap.size, 0, none⟩)) := ⟨ho8, hg8, hl8⟩
  clear ho8 hg8 hl8
  have HZ : Hid (Nt (W8.setCell ⟨g, l, none⟩ (.slice k2 (n + 1) c2)) g (Grow w V) (upd A l k2) (upd C l c2) (upd F l (F l ++ [⟨a6, m, c6, bs, sp⟩])) ∧ OffN V w (W8.setCell ⟨g, l, none⟩ (.slice k2 (n + 1) c2))) := by
    have hX := HX.out
    rw [← HA.out.2.1] at hX
    have := HA.out.1.appended hl HB7.out hX.2.1 HO.out.2.2.1 hX.1 hX.2.2 (by rw [HA.out.2.2.2.1]; exact HA.out.2.2.2.2)
    rwa [HA.out.2.2.2.1] at this
  have hF8 : W8.cell? ⟨g, l, none⟩ = some (.slice ao n cap) ∧ W8.frozen? ⟨g, l, none⟩ = false := by
    have e1 : W8.heap[g]? = w.heap[g]? := by
      refine (HX.out.2.1.block g (Nat.lt_of_lt_of_le HA.out.1.lt HB7.out.size) ?_).trans (HB7.out.block g HA.out.1.lt)
      intro e
      cases hao : ao with
      | none => rw [hao] at e; cases e
      | some a =>
        rw [hao] at e
        exact HA.out.1.ne hl (HA.out.2.1.trans hao) (by simpa using e.symm)
    have hF0 := HS.out w (Below.refl _ _)
    exact ⟨(World.cell?_of_block (w := w) (w' := W8) (a := ⟨g, l, none⟩) e1).trans hF0.1, (World.frozen?_of_block (w := w) (a := ⟨g, l, none⟩) e1).trans hF0.2⟩
  refine ⟨hF8, ?_⟩
  simp only [Act.put, List.setIfInBounds_toArray, List.set_cons_zero, List.set_cons_succ]
  refine Till.run (i := 16) 38 (.pointer (some ⟨g, l, none⟩)) W8 rfl rfl (by kernel_rfl) (by rfl) (by go_simp) hF8 ?_
  simp only [Act.put, List.setIfInBounds_toArray, List.set_cons_zero, List.set_cons_succ]
  obtain ⟨f1, f2⟩ := hF8
  refine Till.last (W8.setCell ⟨g, l, none⟩ (.slice k2 (n + 1) c2)) rfl rfl (by kernel_rfl) (by decide) (by rfl) (by go_simp) ?_
  refine Till.done (by kernel_rfl) ?_ _
  clear f1 f2 hF hF6 hF7
  generalize W8.setCell ⟨g, l, none⟩ (.slice k2 (n + 1) c2) = W9 at *
  go_wp2
  go_ret
  exact ⟨rfl, ⟨a6, m, c6, bs, sp⟩, k2, c2, rfl, HZ.out⟩

theorem putB_in {T : Nat → List It} {z : Int} (h : putB T z = true) : ∃ l : Nat, z = (l : Int) ∧ l < 8 ∧ (T l).length < 200 := by
  have h1 : 0 ≤ z ∧ z < 8 := by
    unfold putB at h
    rw [Bool.and_eq_true, decide_eq_true_eq] at h
    exact h.1
  obtain ⟨l, rfl⟩ : ∃ l : Nat, z = (l : Int) := ⟨z.toNat, by omega⟩
  have hl : l < 8 := by omega
  rw [putB_nat T hl, decide_eq_true_eq] at h
  exact ⟨l, rfl, hl, h⟩

/-- add, whatever the lane. -/
theorem add_any {w : World} {g : Nat} {V : Nat → Prop} {T : Nat → List It} (H : Net w g V T) (z : Int) (ax : Option Addr) (m cx : Nat) (bs : List Nat) (hr : Rd8 w ax m cx bs) (hm : m ≤ 140737488355328) (sp : Bool) : Calls Try.prog 24 #[np g, .int .i64 z, .slice ax m cx, .bool sp] w fun e w' => e = .returned (.bool (putB T z)) ∧ Ned w w' g V (putT T z (bs, sp)) := by
  by_cases hp : putB T z = true
  · obtain ⟨l, rfl, hl, hn⟩ := putB_in hp
    obtain ⟨A, C, F, h, e⟩ := H
    have e1 : (F l).length = (T l).length := by rw [← e l hl, List.length_map]
    refine (add_in h l hl _ _ _ rfl rfl rfl (by omega) ax m cx bs hr hm sp).mono ?_
    rintro r w' ⟨rfl, x, ao3, cap3, hx, h1, h2⟩
    refine ⟨ret_bool hp.symm, ⟨_, _, _, h1, fun j hj => ?_⟩, h2⟩
    unfold putT
    rw [if_pos hp, Int.toNat_natCast]
    by_cases ej : j = l
    · subst ej
      rw [upd_same, upd_same, List.map_append, e j hj, List.map_singleton, hx]
    · rw [upd_other _ _ ej, upd_other _ _ ej]
      exact e j hj
  · have hp' : putB T z = false := by simpa using hp
    refine (add_no H z hp' _ sp).mono ?_
    rintro r w' ⟨rfl, rfl⟩
    unfold putT
    rw [if_neg hp]
    exact ⟨ret_bool hp'.symm, Ned.same H⟩

theorem put_any {w : World} {g : Nat} {V : Nat → Prop} {T : Nat → List It} (H : Net w g V T) (z : Int) (ax : Option Addr) (m cx : Nat) (bs : List Nat) (hr : Rd8 w ax m cx bs) (hm : m ≤ 140737488355328) : Calls Try.prog 11 #[np g, .int .i64 z, .slice ax m cx] w fun e w' => e = .returned (.bool (putB T z)) ∧ Ned w w' g V (putT T z (bs, false)) := by
  have HC : Hid (Calls Try.prog 24 #[np g, .int .i64 z, .slice ax m cx, .bool false] w fun e w' => e = .returned (.bool (putB T z)) ∧ Hid (Ned w w' g V (putT T z (bs, false)))) := add_any H z ax m cx bs hr hm false
  clear H hr hm
  generalize putB T z = b at *
  go_enter Try.func11, Try.ntmps11
  go_wp2_with (go_at_call 24; refine HC.out.mono ?_; rintro e w1 ⟨rfl, HN⟩)
  go_ret
  exact ⟨rfl, HN.out⟩

end Go.Proofs.Ytfllkhimlambhaa
