/- A region that draws its order, all of whose operations yield the same in every world that meets a condition, calls among them: it may be gone through in one order. Of no program. A region that draws its order and whose last operation turns what others load: a condition on the world that holds till that one has come up. Of no program. Rows of things of a fixed number of cells: what a slice of them reads as, what of it stays, what an append leaves and where. Of no program. Regions that draw their order: an append to a row, and a last operation without a result. Of no program. Rows of things of a fixed number of cells: a part, a cell that is written, an append that fits. Of no program. -/
import Derived.Test.YtemldmjpanmdbaaGreatDoorProg
import Derived.Test.YtemldmjpanmdbaaGreatDoorSl
import Derived.OrdersHeld
import Derived.Maps.AppendAt
import Derived.Laws.OwnMore
import Derived.Lib.SliceRun
namespace Go.Proofs.YtemldmjpanmdbaaGreatDoor
open Go.RowKit
set_option linter.unusedVariables false

section
variable {P : Program} {ops : Array Oper} {Q : Exit → Act → World → Prop} {md : Region.Mode} {S : World → Prop}

/-- In state a, in every world that meets S, the operation leaves v in its temporary, and a world that meets S. -/
def Gives (P : Program) (ops : Array Oper) (S : World → Prop) (o : Oper) (v : Value) (a : Act) : Prop :=
  (Region.wanted o (yielded ops a.tmps) = true ∧ ∀ w, S w → (execOp a.eval o).run P w = .ok (.value v) w) ∨
  (Region.wanted o (yielded ops a.tmps) = true ∧ ∃ f args, (∀ w, S w → (execOp a.eval o).run P w = .ok (.enter f args) w) ∧ ∀ w, S w → Calls P f args w fun e w' => e = .returned v ∧ S w') ∨
  (Region.wanted o (yielded ops a.tmps) = false ∧ v = undef)

theorem Gives.of_same {o : Oper} {v : Value} {a a' : Act} (hy : Gives P ops S o v a) (he : execOp a'.eval o = execOp a.eval o)
    (hw : Region.wanted o (yielded ops a'.tmps) = Region.wanted o (yielded ops a.tmps)) : Gives P ops S o v a' := by
  unfold Gives at *
  rw [he, hw]
  exact hy

theorem Gives.wpOp {i : Nat} {o : Oper} {v : Value} {a : Act} (hi : ops[i]? = some o) (hy : Gives P ops S o v a) {K : Act → World → Prop} {w : World} (hS : S w) (h : ∀ w', S w' → K (a.put o.dst v) w') : wpOp P ops Q i K a w := by
  unfold Go.wpOp
  simp only [hi]
  rcases hy with ⟨hw, hv⟩ | ⟨hw, f, args, hv, hc⟩ | ⟨hw, rfl⟩
  · simp only [hw, if_true, Oper.wp, hv w hS, Oper.upon]
    exact .inl (h w hS)
  · simp only [hw, if_true, Oper.wp, hv w hS, Oper.upon_enter]
    refine .inl ((hc w hS).mono ?_)
    rintro e w' ⟨rfl, h2⟩
    exact h w' h2
  · simp only [hw, Bool.false_eq_true, if_false]
    exact h w hS

/-- Whatever order is picked, each operation yields the same. -/
def Sure (P : Program) (md : Region.Mode) (ops : Array Oper) (Q : Exit → Act → World → Prop) (S : World → Prop) : Nat → Array Bool → Act → Prop
  | 0, listed, a => Region.ready md ops listed = [] ∧ ∀ w, S w → Q .normal a w
  | fuel + 1, listed, a =>
    (Region.ready md ops listed = [] → ∀ w, S w → Q .normal a w) ∧
    ∀ i ∈ Region.ready md ops listed, ∃ o v, ops[i]? = some o ∧ Gives P ops S o v a ∧ Sure P md ops Q S fuel (listed.setIfInBounds i true) (a.put o.dst v)

theorem Sure.held : ∀ (fuel : Nat) (listed : Array Bool) (a : Act) (w : World), S w → Sure P md ops Q S fuel listed a → wpAnyH P md ops Q S fuel listed a w
  | 0, _, _, w, hS, h => ⟨h.1, h.2 w hS⟩
  | fuel + 1, listed, a, w, hS, h => ⟨fun h0 => h.1 h0 w hS, fun i hi => by
      obtain ⟨o, v, ho, hg, hs⟩ := h.2 i hi
      exact hg.wpOp ho hS fun w' hS' => ⟨hS', Sure.held fuel _ _ w' hS' hs⟩⟩

theorem getD_both {l : Array Bool} {i : Nat} (h : l.getD i false = true) : l.getD i true = true := by
  rw [Array.getD_eq_getD_getElem?] at h ⊢
  cases e : l[i]? with
  | none => rfl
  | some b => rw [e] at h; exact h

/-- Who may come up while i may come up does not wait for i. -/
theorem not_on {i j : Nat} {listed : Array Bool} {o : Oper} (hr : i ∈ Region.ready md ops listed) (hj : j ∈ Region.ready md ops listed) (ho : ops[j]? = some o) : listed.getD j true = false ∧ ∀ e ∈ o.after, Region.binds md e = true → e.on ≠ i := by
  obtain ⟨h0, o', ho', h1⟩ := mem_ready.1 hj
  rw [ho] at ho'
  cases ho'
  refine ⟨h0, fun e he hb hon => ?_⟩
  have h2 := getD_both (h1 e he hb)
  rw [hon, (mem_ready.1 hr).1] at h2
  cases h2

/-- What is apart from all that is left stays so when one more has come up. -/
theorem apart_left {i j : Nat} {listed : Array Bool} {p : Nat → Oper → Prop} (h : ∀ k o, ops[k]? = some o → k ≠ i → listed.getD k true = false → p k o) (hj : listed.getD j true = false) :
    ∀ k o, ops[k]? = some o → k ≠ i → (listed.setIfInBounds j true).getD k true = false → p k o := fun k o ho hk hl => h k o ho hk (by
  rcases Nat.decEq j k with hne | heq
  · exact (getD_set_ne true hne).symm.trans hl
  · exact heq ▸ hj)

theorem Sure.first {i : Nat} {oi : Oper} {v : Value} (hi : ops[i]? = some oi) (hsel : ∀ (j : Nat) (o : Oper) cs b, ops[j]? = some o → o.op ≠ .select cs b) :
    ∀ (fuel : Nat) (listed : Array Bool) (a : Act),
      (∀ j oj, ops[j]? = some oj → j ≠ i → listed.getD j true = false → (∀ e ∈ oj.after, Region.binds md e = true → e.on ≠ i) → oi.apart ops oj = true) →
      i ∈ Region.ready md ops listed → Gives P ops S oi v a →
      Sure P md ops Q S fuel (listed.setIfInBounds i true) (a.put oi.dst v) → Sure P md ops Q S (fuel + 1) listed a
  | fuel, listed, a, hfree, hr, hy, H => by
    constructor
    · intro h0
      rw [h0] at hr
      cases hr
    intro j hj
    rcases Nat.decEq j i with hji | rfl
    · have hj2 := ready_mono hj hji
      match fuel, H with
      | 0, H => exact absurd (H.1 ▸ hj2) (by simp)
      | fuel + 1, H =>
        obtain ⟨oj, u, hoj, hgj, hsj⟩ := H.2 j hj2
        obtain ⟨hun, hno⟩ := not_on hr hj hoj
        obtain ⟨h1, h2, h3⟩ := Oper.apart_spec (hfree j oj hoj hji hun hno)
        have hfree2 := apart_left (p := fun k ok => (∀ e ∈ ok.after, Region.binds md e = true → e.on ≠ i) → oi.apart ops ok = true) hfree hun
        have gj := hgj.of_same (execOp_put oj (fun cs b => hsel j oj cs b hoj) a oi.dst v h1).symm (wanted_put oj a oi.dst v h1).symm
        have gi := hy.of_same (execOp_put oi (fun cs b => hsel i oi cs b hi) a oj.dst u h3) (wanted_put oi a oj.dst u h3)
        rw [Act.put_comm a v u h2, ← Array.setIfInBounds_comm _ _ hji] at hsj
        exact ⟨oj, u, hoj, gj, Sure.first hi hsel fuel _ _ hfree2 (ready_mono hr (Ne.symm hji)) gi hsj⟩
    · exact ⟨oi, v, hi, hy, H⟩

/-- Number i first. -/
theorem Sure.take {i : Nat} {oi : Oper} {v : Value} {fuel : Nat} {listed : Array Bool} {a : Act} (hi : ops[i]? = some oi)
    (hs : Region.noSelect ops = true) (hf : Region.free md ops listed i = true) (hr : (Region.ready md ops listed).contains i = true)
    (hy : Gives P ops S oi v a) (h : Sure P md ops Q S fuel (listed.setIfInBounds i true) (a.put oi.dst v)) : Sure P md ops Q S (fuel + 1) listed a :=
  Sure.first hi (Region.noSelect_spec hs) fuel listed a (Region.free_spec hi hf) (by simpa using hr) hy h
/-- All have come up. -/
theorem Sure.done {listed : Array Bool} {a : Act} (hr : Region.ready md ops listed = []) (h : ∀ w, S w → Q .normal a w) : ∀ fuel, Sure P md ops Q S fuel listed a
  | 0 => ⟨hr, h⟩
  | _ + 1 => ⟨fun _ => h, by rw [hr]; simp⟩
/-- The beginning. -/
theorem wp_region_sure {id : Nat} {a : Act} {w : World} (S : World → Prop) (hm : P.follows .mixedOrders = true) (hS : S w.drew) (h : Sure P .any ops Q S ops.size (Array.replicate ops.size false) a) : (Code.region id ops true).wp P Q a w :=
  wp_region_held (S := S) hm (Sure.held _ _ _ _ hS h)

/-- The forms of a step. -/
theorem Sure.val {i : Nat} {oi : Oper} (v : Value) (d : Nat) {fuel : Nat} {listed : Array Bool} {a : Act} (hi : ops[i]? = some oi) (hd : oi.dst = some d) (hs : Region.noSelect ops = true) (hf : Region.free md ops listed i = true) (hr : (Region.ready md ops listed).contains i = true)
    (hw : Region.wanted oi (yielded ops a.tmps) = true) (hy : ∀ w, S w → (execOp a.eval oi).run P w = .ok (.value v) w) (h : Sure P md ops Q S fuel (listed.setIfInBounds i true) (a.put (some d) v)) : Sure P md ops Q S (fuel + 1) listed a :=
  Sure.take hi hs hf hr (.inl ⟨hw, hy⟩) (hd ▸ h)
theorem Sure.call {i : Nat} {oi : Oper} (v : Value) (d : Nat) (f : FuncId) (args : Array Value) {fuel : Nat} {listed : Array Bool} {a : Act} (hi : ops[i]? = some oi) (hd : oi.dst = some d) (hs : Region.noSelect ops = true) (hf : Region.free md ops listed i = true) (hr : (Region.ready md ops listed).contains i = true)
    (hw : Region.wanted oi (yielded ops a.tmps) = true) (hy : ∀ w, S w → (execOp a.eval oi).run P w = .ok (.enter f args) w) (hc : ∀ w, S w → Calls P f args w fun e w' => e = .returned v ∧ S w') (h : Sure P md ops Q S fuel (listed.setIfInBounds i true) (a.put (some d) v)) : Sure P md ops Q S (fuel + 1) listed a :=
  Sure.take hi hs hf hr (.inr (.inl ⟨hw, f, args, hy, hc⟩)) (hd ▸ h)

theorem held_val {i : Nat} {oi : Oper} (v : Value) (d : Nat) {fuel : Nat} {listed : Array Bool} {a : Act} {w : World} (hi : ops[i]? = some oi) (hd : oi.dst = some d) (hs : Region.noSelect ops = true) (hf : Region.free md ops listed i = true) (hr : (Region.ready md ops listed).contains i = true)
    (hw : Region.wanted oi (yielded ops a.tmps) = true) (hQ : ∀ c a w, Q (.panic c) (a.put oi.dst v) w → Q (.panic c) a w) (hS : S w) (hy : ∀ w, S w → (execOp a.eval oi).run P w = .ok (.value v) w) (h : wpAnyH P md ops Q S fuel (listed.setIfInBounds i true) (a.put (some d) v) w) : wpAnyH P md ops Q S (fuel + 1) listed a w :=
  wpAnyH_take hi hs hf hr hQ (.inl ⟨hw, hy⟩) hS (hd ▸ h)
theorem held_call {i : Nat} {oi : Oper} (d : Nat) (f : FuncId) (args : Array Value) {fuel : Nat} {listed : Array Bool} {a : Act} {w : World} (hi : ops[i]? = some oi) (hd : oi.dst = some d) (hr : Region.ready md ops listed = [i])
    (hw : Region.wanted oi (yielded ops a.tmps) = true) (hrun : (execOp a.eval oi).run P w = .ok (.enter f args) w) {Post : Ending → World → Prop} (hc : Calls P f args w Post)
    (h : ∀ e w', Post e w' → ∃ v, e = .returned v ∧ S w' ∧ wpAnyH P md ops Q S fuel (listed.setIfInBounds i true) (a.put (some d) v) w') : wpAnyH P md ops Q S (fuel + 1) listed a w := by
  refine wpAnyH_all hr (by simp) fun j hj => ?_
  have : j = i := by simpa using hj
  subst this
  unfold Go.wpOp
  simp only [hi, hw, if_true, Oper.wp, hrun, Oper.upon_enter]
  refine .inl (hc.mono fun e w' hp => ?_)
  obtain ⟨v, rfl, h2, h3⟩ := h e w' hp
  exact ⟨h2, hd ▸ h3⟩
theorem held_run {i : Nat} {oi : Oper} (d : Nat) (v : Value) {fuel : Nat} {listed : Array Bool} {a : Act} {w : World} (w1 : World) (hi : ops[i]? = some oi) (hd : oi.dst = some d) (hr : Region.ready md ops listed = [i])
    (hw : Region.wanted oi (yielded ops a.tmps) = true) (hrun : (execOp a.eval oi).run P w = .ok (.value v) w1) (hS : S w1)
    (h : wpAnyH P md ops Q S fuel (listed.setIfInBounds i true) (a.put (some d) v) w1) : wpAnyH P md ops Q S (fuel + 1) listed a w := by
  refine wpAnyH_all hr (by simp) fun j hj => ?_
  have : j = i := by simpa using hj
  subst this
  unfold Go.wpOp
  simp only [hi, hw, if_true, Oper.wp, hrun, Oper.upon_value]
  exact .inl ⟨hS, hd ▸ h⟩
end

end Go.Proofs.YtemldmjpanmdbaaGreatDoor

namespace Go.Proofs.YtemldmjpanmdbaaGreatDoor
open Go.RowKit
set_option linter.unusedVariables false

section
variable {P : Program} {ops : Array Oper} {Q : Exit → Act → World → Prop} {md : Region.Mode} {F : World → Prop} {z : Nat}

/-- Whatever order is picked; F holds behind every operation as long as number z has not come up. -/
def Till (P : Program) (md : Region.Mode) (ops : Array Oper) (Q : Exit → Act → World → Prop) (F : World → Prop) (z : Nat) : Nat → Array Bool → Act → World → Prop
  | 0, l, a, w => Region.ready md ops l = [] ∧ Q .normal a w
  | f + 1, l, a, w => (Region.ready md ops l = [] → Q .normal a w) ∧ ∀ i ∈ Region.ready md ops l, wpOp P ops Q i (fun a' w' => ((l.setIfInBounds i true).getD z false = false → F w') ∧ Till P md ops Q F z f (l.setIfInBounds i true) a' w') a w

theorem Till.any : ∀ (f : Nat) (l : Array Bool) (a : Act) (w : World), Till P md ops Q F z f l a w → wpAny P md ops Q f l a w
  | 0, _, _, _, h => h
  | f + 1, _, _, _, h => ⟨h.1, fun i hi => wpOp_mono (fun a' w' h' => Till.any f _ a' w' h'.2) (h.2 i hi)⟩

theorem getD_ne {l : Array Bool} {i j : Nat} (d : Bool) (h : i ≠ j) : (l.setIfInBounds i true).getD j d = l.getD j d := getD_set_ne d h

/-- Number i first: it yields its value as long as F holds, and z waits for it. -/
theorem Till.first {i : Nat} {oi oz : Oper} {v : Value} (hi : ops[i]? = some oi) (hz : ops[z]? = some oz) (hzi : ∃ e ∈ oz.after, Region.binds md e = true ∧ e.on = i) (hiz : i ≠ z) (hsel : ∀ (j : Nat) (o : Oper) cs b, ops[j]? = some o → o.op ≠ .select cs b)
    (hQ : ∀ c a w, Q (.panic c) (a.put oi.dst v) w → Q (.panic c) a w) :
    ∀ (f : Nat) (l : Array Bool) (a : Act) (w : World),
      (∀ j oj, ops[j]? = some oj → j ≠ i → l.getD j true = false → (∀ e ∈ oj.after, Region.binds md e = true → e.on ≠ i) → oi.apart ops oj = true) →
      i ∈ Region.ready md ops l → l.getD z false = false → YieldsIf P ops F oi v a → F w →
      Till P md ops Q F z f (l.setIfInBounds i true) (a.put oi.dst v) w → Till P md ops Q F z (f + 1) l a w
  | f, l, a, w, hfree, hr, hlz, hy, hF, H => by
    constructor
    · intro h0
      rw [h0] at hr
      cases hr
    intro j hj
    rcases Nat.decEq j i with hji | rfl
    · have hj2 := ready_mono hj hji
      match f, H with
      | 0, H => exact absurd (H.1 ▸ hj2) (by simp)
      | f + 1, H =>
        have h1 := H.2 j hj2
        obtain ⟨_, oj, hoj, _⟩ := mem_ready.1 hj
        obtain ⟨hun, hno⟩ := not_on hr hj hoj
        have hjz : j ≠ z := by
          rintro rfl
          obtain ⟨e, he, hb, hon⟩ := hzi
          rw [hz] at hoj
          cases hoj
          exact hno e he hb hon
        have hz1 : ∀ l' : Array Bool, l'.getD z false = false → (l'.setIfInBounds j true).getD z false = false := fun l' h => (getD_ne false hjz).trans h
        have hz2 : (l.setIfInBounds i true).getD z false = false := (getD_ne false hiz).trans hlz
        have hfree2 := apart_left (p := fun k ok => (∀ e ∈ ok.after, Region.binds md e = true → e.on ≠ i) → oi.apart ops ok = true) hfree hun
        have h2 := wpOp_putIf hoj (hfree j oj hoj hji hun hno) (fun cs b => hsel i oi cs b hi) (fun cs b => hsel j oj cs b hoj) hQ hy h1
        refine wpOp_mono (fun a' w' h3 => ?_) h2
        obtain ⟨hy', hF', hT⟩ := h3
        have hFw := hF' (hz1 _ hz2)
        rw [← Array.setIfInBounds_comm _ _ hji] at hT
        exact ⟨fun _ => hFw, Till.first hi hz hzi hiz hsel hQ f _ _ _ hfree2 (ready_mono hr (Ne.symm hji)) (hz1 _ hlz) hy' hFw hT⟩
    · exact hy.wpOp hi hF ⟨fun _ => hF, H⟩

theorem Till.val {i : Nat} {oi oz : Oper} (v : Value) (d : Nat) {f : Nat} {l : Array Bool} {a : Act} {w : World} (hi : ops[i]? = some oi) (hd : oi.dst = some d) (hz : ops[z]? = some oz) (hzi : oz.after.any (fun e => Region.binds md e && e.on == i) = true) (hiz : i ≠ z) (hs : Region.noSelect ops = true) (hf : Region.free md ops l i = true) (hr : (Region.ready md ops l).contains i = true) (hl : l.getD z false = false)
    (hw : Region.wanted oi (yielded ops a.tmps) = true) (hQ : ∀ c a w, Q (.panic c) (a.put oi.dst v) w → Q (.panic c) a w) (hF : F w) (hy : ∀ w, F w → (execOp a.eval oi).run P w = .ok (.value v) w) (h : Till P md ops Q F z f (l.setIfInBounds i true) (a.put (some d) v) w) : Till P md ops Q F z (f + 1) l a w := by
  refine Till.first hi hz ?_ hiz (Region.noSelect_spec hs) hQ f l a w (Region.free_spec hi hf) (by simpa using hr) hl (.inl ⟨hw, hy⟩) hF (hd ▸ h)
  obtain ⟨k, hk, hb⟩ := Array.any_iff_exists.1 hzi
  simp only [Bool.and_eq_true, beq_iff_eq] at hb
  exact ⟨_, Array.getElem_mem hk, hb.2.2.1, hb.2.2.2⟩

/-- The one that may come up alone, ahead of z. -/
theorem Till.run {i : Nat} {oi : Oper} (d : Nat) (v : Value) {f : Nat} {l : Array Bool} {a : Act} {w : World} (w1 : World) (hi : ops[i]? = some oi) (hd : oi.dst = some d) (hr : Region.ready md ops l = [i])
    (hw : Region.wanted oi (yielded ops a.tmps) = true) (hrun : (execOp a.eval oi).run P w = .ok (.value v) w1) (hF : F w1)
    (h : Till P md ops Q F z f (l.setIfInBounds i true) (a.put (some d) v) w1) : Till P md ops Q F z (f + 1) l a w := by
  refine ⟨fun h0 => (by rw [h0] at hr; cases hr), fun j hj => ?_⟩
  rw [hr] at hj
  obtain rfl : j = i := by simpa using hj
  unfold Go.wpOp
  simp only [hi, hw, if_true, Oper.wp, hrun, Oper.upon_value]
  exact .inl ⟨fun _ => hF, hd ▸ h⟩
/-- The last one, a store. -/
theorem Till.last {oi : Oper} {f : Nat} {l : Array Bool} {a : Act} {w : World} (w1 : World) (hi : ops[z]? = some oi) (hd : oi.dst = none) (hr : Region.ready md ops l = [z]) (hlt : z < l.size)
    (hw : Region.wanted oi (yielded ops a.tmps) = true) (hrun : Oper.wp P oi a w (fun a' w' => a' = a ∧ w' = w1) Q)
    (h : Till P md ops Q F z f (l.setIfInBounds z true) a w1) : Till P md ops Q F z (f + 1) l a w := by
  refine ⟨fun h0 => (by rw [h0] at hr; cases hr), fun j hj => ?_⟩
  rw [hr] at hj
  obtain rfl : j = z := by simpa using hj
  have hn : (l.setIfInBounds j true).getD j false = true := by simp [hlt]
  refine wpOp_mono (K := fun a' w' => a' = a ∧ w' = w1) ?_ ?_
  · rintro a' w' ⟨rfl, rfl⟩
    exact ⟨fun h0 => (by rw [hn] at h0; cases h0), h⟩
  · unfold Go.wpOp
    simp only [hi, hw, if_true]
    exact .inl hrun
theorem Till.done {l : Array Bool} {a : Act} {w : World} (hr : Region.ready md ops l = []) (h : Q .normal a w) : ∀ f, Till P md ops Q F z f l a w
  | 0 => ⟨hr, h⟩
  | _ + 1 => ⟨fun _ => h, by rw [hr]; simp⟩
theorem wp_region_till {id : Nat} {a : Act} {w : World} (F : World → Prop) (z : Nat) (hm : P.follows .mixedOrders = true) (h : Till P .any ops Q F z ops.size (Array.replicate ops.size false) a w.drew) : (Code.region id ops true).wp P Q a w :=
  wp_region_any hm (Till.any _ _ _ _ h)
end

end Go.Proofs.YtemldmjpanmdbaaGreatDoor

namespace Go.Proofs.YtemldmjpanmdbaaGreatDoor
open Go.RowKit
set_option linter.unusedVariables false

section
variable {α : Type} {en : α → List Value} {s : Nat}

/-- Each thing has s cells. -/
structure Enc (en : α → List Value) (s : Nat) : Prop where
  len : ∀ x, (en x).length = s
  one : ∀ x, ∀ u ∈ en x, u.oneCell' = true
  pos : 0 < s

def cs (en : α → List Value) (L : List α) : List Value := L.flatMap en

theorem cs_nil : cs en [] = [] := rfl
theorem cs_cons (x : α) (L : List α) : cs en (x :: L) = en x ++ cs en L := by simp [cs]
theorem cs_append (L M : List α) : cs en (L ++ M) = cs en L ++ cs en M := by simp [cs]
theorem cs_length (E : Enc en s) (L : List α) : (cs en L).length = L.length * s := by
  induction L with
  | nil => simp [cs]
  | cons x L ih => rw [cs_cons, List.length_append, ih, E.len, List.length_cons, Nat.add_mul]; omega
theorem cs_get (E : Enc en s) : ∀ (L : List α) (t : Nat) (h : t < L.length) (j : Nat), j < s → (cs en L)[t * s + j]? = (en L[t])[j]?
  | x :: L, 0, _, j, hj => by
    rw [cs_cons, List.getElem?_append_left (by rw [E.len]; omega)]
    simp
  | x :: L, t + 1, h, j, hj => by
    rw [cs_cons, List.getElem?_append_right (by rw [E.len, Nat.add_mul]; omega), E.len]
    have e : (t + 1) * s + j - s = t * s + j := by rw [Nat.add_mul]; omega
    rw [e, cs_get E L t (by simpa using h) j hj]
    simp
theorem cs_one (E : Enc en s) (L : List α) : ∀ u ∈ cs en L, u.oneCell' = true := by
  intro u hu
  obtain ⟨x, _, hx⟩ := List.mem_flatMap.1 hu
  exact E.one x u hx
theorem cs_take (E : Enc en s) : ∀ (L : List α) (k : Nat), cs en (L.take k) = (cs en L).take (k * s)
  | [], k => by simp [cs]
  | x :: L, 0 => by simp [cs]
  | x :: L, k + 1 => by
    have e : (k + 1) * s = (en x).length + k * s := by rw [E.len, Nat.add_mul]; omega
    rw [List.take_succ_cons, cs_cons, cs_cons, cs_take E L k, e, List.take_length_add_append]
theorem cs_drop (E : Enc en s) : ∀ (L : List α) (k : Nat), cs en (L.drop k) = (cs en L).drop (k * s)
  | [], k => by simp [cs]
  | x :: L, 0 => by simp
  | x :: L, k + 1 => by
    have e : (k + 1) * s = (en x).length + k * s := by rw [E.len, Nat.add_mul]; omega
    rw [List.drop_succ_cons, cs_cons, cs_drop E L k, e, List.drop_length_add_append]

/-- The slice reads as these. -/
structure RdR (en : α → List Value) (w : World) (ao : Option Addr) (cap : Nat) (L : List α) : Prop where
  le : L.length ≤ cap
  mx : cap ≤ maxLen
  nil : ao = none → cap = 0
  cell : L ≠ [] → ∃ b off, ao = some ⟨b, off, none⟩ ∧ b < w.heap.size ∧ ∀ j u, (cs en L)[j]? = some u → w.cell? ⟨b, off + j, none⟩ = some u

theorem RdR.empty (w : World) : RdR en w none 0 [] := ⟨by simp, by simp, fun _ => rfl, fun h => absurd rfl h⟩
theorem RdR.keep {w w' : World} {ao : Option Addr} {cap : Nat} {L : List α} (h : RdR en w ao cap L) (hs : w.heap.size ≤ w'.heap.size) (hb : ∀ a, ao = some a → a.block < w.heap.size → w'.heap[a.block]? = w.heap[a.block]?) : RdR en w' ao cap L := by
  refine ⟨h.le, h.mx, h.nil, fun hx => ?_⟩
  obtain ⟨b, off, e, hlt, hc⟩ := h.cell hx
  exact ⟨b, off, e, Nat.lt_of_lt_of_le hlt hs, fun j u hj => (World.cell?_of_block (w := w) (w' := w') (a := ⟨b, off + j, none⟩) (hb ⟨b, off, none⟩ e hlt)).trans (hc j u hj)⟩
theorem RdR.below {w w' : World} {ao : Option Addr} {cap : Nat} {L : List α} (h : RdR en w ao cap L) (hb : Below w.heap.size w w') : RdR en w' ao cap L := h.keep hb.size fun a _ hl => hb.block _ hl
theorem RdR.heap {w w' : World} {ao : Option Addr} {cap : Nat} {L : List α} (h : RdR en w ao cap L) (e : w'.heap = w.heap) : RdR en w' ao cap L := h.keep (by rw [e]; exact Nat.le_refl _) fun a _ _ => by rw [e]
theorem RdR.drew {w : World} {ao : Option Addr} {cap : Nat} {L : List α} (h : RdR en w ao cap L) : RdR en w.drew ao cap L := h.heap rfl
theorem RdR.alloc {w : World} {ao : Option Addr} {cap : Nat} {L : List α} (h : RdR en w ao cap L) (o : Obj) : RdR en (w.alloc o) ao cap L := h.below ((Below.refl _ _).alloc (Nat.le_refl _) o)
/-- The cells of its t-th. -/
theorem RdR.at (E : Enc en s) {w : World} {ao : Option Addr} {cap : Nat} {L : List α} (h : RdR en w ao cap L) {t : Nat} (ht : t < L.length) :
    ∃ b off, ao = some ⟨b, off, none⟩ ∧ b < w.heap.size ∧ ∀ j u, (en L[t])[j]? = some u → w.cell? ⟨b, off + t * s + j, none⟩ = some u := by
  obtain ⟨b, off, e, hlt, hc⟩ := h.cell (by intro e; subst e; simp at ht)
  refine ⟨b, off, e, hlt, fun j u hj => ?_⟩
  have hjs : j < s := by rw [← E.len L[t]]; exact (List.getElem?_eq_some_iff.1 hj).1
  have := hc (t * s + j) u ((cs_get E L t ht j hjs).trans hj)
  rw [← Nat.add_assoc] at this
  exact this
theorem RdR.cells (E : Enc en s) {w : World} {ao : Option Addr} {cap : Nat} {L : List α} (h : RdR en w ao cap L) (hL : L ≠ []) :
    ∃ b off, ao = some ⟨b, off, none⟩ ∧ b < w.heap.size ∧ ∀ t (ht : t < L.length), ∀ j u, (en L[t])[j]? = some u → w.cell? ⟨b, off + t * s + j, none⟩ = some u := by
  obtain ⟨b, off, e, hlt, hc⟩ := h.cell hL
  refine ⟨b, off, e, hlt, fun t ht j u hj => ?_⟩
  have hjs : j < s := by rw [← E.len L[t]]; exact (List.getElem?_eq_some_iff.1 hj).1
  have := hc (t * s + j) u ((cs_get E L t ht j hjs).trans hj)
  rw [← Nat.add_assoc] at this
  exact this
/-- Its beginning. -/
theorem RdR.head (E : Enc en s) {w : World} {ao : Option Addr} {cap : Nat} {L : List α} (h : RdR en w ao cap L) (k c : Nat) (hk : k ≤ L.length) (hc : k ≤ c) (hc2 : c ≤ maxLen) (hn : ao = none → c = 0) : RdR en w ao c (L.take k) := by
  refine ⟨by rw [List.length_take]; omega, hc2, hn, fun hx => ?_⟩
  have hL : L ≠ [] := by intro e; subst e; simp at hx
  obtain ⟨b, off, e, hlt, hcc⟩ := h.cell hL
  refine ⟨b, off, e, hlt, fun j u hj => hcc j u ?_⟩
  rw [cs_take E, List.getElem?_take] at hj
  split at hj
  · exact hj
  · cases hj
/-- What is left behind k of them. -/
theorem RdR.tail (E : Enc en s) {w : World} {b off : Nat} {cap : Nat} {L : List α} (h : RdR en w (some ⟨b, off, none⟩) cap L) (k : Nat) (hk : k ≤ L.length) (a2 : Addr) (ha : k < L.length → a2 = ⟨b, off + k * s, none⟩) : RdR en w (some a2) (cap - k) (L.drop k) := by
  have := h.le
  have := h.mx
  refine ⟨by rw [List.length_drop]; omega, by omega, fun h => (by cases h), fun hx => ?_⟩
  have hL : L ≠ [] := by intro e; subst e; simp at hx
  have hk' : k < L.length := by
    rcases Nat.lt_or_ge k L.length with h | h
    · exact h
    · exact absurd (List.drop_eq_nil_of_le h) hx
  obtain ⟨b', off', e, hlt, hcc⟩ := h.cell hL
  cases e
  refine ⟨b, off + k * s, by rw [ha hk'], hlt, fun j u hj => ?_⟩
  rw [cs_drop E, List.getElem?_drop] at hj
  have := hcc _ _ hj
  rw [← Nat.add_assoc] at this
  exact this
theorem RdR.built (E : Enc en s) (w : World) (e : TypeId) (cells : Array Value) (L : List α) (hc : cells.toList = cs en L) (n : Nat) (hn : L.length = n) (hm : n ≤ maxLen) : RdR en (w.alloc (.cells cells e)) (some ⟨w.heap.size, 0, none⟩) n L := by
  refine ⟨by omega, hm, fun h => (by cases h), fun _ => ⟨w.heap.size, 0, rfl, by simp, fun j u hj => ?_⟩⟩
  have hh : (w.alloc (.cells cells e)).heap[w.heap.size]? = some (.cells cells e) := heap_alloc_new w _
  simp only [World.cell?, hh]
  rw [← hc] at hj
  simpa using hj

/-- The slice begins at the head of a row of this type; its room may be less than the row's. -/
def OwR (en : α → List Value) (s : Nat) (e : TypeId) (w : World) (ao : Option Addr) (cap : Nat) (L : List α) : Prop :=
  (ao = none ∧ cap = 0 ∧ L = []) ∨ ∃ g cur, ao = some ⟨g, 0, none⟩ ∧ w.heap[g]? = some (.cells cur e (0, 0)) ∧ L.length ≤ cap ∧ cap ≤ maxLen ∧ cap * s ≤ cur.size ∧ cur.toList.take (L.length * s) = cs en L

theorem OwR.nil (e : TypeId) (w : World) : OwR en s e w none 0 [] := .inl ⟨rfl, rfl, rfl⟩
theorem OwR.rd {e : TypeId} {w : World} {ao : Option Addr} {cap : Nat} {L : List α} (h : OwR en s e w ao cap L) : RdR en w ao cap L := by
  rcases h with ⟨rfl, rfl, rfl⟩ | ⟨g, cur, rfl, hh, hle, hmx, hsz, htk⟩
  · exact RdR.empty w
  · refine ⟨hle, hmx, fun h => (by cases h), fun _ => ⟨g, 0, rfl, (Array.getElem?_eq_some_iff.1 hh).1, fun j u hj => ?_⟩⟩
    rw [cell_of_row _ _ _ _ _ _ hh, Nat.zero_add]
    rw [← htk, List.getElem?_take] at hj
    split at hj
    · simpa using hj
    · cases hj
theorem OwR.keep {e : TypeId} {w w' : World} {ao : Option Addr} {cap : Nat} {L : List α} (h : OwR en s e w ao cap L) (hb : ∀ a, ao = some a → a.block < w.heap.size → w'.heap[a.block]? = w.heap[a.block]?) : OwR en s e w' ao cap L := by
  rcases h with h | ⟨g, cur, rfl, hh, r⟩
  · exact .inl h
  · exact .inr ⟨g, cur, rfl, (hb _ rfl (Array.getElem?_eq_some_iff.1 hh).1).trans hh, r⟩
theorem OwR.below {e : TypeId} {w w' : World} {ao : Option Addr} {cap : Nat} {L : List α} (h : OwR en s e w ao cap L) (hb : Below w.heap.size w w') : OwR en s e w' ao cap L := h.keep fun a _ hl => hb.block _ hl
theorem OwR.fresh (e : TypeId) (w : World) : OwR en s e (w.alloc (.cells #[] e)) (some ⟨w.heap.size, 0, none⟩) 0 [] := .inr ⟨w.heap.size, #[], rfl, heap_alloc_new w _, Nat.le_refl _, by simp, by simp, by simp [cs]⟩
theorem OwR.lt {e : TypeId} {w : World} {ao : Option Addr} {cap : Nat} {L : List α} (h : OwR en s e w ao cap L) : ∀ a, ao = some a → a.block < w.heap.size ∧ ∃ cur, w.heap[a.block]? = some (.cells cur e (0, 0)) := by
  rintro a rfl
  rcases h with ⟨h, _⟩ | ⟨g, cur, h, hh, _⟩
  · cases h
  · cases h
    exact ⟨(Array.getElem?_eq_some_iff.1 hh).1, cur, hh⟩
theorem OwR.le {e : TypeId} {w : World} {ao : Option Addr} {cap : Nat} {L : List α} (h : OwR en s e w ao cap L) : L.length ≤ cap := h.rd.le
/-- Its beginning, with no more room. -/
theorem OwR.head (E : Enc en s) {e : TypeId} {w : World} {ao : Option Addr} {cap : Nat} {L : List α} (h : OwR en s e w ao cap L) (k : Nat) (hk : k ≤ L.length) : OwR en s e w ao k (L.take k) := by
  have hle := h.le
  rcases h with ⟨rfl, rfl, rfl⟩ | ⟨g, cur, rfl, hh, _, hmx, hsz, htk⟩
  · obtain rfl : k = 0 := by simpa using hk
    exact .inl ⟨rfl, rfl, rfl⟩
  · refine .inr ⟨g, cur, rfl, hh, by rw [List.length_take]; omega, by omega, Nat.le_trans (Nat.mul_le_mul_right s (Nat.le_trans hk hle)) hsz, ?_⟩
    rw [cs_take E, ← htk, List.take_take, List.length_take, Nat.min_eq_left hk, Nat.min_eq_left (Nat.mul_le_mul_right s hk)]

/-- What an append leaves. -/
theorem run_append_R (E : Enc en s) {P : Program} {w : World} (t ty e : TypeId) (z : Value) (bytes : Nat) (ht : P.underlying t = some (.slice e)) (hinfo : (P.info? e).map (fun i => (i.zero, i.size, i.bytes)) = some (some z, s, bytes)) (hzs : z.cells.size = s)
    {ao : Option Addr} {cap : Nat} {L : List α} (ho : OwR en s e w ao cap L) {ao' : Option Addr} {cap' : Nat} {M : List α} (hr : RdR en w ao' cap' M) (hbytes : (L.length + M.length) * bytes ≤ 140737488355328) (h63 : L.length + M.length ≤ maxLen) :
    ∃ ao2 cap2 w', (Builtin.append_ #[t, t] ty #[.slice ao L.length cap, .slice ao' M.length cap']).run P w = .ok (.slice ao2 (L.length + M.length) cap2) w' ∧ OwR en s e w' ao2 cap2 (L ++ M) ∧ w.grownBy w' (ao.map (·.block)) ∧ (ao2 = ao ∨ ao2 = some ⟨w.heap.size, 0, none⟩) := by
  obtain ⟨i, hi, hz, hsz, hby⟩ := info_parts hinfo
  subst hsz hby
  have hsame : w.grownBy w (ao.map (·.block)) := ⟨rfl, rfl, rfl, Nat.le_refl _, fun _ _ _ => rfl⟩
  have hsmall : L.length + M.length ≤ 9223372036854775807 := by simp only [maxLen] at h63; omega
  have hlen : (cs en L ++ cs en M).length = (L.length + M.length) * i.size := by rw [List.length_append, cs_length E, cs_length E, Nat.add_mul]
  have grown : ∀ (old : Nat) (olds : List Value), olds = cs en L → ∀ (row : Option Nat),
      OwR en i.size e (w.drew.alloc (.cells (olds.toArray ++ (cs en M).toArray ++ Builtin.zeroCells z.cells (grownCap w (L.length + M.length) old e - (L.length + M.length))) e)) (some ⟨w.heap.size, 0, none⟩) (grownCap w (L.length + M.length) old e) (L ++ M) ∧
      w.grownBy (w.drew.alloc (.cells (olds.toArray ++ (cs en M).toArray ++ Builtin.zeroCells z.cells (grownCap w (L.length + M.length) old e - (L.length + M.length))) e)) row := by
    rintro old _ rfl row
    have hge := grownCap_ge w (L.length + M.length) old e
    have hcm : grownCap w (L.length + M.length) old e ≤ maxLen := grownCap_le_maxLen w (L.length + M.length) old e h63
    refine ⟨.inr ⟨w.heap.size, _, rfl, heap_alloc_new w.drew _, by simpa using hge, hcm, ?_, ?_⟩, ⟨rfl, rfl, rfl, by simp, fun k hk _ => Below.heap_alloc w.drew _ k hk⟩⟩
    · simp only [Array.size_append, List.size_toArray, size_zeroCells, hzs, cs_length E, ← Nat.add_mul]
      exact Nat.mul_le_mul_right _ (by omega)
    · rw [cs_append]
      simp only [Array.toList_append, List.append_assoc]
      rw [← List.append_assoc, List.length_append, ← hlen]
      exact List.take_left
  cases ao' with
  | none =>
    have hM : M = [] := by
      have h1 := hr.le
      have h2 := hr.nil rfl
      exact List.eq_nil_of_length_eq_zero (by omega)
    subst hM
    have hc' := hr.nil rfl
    subst hc'
    refine ⟨ao, cap, w, ?_, by simpa using ho, hsame, .inl rfl⟩
    rcases ho with ⟨rfl, rfl, rfl⟩ | ⟨g, cur, rfl, hh, hle, _⟩
    · simp [Builtin.append_, run_underlying ht, sizeOf, typeInfo, hi, Builtin.lenOf, Builtin.firstCells]
    · simp [Builtin.append_, run_underlying ht, sizeOf, typeInfo, hi, Builtin.lenOf, Builtin.firstCells, hle, storeCells]
  | some a =>
    have hnews : ∀ j u, (cs en M)[j]? = some u → w.cell? (a.add j) = some u := by
      intro j u hj
      by_cases hM : M = []
      · subst hM; simp [cs] at hj
      · obtain ⟨b, off, e1, _, hc⟩ := hr.cell hM
        cases e1
        rw [Addr.add_lit]
        exact hc j u hj
    rcases ho with ⟨rfl, rfl, rfl⟩ | ⟨g, cur, rfl, hh, hle, hmx, hsz, htk⟩
    · by_cases hM : M = []
      · subst hM
        refine ⟨none, 0, w, ?_, OwR.nil e w, hsame, .inl rfl⟩
        simp [Builtin.append_, run_underlying ht, sizeOf, typeInfo, hi, Builtin.lenOf, Builtin.firstCells, loadCells, loadCellsFrom]
      · have h0 : 0 < M.length := List.length_pos_iff.2 hM
        have hrun := run_append_nil (P := P) w t ty e i z ht hi hz a M.length cap' (cs en M) (cs_length E M) hnews h0 (by simp at hsmall; omega) (by simp at hbytes; omega)
        have hgr := grown 0 [] rfl none
        simp only [List.length_nil, Nat.zero_add, List.nil_append, Array.empty_append] at hgr hrun ⊢
        exact ⟨_, _, _, hrun, hgr.1, hgr.2, .inr rfl⟩
    · by_cases hroom : L.length + M.length ≤ cap
      · have hfit : L.length * i.size + (cs en M).length ≤ cur.size := by rw [cs_length E, ← Nat.add_mul]; exact Nat.le_trans (Nat.mul_le_mul_right _ hroom) hsz
        have hrun := run_append_room (P := P) w t ty e i ht hi g L.length cap cur hh a M.length cap' (cs en M) (cs_length E M) hnews (cs_one E M) hroom hfit
        refine ⟨_, _, _, hrun, .inr ⟨g, _, rfl, setRow_heap w g cur _ e _ hh, by simpa using hroom, hmx, ?_, ?_⟩, ⟨rfl, rfl, rfl, by simp, fun k _ hk => setRow_other w g k _ (fun e => hk (by simp [e]))⟩, .inl rfl⟩
        · simp only [List.size_toArray, List.length_append, List.length_take, List.length_drop, Array.length_toList]
          omega
        · rw [htk, cs_append, List.length_append, ← hlen]
          exact List.take_left
      · have holds : ∀ j u, (cs en L)[j]? = some u → w.cell? ((⟨g, 0, none⟩ : Addr).add j) = some u := by
          intro j u hj
          rw [Addr.add_lit, cell_of_row _ _ _ _ _ _ hh, Nat.zero_add]
          rw [← htk, List.getElem?_take] at hj
          split at hj
          · simpa using hj
          · cases hj
        have hrun := run_append_grow (P := P) w t ty e i z ht hi hz ⟨g, 0, none⟩ L.length cap (cs en L) (cs_length E L) holds a M.length cap' (cs en M) (cs_length E M) hnews (by omega) (by omega) (growslice_fits (by omega) hbytes)
        have hgr := grown cap _ rfl ((some (⟨g, 0, none⟩ : Addr)).map (·.block))
        exact ⟨_, _, _, hrun, hgr.1, hgr.2, .inr rfl⟩

theorem exec_append_R (E : Enc en s) {P : Program} {w : World} {o : Oper} {a : Act} (so x : Operand) (t : TypeId) (hop : o.op = .call { callee := .builtin .append, args := #[so, x], argTypes := #[t, t] })
    (e : TypeId) (z : Value) (bytes : Nat) (ht : P.underlying t = some (.slice e)) (hinfo : (P.info? e).map (fun i => (i.zero, i.size, i.bytes)) = some (some z, s, bytes)) (hzs : z.cells.size = s)
    {ao : Option Addr} {cap n : Nat} {L : List α} {ao' : Option Addr} {cap' m : Nat} {M : List α} (hs : a.eval so = .slice ao n cap) (hx : a.eval x = .slice ao' m cap') (ho : OwR en s e w ao cap L) (hr : RdR en w ao' cap' M) (hn : L.length = n) (hm : M.length = m)
    (hbytes : (n + m) * bytes ≤ 140737488355328) (h63 : n + m ≤ maxLen) :
    ∃ ao2 cap2 w', (execOp a.eval o).run P w = .ok (.value (.slice ao2 (n + m) cap2)) w' ∧ OwR en s e w' ao2 cap2 (L ++ M) ∧ w.grownBy w' (ao.map (·.block)) ∧ (ao2 = ao ∨ ao2 = some ⟨w.heap.size, 0, none⟩) := by
  subst hn hm
  obtain ⟨ao2, cap2, w', hrun, h2, h3, h4⟩ := run_append_R E (P := P) t o.type e z bytes ht hinfo hzs ho hr hbytes h63
  refine ⟨ao2, cap2, w', ?_, h2, h3, h4⟩
  unfold execOp
  simp only [hop, resolve, invoke, builtin, Sem.run_bind, Sem.run_pure, Result.andThen_ok, List.map_toArray, List.map_cons, List.map_nil, hs, hx, hrun]

theorem wpList_append_R (E : Enc en s) {P : Program} (w : World) {ops : Array Oper} {rest : List Oper} {o : Oper} {a : Act} {Q : Exit → Act → World → Prop} (hgd : o.guard = none) (so x : Operand) (t : TypeId) (hop : o.op = .call { callee := .builtin .append, args := #[so, x], argTypes := #[t, t] })
    (e : TypeId) (z : Value) (bytes : Nat) (ht : P.underlying t = some (.slice e)) (hinfo : (P.info? e).map (fun i => (i.zero, i.size, i.bytes)) = some (some z, s, bytes)) (hzs : z.cells.size = s)
    {ao : Option Addr} {cap n : Nat} {L : List α} {ao' : Option Addr} {cap' m : Nat} {M : List α} (hs : a.eval so = .slice ao n cap) (hx : a.eval x = .slice ao' m cap') (ho : OwR en s e w ao cap L) (hr : RdR en w ao' cap' M) (hn : L.length = n) (hm : M.length = m)
    (hbytes : (n + m) * bytes ≤ 140737488355328) (h63 : n + m ≤ maxLen)
    (h : ∀ ao2 cap2 w', OwR en s e w' ao2 cap2 (L ++ M) → w.grownBy w' (ao.map (·.block)) → (ao2 = ao ∨ ao2 = some ⟨w.heap.size, 0, none⟩) → wpList P ops Q rest (a.put o.dst (.slice ao2 (n + m) cap2)) w') : wpList P ops Q (o :: rest) a w := by
  refine wpList_plain hgd fun _ hK => ?_
  obtain ⟨ao2, cap2, w', hrun, h2, h3, h4⟩ := exec_append_R E (P := P) (w := w) so x t hop e z bytes ht hinfo hzs hs hx ho hr hn hm hbytes h63
  unfold Oper.wp
  rw [hrun]
  exact hK _ _ (h ao2 cap2 w' h2 h3 h4)

end

/-- All blocks but those of A are as they were. -/
structure OffS (A : Nat → Prop) (w w' : World) : Prop where
  os : w'.os = w.os
  tape : w'.tape = w.tape
  output : w'.output = w.output
  size : w.heap.size ≤ w'.heap.size
  block : ∀ k, k < w.heap.size → ¬ A k → w'.heap[k]? = w.heap[k]?

theorem OffS.of_below {A : Nat → Prop} {w w' : World} (h : Below w.heap.size w w') : OffS A w w' := ⟨h.os, h.tape, h.output, h.size, fun k hk _ => h.block k hk⟩
theorem OffS.refl (A : Nat → Prop) (w : World) : OffS A w w := .of_below (Below.refl _ _)
theorem OffS.trans {A : Nat → Prop} {a b c : World} (h : OffS A a b) (k : OffS (fun j => A j ∨ a.heap.size ≤ j) b c) : OffS A a c :=
  ⟨k.os.trans h.os, k.tape.trans h.tape, k.output.trans h.output, Nat.le_trans h.size k.size, fun j hj hn => (k.block j (Nat.lt_of_lt_of_le hj h.size) (by rintro (h' | h'); exact hn h'; omega)).trans (h.block j hj hn)⟩
theorem OffS.mono {A B : Nat → Prop} {w w' : World} (h : OffS A w w') (hB : ∀ k, A k → B k) : OffS B w w' := ⟨h.os, h.tape, h.output, h.size, fun k hk hn => h.block k hk fun h' => hn (hB k h')⟩
theorem OffS.below {A : Nat → Prop} {w w' : World} {B : Nat} (h : OffS A w w') (hA : ∀ k, A k → B ≤ k) (hB : B ≤ w.heap.size) : Below B w w' := ⟨h.os, h.tape, h.output, h.size, fun k hk => h.block k (by omega) fun h' => by have := hA k h'; omega⟩
theorem OffS.setCell {A : Nat → Prop} {w w' : World} (h : OffS A w w') {a : Addr} (ha : A a.block) (u : Value) : OffS A w (w'.setCell a u) :=
  ⟨h.os, h.tape, h.output, by simpa using h.size, fun k hk hn => (Below.heap_setCell _ _ _ _ (by rintro rfl; exact hn ha)).trans (h.block k hk hn)⟩
theorem OffS.grown {A : Nat → Prop} {w w' : World} {row : Option Nat} (h : w.grownBy w' row) (hr : ∀ k, row = some k → A k) : OffS A w w' :=
  ⟨h.os, h.tape, h.output, h.size, fun k hk hn => h.block k hk (by rintro rfl; exact hn (hr k rfl))⟩

end Go.Proofs.YtemldmjpanmdbaaGreatDoor

namespace Go.Proofs.YtemldmjpanmdbaaGreatDoor
open Go.RowKit
set_option linter.unusedVariables false

section
variable {α : Type} {en : α → List Value} {s : Nat} {P : Program} {ops : Array Oper} {Q : Exit → Act → World → Prop} {md : Region.Mode}

theorem till_append_R (E : Enc en s) {F : World → Prop} {z : Nat} {i : Nat} {oi : Oper} (d : Nat) (so x : Operand) (t : TypeId) {fuel : Nat} {l : Array Bool} {a : Act} {w : World} (hi : ops[i]? = some oi) (hd : oi.dst = some d) (hrd : Region.ready md ops l = [i])
    (hw : Region.wanted oi (yielded ops a.tmps) = true) (hop : oi.op = .call { callee := .builtin .append, args := #[so, x], argTypes := #[t, t] })
    (e : TypeId) (zv : Value) (bytes : Nat) (ht : P.underlying t = some (.slice e)) (hinfo : (P.info? e).map (fun i => (i.zero, i.size, i.bytes)) = some (some zv, s, bytes)) (hzs : zv.cells.size = s)
    {ao : Option Addr} {cap n : Nat} {L : List α} {ao' : Option Addr} {cap' m : Nat} {M : List α} (hs : a.eval so = .slice ao n cap) (hx : a.eval x = .slice ao' m cap') (ho : OwR en s e w ao cap L) (hr : RdR en w ao' cap' M) (hn : L.length = n) (hm : M.length = m)
    (hbytes : (n + m) * bytes ≤ 140737488355328) (h63 : n + m ≤ maxLen)
    (h : ∀ ao2 cap2 w', OwR en s e w' ao2 cap2 (L ++ M) → w.grownBy w' (ao.map (·.block)) → (ao2 = ao ∨ ao2 = some ⟨w.heap.size, 0, none⟩) → F w' ∧ Till P md ops Q F z fuel (l.setIfInBounds i true) (a.put (some d) (.slice ao2 (n + m) cap2)) w') : Till P md ops Q F z (fuel + 1) l a w := by
  obtain ⟨ao2, cap2, w', hr2, h2, h3, h4⟩ := exec_append_R E (P := P) (w := w) (o := oi) (a := a) so x t hop e zv bytes ht hinfo hzs hs hx ho hr hn hm hbytes h63
  obtain ⟨h5, h6⟩ := h ao2 cap2 w' h2 h3 h4
  exact Till.run d _ w' hi hd hrd hw hr2 h5 h6

theorem held_last {S : World → Prop} {i : Nat} {oi : Oper} {fuel : Nat} {l : Array Bool} {a : Act} {w : World} (w1 : World) (hi : ops[i]? = some oi) (hr : Region.ready md ops l = [i])
    (hw : Region.wanted oi (yielded ops a.tmps) = true) (hrun : Oper.wp P oi a w (fun a' w' => a' = a ∧ w' = w1) Q) (hS : S w1)
    (h : wpAnyH P md ops Q S fuel (l.setIfInBounds i true) a w1) : wpAnyH P md ops Q S (fuel + 1) l a w := by
  refine wpAnyH_all hr (by simp) fun j hj => ?_
  have : j = i := by simpa using hj
  subst this
  refine wpOp_mono (K := fun a' w' => a' = a ∧ w' = w1) ?_ ?_
  · rintro a' w' ⟨rfl, rfl⟩
    exact ⟨hS, h⟩
  · unfold Go.wpOp
    simp only [hi, hw, if_true]
    exact .inl hrun
end

end Go.Proofs.YtemldmjpanmdbaaGreatDoor

namespace Go.Proofs.YtemldmjpanmdbaaGreatDoor
open Go.RowKit
set_option linter.unusedVariables false

section
variable {α : Type} {en : α → List Value} {s : Nat} {e : TypeId}

theorem OwR.sub (E : Enc en s) {w : World} {ao : Option Addr} {cap : Nat} {L : List α} (h : OwR en s e w ao cap L) (k : Nat) : OwR en s e w ao cap (L.take k) := by
  rcases h with ⟨rfl, rfl, rfl⟩ | ⟨g, cur, rfl, hh, hle, hmx, hsz, htk⟩
  · simp only [List.take_nil]
    exact OwR.nil e w
  · refine .inr ⟨g, cur, rfl, hh, by rw [List.length_take]; omega, hmx, hsz, ?_⟩
    rw [cs_take E, ← htk, List.take_take, List.length_take]
    congr 1
    by_cases h : k ≤ L.length
    · rw [Nat.min_eq_left h, Nat.min_eq_left (Nat.mul_le_mul_right s h)]
    · rw [Nat.min_eq_right (by omega), Nat.min_eq_right (Nat.mul_le_mul_right s (by omega))]

theorem cs_set (E : Enc en s) (j : Nat) (hj : j < s) (u : Value) (y : α) : ∀ (L : List α) (t : Nat) (ht : t < L.length), en y = (en L[t]).set j u → (cs en L).set (t * s + j) u = cs en (L.set t y)
  | x :: L, 0, _, h => by
    simp only [List.getElem_cons_zero] at h
    rw [List.set_cons_zero, cs_cons, cs_cons, h, Nat.zero_mul, Nat.zero_add, List.set_append_left _ _ (by rw [E.len]; exact hj)]
  | x :: L, t + 1, ht, h => by
    simp only [List.getElem_cons_succ] at h
    have e : (t + 1) * s + j - s = t * s + j := by rw [Nat.add_mul]; omega
    rw [List.set_cons_succ, cs_cons, cs_cons, List.set_append_right _ _ (by rw [E.len, Nat.add_mul]; omega), E.len, e, cs_set E j hj u y L t (by simpa using ht) h]

/-- One cell of the t-th is written. -/
theorem OwR.put (E : Enc en s) {w : World} {g : Nat} {cap : Nat} {L : List α} (h : OwR en s e w (some ⟨g, 0, none⟩) cap L) (t : Nat) (ht : t < L.length) (j : Nat) (hj : j < s) (u : Value) (y : α) (hy : en y = (en L[t]).set j u) :
    OwR en s e (w.setCell ⟨g, t * s + j, none⟩ u) (some ⟨g, 0, none⟩) cap (L.set t y) := by
  rcases h with ⟨h, _⟩ | ⟨g', cur, h, hh, hle, hmx, hsz, htk⟩
  · cases h
  · cases h
    refine .inr ⟨g, cur.setIfInBounds (t * s + j) u, rfl, heap_setCell_same w g _ cur e u hh, by simpa using hle, hmx, by simpa using hsz, ?_⟩
    rw [Array.toList_setIfInBounds, List.length_set, List.take_set, htk, cs_set E j hj u y L t ht hy]

/-- A cell behind them all is written. -/
theorem OwR.away {w : World} {g : Nat} {cap : Nat} {L : List α} (h : OwR en s e w (some ⟨g, 0, none⟩) cap L) (o : Nat) (ho : L.length * s ≤ o) (u : Value) : OwR en s e (w.setCell ⟨g, o, none⟩ u) (some ⟨g, 0, none⟩) cap L := by
  rcases h with ⟨h, _⟩ | ⟨g', cur, h, hh, hle, hmx, hsz, htk⟩
  · cases h
  · cases h
    refine .inr ⟨g, cur.setIfInBounds o u, rfl, heap_setCell_same w g _ cur e u hh, hle, hmx, by simpa using hsz, ?_⟩
    rw [Array.toList_setIfInBounds, List.take_set, List.set_eq_of_length_le (by rw [List.length_take]; omega), htk]

theorem grown_refl (w : World) (r : Option Nat) : w.grownBy w r := ⟨rfl, rfl, rfl, Nat.le_refl _, fun _ _ _ => rfl⟩
theorem grown_trans {a b c : World} {r : Option Nat} (h : a.grownBy b r) (k : b.grownBy c r) : a.grownBy c r :=
  ⟨k.os.trans h.os, k.tape.trans h.tape, k.output.trans h.output, Nat.le_trans h.size k.size, fun j hj hne => (k.block j (Nat.lt_of_lt_of_le hj h.size) hne).trans (h.block j hj hne)⟩
theorem grown_setCell (w : World) (g o : Nat) (u : Value) : w.grownBy (w.setCell ⟨g, o, none⟩ u) (some g) :=
  ⟨rfl, rfl, rfl, by simp, fun k hk hne => Below.heap_setCell _ _ _ _ (by intro e; exact hne (by rw [e]))⟩

theorem OwR.aways {g : Nat} {cap : Nat} {L : List α} : ∀ (us : List Value) (o : Nat) (w : World), OwR en s e w (some ⟨g, 0, none⟩) cap L → L.length * s ≤ o → OwR en s e (w.setCells g o us) (some ⟨g, 0, none⟩) cap L ∧ w.grownBy (w.setCells g o us) (some g)
  | [], _, w, h, _ => ⟨h, grown_refl w _⟩
  | u :: us, o, w, h, ho => by
    obtain ⟨k1, k2⟩ := OwR.aways us (o + 1) (w.setCell ⟨g, o, none⟩ u) (h.away o ho u) (by omega)
    exact ⟨k1, grown_trans (grown_setCell w g o u) k2⟩

/-- An append that fits. -/
theorem run_append_fitR (E : Enc en s) {P : Program} {w : World} (t ty : TypeId) (z : Value) (bytes : Nat) (ht : P.underlying t = some (.slice e)) (hinfo : (P.info? e).map (fun i => (i.zero, i.size, i.bytes)) = some (some z, s, bytes))
    {g cap : Nat} {K : List α} (ho : OwR en s e w (some ⟨g, 0, none⟩) cap K) {a : Addr} {cap' : Nat} {M : List α} (hr : RdR en w (some a) cap' M) (hroom : K.length + M.length ≤ cap) :
    ∃ w', (Builtin.append_ #[t, t] ty #[.slice (some ⟨g, 0, none⟩) K.length cap, .slice (some a) M.length cap']).run P w = .ok (.slice (some ⟨g, 0, none⟩) (K.length + M.length) cap) w' ∧ OwR en s e w' (some ⟨g, 0, none⟩) cap (K ++ M) ∧ w.grownBy w' (some g) := by
  obtain ⟨i, hi, hz, hsz, hby⟩ := info_parts hinfo
  subst hsz hby
  have hlen : (cs en K ++ cs en M).length = (K.length + M.length) * i.size := by rw [List.length_append, cs_length E, cs_length E, Nat.add_mul]
  have hnews : ∀ j u, (cs en M)[j]? = some u → w.cell? (a.add j) = some u := by
    intro j u hj
    by_cases hM : M = []
    · subst hM; simp [cs] at hj
    · obtain ⟨b, off, e1, _, hc⟩ := hr.cell hM
      cases e1
      rw [Addr.add_lit]
      exact hc j u hj
  rcases ho with ⟨h, _⟩ | ⟨g', cur, h, hh, hle, hmx, hsz, htk⟩
  · cases h
  · cases h
    have hfit : K.length * i.size + (cs en M).length ≤ cur.size := by rw [cs_length E, ← Nat.add_mul]; exact Nat.le_trans (Nat.mul_le_mul_right _ hroom) hsz
    have hrun := run_append_room (P := P) w t ty e i ht hi g K.length cap cur hh a M.length cap' (cs en M) (cs_length E M) hnews (cs_one E M) hroom hfit
    refine ⟨_, hrun, .inr ⟨g, _, rfl, setRow_heap w g cur _ e _ hh, by simpa using hroom, hmx, ?_, ?_⟩, ⟨rfl, rfl, rfl, by simp, fun k _ hk => setRow_other w g k _ (fun e => hk (by simp [e]))⟩⟩
    · simp only [List.size_toArray, List.length_append, List.length_take, List.length_drop, Array.length_toList]
      omega
    · rw [htk, cs_append, List.length_append, ← hlen]
      exact List.take_left

theorem step_append_fitR (E : Enc en s) {P : Program} (w : World) {ops : Array Oper} {o : Oper} {a : Act} {K : Act → World → Prop} {Q : Exit → Act → World → Prop} {X : Prop} (hgd : o.guard = none) (so x : Operand) (t : TypeId)
    (hop : o.op = .call { callee := .builtin .append, args := #[so, x], argTypes := #[t, t] }) (z : Value) (bytes : Nat) (ht : P.underlying t = some (.slice e)) (hinfo : (P.info? e).map (fun i => (i.zero, i.size, i.bytes)) = some (some z, s, bytes))
    {g cap n : Nat} {N : List α} {a' : Addr} {cap' m : Nat} {M : List α} (hs : a.eval so = .slice (some ⟨g, 0, none⟩) n cap) (hx : a.eval x = .slice (some a') m cap') (ho : OwR en s e w (some ⟨g, 0, none⟩) cap N) (hr : RdR en w (some a') cap' M) (hn : N.length = n) (hm : M.length = m) (q : Nat) (hq : n + m = q) (hroom : q ≤ cap)
    (h : ∀ w', OwR en s e w' (some ⟨g, 0, none⟩) cap (N ++ M) → w.grownBy w' (some g) → K (a.put o.dst (.slice (some ⟨g, 0, none⟩) q cap)) w') :
    if Region.wanted o (yielded ops a.tmps) = true then Oper.wp P o a w K Q else X := by
  have hw : Region.wanted o (yielded ops a.tmps) = true := by simp [Region.wanted, hgd]
  rw [if_pos hw]
  subst hn hm hq
  obtain ⟨w', hrun, h2, h3⟩ := run_append_fitR E (P := P) t o.type z bytes ht hinfo ho hr hroom
  unfold Oper.wp execOp
  simp only [hop, resolve, invoke, builtin, Sem.run_bind, Sem.run_pure, Result.andThen_ok, List.map_toArray, List.map_cons, List.map_nil, hs, hx, hrun]
  exact h w' h2 h3
end

end Go.Proofs.YtemldmjpanmdbaaGreatDoor
