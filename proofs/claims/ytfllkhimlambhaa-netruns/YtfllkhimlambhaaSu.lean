/- A region that draws its order, all of whose operations yield the same in every world that meets a condition, calls among them: it may be gone through in one order. Of no program. -/
import Derived.Test.YtfllkhimlambhaaProg
import Derived.Test.YtfllkhimlambhaaSl
import Derived.OrdersHeld
namespace Go.Proofs.Ytfllkhimlambhaa
open Go.RowKit
set_option linter.unusedVariables false

section
variable {P : Program} {ops : Array Oper} {Q : Exit → Act → World → Prop} {md : Region.Mode} {S : World → Prop}

/-- In state a, in every world that meets S, the operation leaves v in its temporary, and a world that meets S. -/
def Gives (P : Program) (ops : Array Oper) (S : World → Prop) (o : Oper) (v : Value) (a : Act) : Prop :=
  (Region.wanted o (yielded ops a.tmps) = true ∧ ∀ w, S w → (execOp a.eval o).run P w = .ok (.value v) w) ∨
  (Region.wanted o (yielded ops a.tmps) = true ∧ ∃ f args, (∀ w, S w → (execOp a.eval o).run P w = .ok (.enter f args) w) ∧ ∀ w, S w → Calls P f args w fun e w' => e = .returned v ∧ S w') ∨
  (Region.wanted o (yielded ops a.tmps) = false ∧ v = undef)

theorem Gives.of_same {o : Oper} {v : Value} {a a' : Act} (hy : Gives P ops S o v a) (he : execOp a'.eval o = execOp a.eval o)
    (hw : Region.wanted o (yielded ops a'.tmps) = Region.wanted o (yielded ops a.tmps)) : Gives P ops S o v a' := by
  unfold Gives at *
  rw [he, hw]
  exact hy

theorem Gives.wpOp {i : Nat} {o : Oper} {v : Value} {a : Act} (hi : ops[i]? = some o) (hy : Gives P ops S o v a) {K : Act → World → Prop} {w : World} (hS : S w) (h : ∀ w', S w' → K (a.put o.dst v) w') : wpOp P ops Q i K a w := by
  unfold Go.wpOp
  simp only [hi]
  rcases hy with ⟨hw, hv⟩ | ⟨hw, f, args, hv, hc⟩ | ⟨hw, rfl⟩
  · simp only [hw, if_true, Oper.wp, hv w hS, Oper.upon]
    exact .inl (h w hS)
  · simp only [hw, if_true, Oper.wp, hv w hS, Oper.upon_enter]
    refine .inl ((hc w hS).mono ?_)
    rintro e w' ⟨rfl, h2⟩
    exact h w' h2
  · simp only [hw, Bool.false_eq_true, if_false]
    exact h w hS

/-- Whatever order is picked, each operation yields the same. -/
def Sure (P : Program) (md : Region.Mode) (ops : Array Oper) (Q : Exit → Act → World → Prop) (S : World → Prop) : Nat → Array Bool → Act → Prop
  | 0, listed, a => Region.ready md ops listed = [] ∧ ∀ w, S w → Q .normal a w
  | fuel + 1, listed, a =>
    (Region.ready md ops listed = [] → ∀ w, S w → Q .normal a w) ∧
    ∀ i ∈ Region.ready md ops listed, ∃ o v, ops[i]? = some o ∧ Gives P ops S o v a ∧ Sure P md ops Q S fuel (listed.setIfInBounds i true) (a.put o.dst v)

theorem Sure.held : ∀ (fuel : Nat) (listed : Array Bool) (a : Act) (w : World), S w → Sure P md ops Q S fuel listed a → wpAnyH P md ops Q S fuel listed a w
  | 0, _, _, w, hS, h => ⟨h.1, h.2 w hS⟩
  | fuel + 1, listed, a, w, hS, h => ⟨fun h0 => h.1 h0 w hS, fun i hi => by
      obtain ⟨o, v, ho, hg, hs⟩ := h.2 i hi
      exact hg.wpOp ho hS fun w' hS' => ⟨hS', Sure.held fuel _ _ w' hS' hs⟩⟩

theorem getD_both {l : Array Bool} {i : Nat} (h : l.getD i false = true) : l.getD i true = true := by
  rw [Array.getD_eq_getD_getElem?] at h ⊢
  cases e : l[i]? with
  | none => rfl
  | some b => rw [e] at h; exact h

/-- Who may come up while i may come up does not wait for i. -/
theorem not_on {i j : Nat} {listed : Array Bool} {o : Oper} (hr : i ∈ Region.ready md ops listed) (hj : j ∈ Region.ready md ops listed) (ho : ops[j]? = some o) : listed.getD j true = false ∧ ∀ e ∈ o.after, Region.binds md e = true → e.on ≠ i := by
  obtain ⟨h0, o', ho', h1⟩ := mem_ready.1 hj
  rw [ho] at ho'
  cases ho'
  refine ⟨h0, fun e he hb hon => ?_⟩
  have h2 := getD_both (h1 e he hb)
  rw [hon, (mem_ready.1 hr).1] at h2
  cases h2

/-- What is apart from all that is left stays so when one more has come up. -/
theorem apart_left {i j : Nat} {listed : Array Bool} {p : Nat → Oper → Prop} (h : ∀ k o, ops[k]? = some o → k ≠ i → listed.getD k true = false → p k o) (hj : listed.getD j true = false) :
    ∀ k o, ops[k]? = some o → k ≠ i → (listed.setIfInBounds j true).getD k true = false → p k o := fun k o ho hk hl => h k o ho hk (by
  rcases Nat.decEq j k with hne | heq
  · exact (getD_set_ne true hne).symm.trans hl
  · exact heq ▸ hj)

theorem Sure.first {i : Nat} {oi : Oper} {v : Value} (hi : ops[i]? = some oi) (hsel : ∀ (j : Nat) (o : Oper) cs b, ops[j]? = some o → o.op ≠ .select cs b) :
    ∀ (fuel : Nat) (listed : Array Bool) (a : Act),
      (∀ j oj, ops[j]? = some oj → j ≠ i → listed.getD j true = false → (∀ e ∈ oj.after, Region.binds md e = true → e.on ≠ i) → oi.apart ops oj = true) →
      i ∈ Region.ready md ops listed → Gives P ops S oi v a →
      Sure P md ops Q S fuel (listed.setIfInBounds i true) (a.put oi.dst v) → Sure P md ops Q S (fuel + 1) listed a
  | fuel, listed, a, hfree, hr, hy, H => by
    constructor
    · intro h0
      rw [h0] at hr
      cases hr
    intro j hj
    rcases Nat.decEq j i with hji | rfl
    · have hj2 := ready_mono hj hji
      match fuel, H with
      | 0, H => exact absurd (H.1 ▸ hj2) (by simp)
      | fuel + 1, H =>
        obtain ⟨oj, u, hoj, hgj, hsj⟩ := H.2 j hj2
        obtain ⟨hun, hno⟩ := not_on hr hj hoj
        obtain ⟨h1, h2, h3⟩ := Oper.apart_spec (hfree j oj hoj hji hun hno)
        have hfree2 := apart_left (p := fun k ok => (∀ e ∈ ok.after, Region.binds md e = true → e.on ≠ i) → oi.apart ops ok = true) hfree hun
        have gj := hgj.of_same (execOp_put oj (fun cs b => hsel j oj cs b hoj) a oi.dst v h1).symm (wanted_put oj a oi.dst v h1).symm
        have gi := hy.of_same (execOp_put oi (fun cs b => hsel i oi cs b hi) a oj.dst u h3) (wanted_put oi a oj.dst u h3)
        rw [Act.put_comm a v u h2, ← Array.setIfInBounds_comm _ _ hji] at hsj
        exact ⟨oj, u, hoj, gj, Sure.first hi hsel fuel _ _ hfree2 (ready_mono hr (Ne.symm hji)) gi hsj⟩
    · exact ⟨oi, v, hi, hy, H⟩

/-- Number i first. -/
theorem Sure.take {i : Nat} {oi : Oper} {v : Value} {fuel : Nat} {listed : Array Bool} {a : Act} (hi : ops[i]? = some oi)
    (hs : Region.noSelect ops = true) (hf : Region.free md ops listed i = true) (hr : (Region.ready md ops listed).contains i = true)
    (hy : Gives P ops S oi v a) (h : Sure P md ops Q S fuel (listed.setIfInBounds i true) (a.put oi.dst v)) : Sure P md ops Q S (fuel + 1) listed a :=
  Sure.first hi (Region.noSelect_spec hs) fuel listed a (Region.free_spec hi hf) (by simpa using hr) hy h
/-- All have come up. -/
theorem Sure.done {listed : Array Bool} {a : Act} (hr : Region.ready md ops listed = []) (h : ∀ w, S w → Q .normal a w) : ∀ fuel, Sure P md ops Q S fuel listed a
  | 0 => ⟨hr, h⟩
  | _ + 1 => ⟨fun _ => h, by rw [hr]; simp⟩
/-- The beginning. -/
theorem wp_region_sure {id : Nat} {a : Act} {w : World} (S : World → Prop) (hm : P.follows .mixedOrders = true) (hS : S w.drew) (h : Sure P .any ops Q S ops.size (Array.replicate ops.size false) a) : (Code.region id ops true).wp P Q a w :=
  wp_region_held (S := S) hm (Sure.held _ _ _ _ hS h)

/-- The forms of a step. -/
theorem Sure.val {i : Nat} {oi : Oper} (v : Value) (d : Nat) {fuel : Nat} {listed : Array Bool} {a : Act} (hi : ops[i]? = some oi) (hd : oi.dst = some d) (hs : Region.noSelect ops = true) (hf : Region.free md ops listed i = true) (hr : (Region.ready md ops listed).contains i = true)
    (hw : Region.wanted oi (yielded ops a.tmps) = true) (hy : ∀ w, S w → (execOp a.eval oi).run P w = .ok (.value v) w) (h : Sure P md ops Q S fuel (listed.setIfInBounds i true) (a.put (some d) v)) : Sure P md ops Q S (fuel + 1) listed a :=
  Sure.take hi hs hf hr (.inl ⟨hw, hy⟩) (hd ▸ h)
theorem Sure.call {i : Nat} {oi : Oper} (v : Value) (d : Nat) (f : FuncId) (args : Array Value) {fuel : Nat} {listed : Array Bool} {a : Act} (hi : ops[i]? = some oi) (hd : oi.dst = some d) (hs : Region.noSelect ops = true) (hf : Region.free md ops listed i = true) (hr : (Region.ready md ops listed).contains i = true)
    (hw : Region.wanted oi (yielded ops a.tmps) = true) (hy : ∀ w, S w → (execOp a.eval oi).run P w = .ok (.enter f args) w) (hc : ∀ w, S w → Calls P f args w fun e w' => e = .returned v ∧ S w') (h : Sure P md ops Q S fuel (listed.setIfInBounds i true) (a.put (some d) v)) : Sure P md ops Q S (fuel + 1) listed a :=
  Sure.take hi hs hf hr (.inr (.inl ⟨hw, f, args, hy, hc⟩)) (hd ▸ h)

theorem held_val {i : Nat} {oi : Oper} (v : Value) (d : Nat) {fuel : Nat} {listed : Array Bool} {a : Act} {w : World} (hi : ops[i]? = some oi) (hd : oi.dst = some d) (hs : Region.noSelect ops = true) (hf : Region.free md ops listed i = true) (hr : (Region.ready md ops listed).contains i = true)
    (hw : Region.wanted oi (yielded ops a.tmps) = true) (hQ : ∀ c a w, Q (.panic c) (a.put oi.dst v) w → Q (.panic c) a w) (hS : S w) (hy : ∀ w, S w → (execOp a.eval oi).run P w = .ok (.value v) w) (h : wpAnyH P md ops Q S fuel (listed.setIfInBounds i true) (a.put (some d) v) w) : wpAnyH P md ops Q S (fuel + 1) listed a w :=
  wpAnyH_take hi hs hf hr hQ (.inl ⟨hw, hy⟩) hS (hd ▸ h)
theorem held_call {i : Nat} {oi : Oper} (d : Nat) (f : FuncId) (args : Array Value) {fuel : Nat} {listed : Array Bool} {a : Act} {w : World} (hi : ops[i]? = some oi) (hd : oi.dst = some d) (hr : Region.ready md ops listed = [i])
    (hw : Region.wanted oi (yielded ops a.tmps) = true) (hrun : (execOp a.eval oi).run P w = .ok (.enter f args) w) {Post : Ending → World → Prop} (hc : Calls P f args w Post)
    (h : ∀ e w', Post e w' → ∃ v, e = .returned v ∧ S w' ∧ wpAnyH P md ops Q S fuel (listed.setIfInBounds i true) (a.put (some d) v) w') : wpAnyH P md ops Q S (fuel + 1) listed a w := by
  refine wpAnyH_all hr (by simp) fun j hj => ?_
  have : j = i := by simpa using hj
  subst this
  unfold Go.wpOp
  simp only [hi, hw, if_true, Oper.wp, hrun, Oper.upon_enter]
  refine .inl (hc.mono fun e w' hp => ?_)
  obtain ⟨v, rfl, h2, h3⟩ := h e w' hp
  exact ⟨h2, hd ▸ h3⟩
theorem held_run {i : Nat} {oi : Oper} (d : Nat) (v : Value) {fuel : Nat} {listed : Array Bool} {a : Act} {w : World} (w1 : World) (hi : ops[i]? = some oi) (hd : oi.dst = some d) (hr : Region.ready md ops listed = [i])
    (hw : Region.wanted oi (yielded ops a.tmps) = true) (hrun : (execOp a.eval oi).run P w = .ok (.value v) w1) (hS : S w1)
    (h : wpAnyH P md ops Q S fuel (listed.setIfInBounds i true) (a.put (some d) v) w1) : wpAnyH P md ops Q S (fuel + 1) listed a w := by
  refine wpAnyH_all hr (by simp) fun j hj => ?_
  have : j = i := by simpa using hj
  subst this
  unfold Go.wpOp
  simp only [hi, hw, if_true, Oper.wp, hrun, Oper.upon_value]
  exact .inl ⟨hS, hd ▸ h⟩
end

end Go.Proofs.Ytfllkhimlambhaa
