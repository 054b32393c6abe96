/- A region that draws its order and whose last operation turns what others load: a condition on the world that holds till that one has come up. Of no program. -/
import Derived.Test.YtfllkhimlambhaaSu
namespace Go.Proofs.Ytfllkhimlambhaa
open Go.RowKit
set_option linter.unusedVariables false

section
variable {P : Program} {ops : Array Oper} {Q : Exit → Act → World → Prop} {md : Region.Mode} {F : World → Prop} {z : Nat}

/-- Whatever order is picked; F holds behind every operation as long as number z has not come up. -/
def Till (P : Program) (md : Region.Mode) (ops : Array Oper) (Q : Exit → Act → World → Prop) (F : World → Prop) (z : Nat) : Nat → Array Bool → Act → World → Prop
  | 0, l, a, w => Region.ready md ops l = [] ∧ Q .normal a w
  | f + 1, l, a, w => (Region.ready md ops l = [] → Q .normal a w) ∧ ∀ i ∈ Region.ready md ops l, wpOp P ops Q i (fun a' w' => ((l.setIfInBounds i true).getD z false = false → F w') ∧ Till P md ops Q F z f (l.setIfInBounds i true) a' w') a w

theorem Till.any : ∀ (f : Nat) (l : Array Bool) (a : Act) (w : World), Till P md ops Q F z f l a w → wpAny P md ops Q f l a w
  | 0, _, _, _, h => h
  | f + 1, _, _, _, h => ⟨h.1, fun i hi => wpOp_mono (fun a' w' h' => Till.any f _ a' w' h'.2) (h.2 i hi)⟩

theorem getD_ne {l : Array Bool} {i j : Nat} (d : Bool) (h : i ≠ j) : (l.setIfInBounds i true).getD j d = l.getD j d := getD_set_ne d h

/-- Number i first: it yields its value as long as F holds, and z waits for it. -/
theorem Till.first {i : Nat} {oi oz : Oper} {v : Value} (hi : ops[i]? = some oi) (hz : ops[z]? = some oz) (hzi : ∃ e ∈ oz.after, Region.binds md e = true ∧ e.on = i) (hiz : i ≠ z) (hsel : ∀ (j : Nat) (o : Oper) cs b, ops[j]? = some o → o.op ≠ .select cs b)
    (hQ : ∀ c a w, Q (.panic c) (a.put oi.dst v) w → Q (.panic c) a w) :
    ∀ (f : Nat) (l : Array Bool) (a : Act) (w : World),
      (∀ j oj, ops[j]? = some oj → j ≠ i → l.getD j true = false → (∀ e ∈ oj.after, Region.binds md e = true → e.on ≠ i) → oi.apart ops oj = true) →
      i ∈ Region.ready md ops l → l.getD z false = false → YieldsIf P ops F oi v a → F w →
      Till P md ops Q F z f (l.setIfInBounds i true) (a.put oi.dst v) w → Till P md ops Q F z (f + 1) l a w
  | f, l, a, w, hfree, hr, hlz, hy, hF, H => by
    constructor
    · intro h0
      rw [h0] at hr
      cases hr
    intro j hj
    rcases Nat.decEq j i with hji | rfl
    · have hj2 := ready_mono hj hji
      match f, H with
      | 0, H => exact absurd (H.1 ▸ hj2) (by simp)
      | f + 1, H =>
        have h1 := H.2 j hj2
        obtain ⟨_, oj, hoj, _⟩ := mem_ready.1 hj
        obtain ⟨hun, hno⟩ := not_on hr hj hoj
        have hjz : j ≠ z := by
          rintro rfl
          obtain ⟨e, he, hb, hon⟩ := hzi
          rw [hz] at hoj
          cases hoj
          exact hno e he hb hon
        have hz1 : ∀ l' : Array Bool, l'.getD z false = false → (l'.setIfInBounds j true).getD z false = false := fun l' h => (getD_ne false hjz).trans h
        have hz2 : (l.setIfInBounds i true).getD z false = false := (getD_ne false hiz).trans hlz
        have hfree2 := apart_left (p := fun k ok => (∀ e ∈ ok.after, Region.binds md e = true → e.on ≠ i) → oi.apart ops ok = true) hfree hun
        have h2 := wpOp_putIf hoj (hfree j oj hoj hji hun hno) (fun cs b => hsel i oi cs b hi) (fun cs b => hsel j oj cs b hoj) hQ hy h1
        refine wpOp_mono (fun a' w' h3 => ?_) h2
        obtain ⟨hy', hF', hT⟩ := h3
        have hFw := hF' (hz1 _ hz2)
        rw [← Array.setIfInBounds_comm _ _ hji] at hT
        exact ⟨fun _ => hFw, Till.first hi hz hzi hiz hsel hQ f _ _ _ hfree2 (ready_mono hr (Ne.symm hji)) (hz1 _ hlz) hy' hFw hT⟩
    · exact hy.wpOp hi hF ⟨fun _ => hF, H⟩

theorem Till.val {i : Nat} {oi oz : Oper} (v : Value) (d : Nat) {f : Nat} {l : Array Bool} {a : Act} {w : World} (hi : ops[i]? = some oi) (hd : oi.dst = some d) (hz : ops[z]? = some oz) (hzi : oz.after.any (fun e => Region.binds md e && e.on == i) = true) (hiz : i ≠ z) (hs : Region.noSelect ops = true) (hf : Region.free md ops l i = true) (hr : (Region.ready md ops l).contains i = true) (hl : l.getD z false = false)
    (hw : Region.wanted oi (yielded ops a.tmps) = true) (hQ : ∀ c a w, Q (.panic c) (a.put oi.dst v) w → Q (.panic c) a w) (hF : F w) (hy : ∀ w, F w → (execOp a.eval oi).run P w = .ok (.value v) w) (h : Till P md ops Q F z f (l.setIfInBounds i true) (a.put (some d) v) w) : Till P md ops Q F z (f + 1) l a w := by
  refine Till.first hi hz ?_ hiz (Region.noSelect_spec hs) hQ f l a w (Region.free_spec hi hf) (by simpa using hr) hl (.inl ⟨hw, hy⟩) hF (hd ▸ h)
  obtain ⟨k, hk, hb⟩ := Array.any_iff_exists.1 hzi
  simp only [Bool.and_eq_true, beq_iff_eq] at hb
  exact ⟨_, Array.getElem_mem hk, hb.2.2.1, hb.2.2.2⟩

/-- The one that may come up alone, ahead of z. -/
theorem Till.run {i : Nat} {oi : Oper} (d : Nat) (v : Value) {f : Nat} {l : Array Bool} {a : Act} {w : World} (w1 : World) (hi : ops[i]? = some oi) (hd : oi.dst = some d) (hr : Region.ready md ops l = [i])
    (hw : Region.wanted oi (yielded ops a.tmps) = true) (hrun : (execOp a.eval oi).run P w = .ok (.value v) w1) (hF : F w1)
    (h : Till P md ops Q F z f (l.setIfInBounds i true) (a.put (some d) v) w1) : Till P md ops Q F z (f + 1) l a w := by
  refine ⟨fun h0 => (by rw [h0] at hr; cases hr), fun j hj => ?_⟩
  rw [hr] at hj
  obtain rfl : j = i := by simpa using hj
  unfold Go.wpOp
  simp only [hi, hw, if_true, Oper.wp, hrun, Oper.upon_value]
  exact .inl ⟨fun _ => hF, hd ▸ h⟩
/-- The last one, a store. -/
theorem Till.last {oi : Oper} {f : Nat} {l : Array Bool} {a : Act} {w : World} (w1 : World) (hi : ops[z]? = some oi) (hd : oi.dst = none) (hr : Region.ready md ops l = [z]) (hlt : z < l.size)
    (hw : Region.wanted oi (yielded ops a.tmps) = true) (hrun : Oper.wp P oi a w (fun a' w' => a' = a ∧ w' = w1) Q)
    (h : Till P md ops Q F z f (l.setIfInBounds z true) a w1) : Till P md ops Q F z (f + 1) l a w := by
  refine ⟨fun h0 => (by rw [h0] at hr; cases hr), fun j hj => ?_⟩
  rw [hr] at hj
  obtain rfl : j = z := by simpa using hj
  have hn : (l.setIfInBounds j true).getD j false = true := by simp [hlt]
  refine wpOp_mono (K := fun a' w' => a' = a ∧ w' = w1) ?_ ?_
  · rintro a' w' ⟨rfl, rfl⟩
    exact ⟨fun h0 => (by rw [hn] at h0; cases h0), h⟩
  · unfold Go.wpOp
    simp only [hi, hw, if_true]
    exact .inl hrun
theorem Till.done {l : Array Bool} {a : Act} {w : World} (hr : Region.ready md ops l = []) (h : Q .normal a w) : ∀ f, Till P md ops Q F z f l a w
  | 0 => ⟨hr, h⟩
  | _ + 1 => ⟨fun _ => h, by rw [hr]; simp⟩
theorem wp_region_till {id : Nat} {a : Act} {w : World} (F : World → Prop) (z : Nat) (hm : P.follows .mixedOrders = true) (h : Till P .any ops Q F z ops.size (Array.replicate ops.size false) a w.drew) : (Code.region id ops true).wp P Q a w :=
  wp_region_any hm (Till.any _ _ _ _ h)
end

end Go.Proofs.Ytfllkhimlambhaa
