import Derived.Test.YtemldmjpanmdbaaGreatDoorP11
set_option linter.unusedVariables false
namespace Go.Proofs.YtemldmjpanmdbaaGreatDoor.Ev
open Go.RowKit
section
variable {E : Env} {ρ ρ' : Ren} {B : Nat} {w w' : World} {S S' : St} {V : Hp}
theorem lookKey_spec (hE : EnvOk E) {empty : Bool} {key : TypeId} {k : Value} {l c : List MapEntry} {f : Option (Nat × Value)} (h : lookKey E empty key k l = some f) (he : ER E.P ρ l c) :
    flat k = true ∧ (Instr.checkKey empty 10000 key k).run E.P w = .ok () w ∧ ((f = none ∧ (Instr.findKey key k c).run E.P w = .ok none w) ∨ ∃ i v v', f = some (i, v) ∧ (Instr.findKey key k c).run E.P w = .ok (some (i, v')) w ∧ VR E.P ρ v v') := by
  obtain ⟨h1, h⟩ := iff_some.1 h
  obtain ⟨_, h2, h⟩ := ob_some.1 h
  obtain ⟨d, h3, h⟩ := ob_some.1 h
  obtain ⟨i, hi, hu, _, _, _⟩ := hE.ty key d h3
  refine ⟨h1, pureOf_run _ _ h2, ?_⟩
  rcases findNow_ER (kind := d.und) (k := k) he 0 with ⟨a, b⟩ | ⟨a, b⟩ | ⟨j, v, v', a, b, c⟩
  · rw [a] at h
    have e : (Instr.findKey key k c).run E.P w = (Instr.findAsking key k c 0).run E.P w := by simp [Instr.findKey, run_underlying hu, b]
    rw [e]
    exact findAsking_ER he 0 h
  · rw [a] at h; cases h
    exact .inl ⟨rfl, by simp [Instr.findKey, run_underlying hu, b]⟩
  · rw [a] at h; cases h
    exact .inr ⟨j, v, v', rfl, by simp [Instr.findKey, run_underlying hu, b], c⟩
/-- A thing that is no row turns. -/
theorem putO_spec {P : Program} {r : Nat} {o o1 : AO} {ob0 ob1 : Obj} {p : Pl} (h : GS P B ρ S V w) (hr : rdO S r = some o) (hd : isDead o = false) (hp : ρ r = some p) (h0 : w.heap[p.b]? = some ob0) (hc : ∀ a b c, ob0 ≠ .cells a b c)
    (ho : OR P ρ p o1 { w with heap := w.heap.setIfInBounds p.b ob1 }) :
    (setObj p.b ob1).run P w = .ok () { w with heap := w.heap.setIfInBounds p.b ob1 } ∧ GS P B ρ (putO S r o1) V { w with heap := w.heap.setIfInBounds p.b ob1 } ∧ Nx B ρ ρ S.nx S.nx w { w with heap := w.heap.setIfInBounds p.b ob1 } := by
  have hpl := h.plc r p hp
  have hsz : (w.heap.setIfInBounds p.b ob1).size = w.heap.size := by simp
  have hne : ∀ k, k ≠ p.b → (w.heap.setIfInBounds p.b ob1)[k]? = w.heap[k]? := fun k hk => Array.getElem?_setIfInBounds_ne (Ne.symm hk)
  refine ⟨?_, ?_, ⟨ρ.le_refl, ⟨rfl, rfl, rfl, by show _ ≤ (w.heap.setIfInBounds p.b ob1).size; omega, fun k hk => hne k (by omega)⟩, fun _ h _ => h, Nat.le_refl _⟩⟩
  · cases ob0 with
    | cells a b c => exact absurd rfl (hc _ _ _)
    | _ => simp only [setObj, Sem.run, h0]
  · show G P B ρ (ov (rdO (putO S r o1)) V) _
    rw [rdO_putO _ (rdO_lt hr), ov_upd]
    refine h.put ρ.le_refl hp (fun _ _ => rfl) hpl.1 (by show p.b < (w.heap.setIfInBounds p.b ob1).size; omega) (by show w.heap.size ≤ (w.heap.setIfInBounds p.b ob1).size; omega) (fun k hk _ => hne k hk) ?_ ho
    intro k ok pk hkr hk hdk hpk
    exact h.apart k r ok o pk p hkr hk hdk (ov_of hr) hd hpk hp
theorem set_same {P : Program} {b : Nat} {o : Obj} (h : b < w.heap.size) : ({ w with heap := w.heap.setIfInBounds b o } : World).heap[b]? = some o := by
  show (w.heap.setIfInBounds b o)[b]? = _
  simp [h]
theorem ER_push {P : Program} {l c : List MapEntry} {e e' : MapEntry} (h : ER P ρ l c) (h1 : flat e.key = true) (h2 : e'.key = e.key) (h3 : e'.born = e.born) (h4 : VR P ρ e.val e'.val) : ER P ρ (l ++ [e]) (c ++ [e']) := by
  induction l generalizing c with
  | nil => cases h; exact ⟨e', [], rfl, h1, h2, h3, h4, rfl⟩
  | cons x l ih => obtain ⟨x', m, rfl, a, b, c1, d, f⟩ := h; exact ⟨x', m ++ [e'], rfl, a, b, c1, d, ih f⟩
end
end Go.Proofs.YtemldmjpanmdbaaGreatDoor.Ev
