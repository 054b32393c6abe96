import Derived.Test.YtemldmjpanmdbaaGreatDoorP2
import Derived.Laws.CopyRow
import Derived.Below
set_option linter.unusedVariables false
namespace Go.Proofs.YtemldmjpanmdbaaGreatDoor.Ev
open Go.RowKit
section
variable {P : Program} {ρ ρ' : Ren} {B : Nat} {w w' : World}
def isDead : AO → Bool
  | .inl _ => false
  | .inr o => match o with | .map .. | .mapIter .. | .loop _ | .deferred _ => false | _ => true
def ER (P : Program) (ρ : Ren) : List MapEntry → List MapEntry → Prop
  | [], c => c = []
  | e :: l, c => ∃ e' m, c = e' :: m ∧ flat e.key = true ∧ e'.key = e.key ∧ e'.born = e.born ∧ VR P ρ e.val e'.val ∧ ER P ρ l m
theorem ER_mono (h : ρ.le ρ') : ∀ (l c : List MapEntry), ER P ρ l c → ER P ρ' l c
  | [], _, hc => hc
  | _ :: l, _, ⟨v', m, e, h0, h1, h2, h3, h4⟩ => ⟨v', m, e, h0, h1, h2, VR_mono h _ _ h3, ER_mono h l m h4⟩
/-- A loop's record. -/
structure LR (P : Program) (ρ : Ren) (l l' : Loop) : Prop where
  state : l'.state = l.state
  pending : l'.pending = l.pending
  size : l'.tmps.size = l.tmps.size
  params : l'.params = l.params
  assign : l'.assign = l.assign
  body : l'.body = l.body
  tmps : ∀ (t : Nat) v, l.tmps[t]? = some v → ∃ v', l'.tmps[t]? = some v' ∧ VR P ρ v v'
  defers : ∃ q, ρ l.defers = some q ∧ l'.defers = q.b
theorem LR.mono (h : ρ.le ρ') {l l' : Loop} (k : LR P ρ l l') : LR P ρ' l l' :=
  ⟨k.state, k.pending, k.size, k.params, k.assign, k.body, fun t v hv => let ⟨v', h1, h2⟩ := k.tmps t v hv; ⟨v', h1, VR_mono h _ _ h2⟩, let ⟨q, h1, h2⟩ := k.defers; ⟨q, h _ _ h1, h2⟩⟩
/-- What lies at a place. -/
def OR (P : Program) (ρ : Ren) (p : Pl) (o : AO) (w : World) : Prop :=
  match o with
  | .inl row => ∃ cc, w.heap[p.b]? = some (.cells cc row.t (0, 0)) ∧ cc.size = p.n ∧ p.t = row.t ∧ p.s + row.len ≤ p.n ∧ row.len ≤ 2 ^ row.d ∧
      ∀ x v, x < row.len → Tr.get row.d row.c x = some v → ∃ v', cc[p.s + x]? = some v' ∧ VR P ρ v v'
  | .inr (.map es clock) => ∃ es', w.heap[p.b]? = some (.map es' clock) ∧ ER P ρ es.toList es'.toList
  | .inr (.mapIter m since seen last) => ∃ m', p.s = 0 ∧ w.heap[p.b]? = some (.mapIter m' since seen last) ∧ (m = none ∧ m' = none ∨ ∃ r q, m = some r ∧ ρ r = some q ∧ m' = some q.b)
  | .inr (.loop l) => ∃ l', w.heap[p.b]? = some (.loop l') ∧ LR P ρ l l'
  | .inr (.deferred ds) => ∃ ds', ds = some [] ∧ w.heap[p.b]? = some (.deferred ds') ∧ ds' = some []
  | _ => True
theorem OR.mono (h : ρ.le ρ') {p : Pl} {o : AO} (k : OR P ρ p o w) : OR P ρ' p o w := by
  rcases o with row | o
  · obtain ⟨cc, h1, h2, h3, h4, h5, h6⟩ := k
    exact ⟨cc, h1, h2, h3, h4, h5, fun x v hx hv => let ⟨v', a, b⟩ := h6 x v hx hv; ⟨v', a, VR_mono h _ _ b⟩⟩
  · cases o <;> try exact trivial
    case map es clock => obtain ⟨es', h1, h2⟩ := k; exact ⟨es', h1, ER_mono h _ _ h2⟩
    case mapIter m a b c =>
      obtain ⟨m', h0, h1, h2⟩ := k
      refine ⟨m', h0, h1, ?_⟩
      rcases h2 with h2 | ⟨r, q, h3, h4, h5⟩
      · exact .inl h2
      · exact .inr ⟨r, q, h3, h _ _ h4, h5⟩
    case loop l => obtain ⟨l', h1, h2⟩ := k; exact ⟨l', h1, h2.mono h⟩
    case deferred ds => exact k
theorem OR.same {p : Pl} {o : AO} (h : w'.heap[p.b]? = w.heap[p.b]?) (k : OR P ρ p o w) : OR P ρ p o w' := by
  rcases o with row | o
  · obtain ⟨cc, h1, k⟩ := k; exact ⟨cc, h.trans h1, k⟩
  · cases o <;> try exact trivial
    case map es clock => obtain ⟨es', h1, h2⟩ := k; exact ⟨es', h.trans h1, h2⟩
    case mapIter m a b c => obtain ⟨m', h0, h1, h2⟩ := k; exact ⟨m', h0, h.trans h1, h2⟩
    case loop l => obtain ⟨l', h1, h2⟩ := k; exact ⟨l', h.trans h1, h2⟩
    case deferred ds => obtain ⟨d, h0, h1, h2⟩ := k; exact ⟨d, h0, h.trans h1, h2⟩
abbrev Hp := Nat → Option AO
def upd (V : Hp) (r : Nat) (o : AO) : Hp := fun k => if k = r then some o else V k
/-- One heap over another. -/
def ov (h V : Hp) : Hp := fun r => (h r).or (V r)
theorem ov_upd (h V : Hp) (r : Nat) (o : AO) : ov (upd h r o) V = upd (ov h V) r o := by
  funext k
  by_cases hk : k = r <;> simp [ov, upd, hk]
theorem ov_of {h V : Hp} {r : Nat} {o : AO} (hr : h r = some o) : ov h V r = some o := by simp [ov, hr]
/-- The reckoner's heap and the world's. -/
structure G (P : Program) (B : Nat) (ρ : Ren) (V : Hp) (w : World) : Prop where
  at_ : ∀ r o, V r = some o → isDead o = false → ∃ p, ρ r = some p ∧ OR P ρ p o w
  plc : ∀ r p, ρ r = some p → B ≤ p.b ∧ p.b < w.heap.size
  apart : ∀ r r' o o' p p', r ≠ r' → V r = some o → isDead o = false → V r' = some o' → isDead o' = false → ρ r = some p → ρ r' = some p' → p.b ≠ p'.b
theorem G.put {V : Hp} {r : Nat} {o : AO} {p : Pl} (h : G P B ρ V w) (hle : ρ.le ρ') (hr : ρ' r = some p) (hother : ∀ k, k ≠ r → ρ' k = ρ k) (hB : B ≤ p.b) (hlt : p.b < w'.heap.size)
    (hsz : w.heap.size ≤ w'.heap.size) (hheap : ∀ k, k ≠ p.b → k < w.heap.size → w'.heap[k]? = w.heap[k]?)
    (hap : ∀ k ok pk, k ≠ r → V k = some ok → isDead ok = false → ρ k = some pk → pk.b ≠ p.b) (ho : OR P ρ' p o w') : G P B ρ' (upd V r o) w' := by
  refine ⟨fun k ok hk hd => ?_, fun k pk hk => ?_, fun k k' ok ok' pk pk' hne hk hd hk' hd' hp hp' => ?_⟩
  · by_cases hkr : k = r
    · subst hkr
      simp only [upd, if_true, Option.some.injEq] at hk
      subst hk
      exact ⟨p, hr, ho⟩
    · simp only [upd, hkr, if_false] at hk
      obtain ⟨pk, h1, h2⟩ := h.at_ k ok hk hd
      exact ⟨pk, hle _ _ h1, (h2.mono hle).same (hheap _ (hap k ok pk hkr hk hd h1) (h.plc k pk h1).2)⟩
  · by_cases hkr : k = r
    · subst hkr; rw [hr] at hk; cases hk; exact ⟨hB, hlt⟩
    · rw [hother k hkr] at hk
      have := h.plc k pk hk
      exact ⟨this.1, by omega⟩
  · by_cases h1 : k = r
    · subst h1
      have h2 : k' ≠ k := fun e => hne e.symm
      simp only [upd, h2, if_false] at hk'
      rw [hr] at hp; cases hp
      rw [hother k' h2] at hp'
      exact (hap k' ok' pk' h2 hk' hd' hp').symm
    · simp only [upd, h1, if_false] at hk
      rw [hother k h1] at hp
      by_cases h2 : k' = r
      · subst h2
        rw [hr] at hp'; cases hp'
        exact hap k ok pk h1 hk hd hp
      · simp only [upd, h2, if_false] at hk'
        rw [hother k' h2] at hp'
        exact h.apart k k' ok ok' pk pk' hne hk hd hk' hd' hp hp'
theorem G.kill {V : Hp} (h : G P B ρ V w) (r : Nat) {o : AO} (ho : isDead o = true) : G P B ρ (upd V r o) w := by
  refine ⟨fun k ok hk hd => ?_, h.plc, fun k k' ok ok' pk pk' hne hk hd hk' hd' hp hp' => ?_⟩
  · by_cases hkr : k = r
    · subst hkr; simp only [upd, if_true, Option.some.injEq] at hk; subst hk; rw [ho] at hd; cases hd
    · simp only [upd, hkr, if_false] at hk; exact h.at_ k ok hk hd
  · by_cases h1 : k = r
    · subst h1; simp only [upd, if_true, Option.some.injEq] at hk; subst hk; rw [ho] at hd; cases hd
    · by_cases h2 : k' = r
      · subst h2; simp only [upd, if_true, Option.some.injEq] at hk'; subst hk'; rw [ho] at hd'; cases hd'
      · simp only [upd, h1, if_false] at hk; simp only [upd, h2, if_false] at hk'
        exact h.apart k k' ok ok' pk pk' hne hk hd hk' hd' hp hp'
theorem G.heap {V : Hp} (h : G P B ρ V w) (he : w'.heap = w.heap) : G P B ρ V w' :=
  ⟨fun r o hr hd => let ⟨p, h1, h2⟩ := h.at_ r o hr hd; ⟨p, h1, h2.same (by rw [he])⟩, fun r p hp => by rw [he]; exact h.plc r p hp, h.apart⟩
theorem G.drew {V : Hp} (h : G P B ρ V w) : G P B ρ V w.drew := h.heap rfl
/-- What a step of the reckoner leaves. -/
structure Nx (B : Nat) (ρ ρ' : Ren) (n n' : Nat) (w w' : World) : Prop where
  le : ρ.le ρ'
  bel : Below B w w'
  dom : ∀ r, ρ r = none → (r < n ∨ n' ≤ r) → ρ' r = none
  nx : n ≤ n'
theorem Nx.refl (B : Nat) (ρ : Ren) (n : Nat) (w : World) : Nx B ρ ρ n n w w := ⟨ρ.le_refl, Below.refl _ _, fun _ h _ => h, Nat.le_refl _⟩
theorem Nx.drew (B : Nat) (ρ : Ren) (n : Nat) (w : World) : Nx B ρ ρ n n w w.drew := ⟨ρ.le_refl, (Below.refl B w).drew, fun _ h _ => h, Nat.le_refl _⟩
theorem Nx.trans {ρ ρ' ρ'' : Ren} {n n' n'' : Nat} {w w' w'' : World} (h : Nx B ρ ρ' n n' w w') (k : Nx B ρ' ρ'' n' n'' w' w'') : Nx B ρ ρ'' n n'' w w'' :=
  ⟨Ren.le_trans h.le k.le, h.bel.trans k.bel, fun r hr hn => k.dom r (h.dom r hr (by have := h.nx; have := k.nx; omega)) (by have := h.nx; have := k.nx; omega), Nat.le_trans h.nx k.nx⟩
/-- The numbers that are given out are new ones. -/
def Fsh (ρ : Ren) (n n' : Nat) : Prop := ∀ r, n ≤ r → r < n' → ρ r = none
theorem Fsh.fst {ρ : Ren} {n n' n'' : Nat} (h : Fsh ρ n n'') (hn : n' ≤ n'') : Fsh ρ n n' := fun r h1 h2 => h r h1 (by omega)
theorem Fsh.snd {ρ ρ' : Ren} {n n' n'' : Nat} {w w' : World} (h : Fsh ρ n n'') (k : Nx B ρ ρ' n n' w w') : Fsh ρ' n' n'' :=
  fun r h1 h2 => k.dom r (h r (by have := k.nx; omega) h2) (.inr h1)
end
end Go.Proofs.YtemldmjpanmdbaaGreatDoor.Ev
