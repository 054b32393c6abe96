import Derived.Test.YtemldmjpanmdbaaGreatDoorP4
set_option linter.unusedVariables false
namespace Go.Proofs.YtemldmjpanmdbaaGreatDoor.Ev
open Go.RowKit
/-- What the tables say is so. -/
structure EnvOk (E : Env) : Prop where
  ty : ∀ t d, E.dg t = some d → ∃ i, E.P.info? t = some i ∧ E.P.underlying t = some d.und ∧ i.size = d.size ∧ i.bytes = d.bytes ∧ ∀ z, d.zero = some z → i.zero = some z ∧ flat z = true
  fn : ∀ f g, f < 512 → Tr.get 9 E.fn f = some g → E.P.funcs[f]? = some g
section
variable {E : Env} {ρ ρ' : Ren} {B : Nat} {w w' : World} {S S' : St} {V : Hp}
/-- The temporaries. -/
def TRel (P : Program) (ρ : Ren) (τ : Tmps) (a : Act) : Prop := ∀ t v, τ t = some v → ∃ v', a.tmps[t]? = some v' ∧ VR P ρ v v'
theorem TRel.mono {P : Program} {τ : Tmps} {a : Act} (h : TRel P ρ τ a) (hle : ρ.le ρ') : TRel P ρ' τ a := fun t v hv => let ⟨v', a, b⟩ := h t v hv; ⟨v', a, VR_mono hle _ _ b⟩
theorem opd_spec {x : Operand} {τ : Tmps} {a : Act} {v : Value} (h : TRel E.P ρ τ a) (hx : (opd E x).f τ = some v) : VR E.P ρ v (a.eval x) := by
  cases x with
  | tmp t =>
    obtain ⟨v', h1, h2⟩ := h t v hx
    simp [Act.eval, h1]; exact h2
  | const u =>
    simp only [opd] at hx
    cases hf : flat u <;> rw [hf] at hx
    · cases hx
    · cases hx; exact (VR_flat 8 _ _ hf).2 rfl
  | global g => cases hx
  | func f => cases hx; exact ⟨#[], #[], rfl, VRA_iff.2 rfl, VRA_iff.2 rfl⟩
theorem opds_spec {τ : Tmps} {a : Act} (h : TRel E.P ρ τ a) : ∀ {l : List Operand} {vs : List Value}, (opds E l).f τ = some vs → VRL E.P ρ vs (l.map a.eval)
  | [], vs, hx => by cases hx; rfl
  | x :: l, vs, hx => by
    obtain ⟨v, h1, h2⟩ := ob_some.1 (show ob ((opd E x).f τ) _ = _ from hx)
    obtain ⟨m, h3, h4⟩ := ob_some.1 h2
    cases h4
    exact ⟨_, _, rfl, opd_spec h h1, opds_spec h h3⟩
/-- Pairs. -/
def PRL (P : Program) (ρ : Ren) : List (Nat × Value) → List (Nat × Value) → Prop
  | [], c => c = []
  | x :: l, c => ∃ v' m, c = (x.1, v') :: m ∧ VR P ρ x.2 v' ∧ PRL P ρ l m
theorem opdp_spec {τ : Tmps} {a : Act} (h : TRel E.P ρ τ a) : ∀ {l : List (Nat × Operand)} {vs : List (Nat × Value)}, (opdp E l).f τ = some vs → PRL E.P ρ vs (l.map fun x => (x.1, a.eval x.2)) ∧ ∀ x ∈ vs, known x.2 = true
  | [], vs, hx => by cases hx; exact ⟨rfl, by simp⟩
  | x :: l, vs, hx => by
    obtain ⟨v, h1, h2⟩ := ob_some.1 (show ob ((opd E x.2).f τ) _ = _ from hx)
    obtain ⟨hk, h2⟩ := iff_some.1 h2
    obtain ⟨m, h3, h4⟩ := ob_some.1 h2
    cases h4
    obtain ⟨g1, g2⟩ := opdp_spec h h3
    refine ⟨⟨_, _, rfl, opd_spec h h1, g1⟩, fun y hy => ?_⟩
    rcases List.mem_cons.1 hy with rfl | hy
    · exact hk
    · exact g2 y hy
theorem opdo_spec {τ : Tmps} {a : Act} (h : TRel E.P ρ τ a) {x : Option Operand} {v : Option Value} (hx : (opdo E x).f τ = some v) :
    (x = none ∧ v = none) ∨ ∃ y u, x = some y ∧ v = some u ∧ VR E.P ρ u (a.eval y) := by
  cases x with
  | none => cases hx; exact .inl ⟨rfl, rfl⟩
  | some y =>
    obtain ⟨u, h1, h2⟩ := ob_some.1 (show ob ((opd E y).f τ) _ = _ from hx)
    cases h2
    exact .inr ⟨y, u, rfl, rfl, opd_spec h h1⟩
/-- One operation went well. -/
def Ok1 {α : Type} (P : Program) (B : Nat) (ρ : Ren) (S : St) (V : Hp) (w : World) (s : Sem α) (R : Ren → α → Prop) (S' : St) : Prop :=
  ∃ ρ' w' v', s.run P w = .ok v' w' ∧ R ρ' v' ∧ GS P B ρ' S' V w' ∧ Nx B ρ ρ' S.nx S'.nx w w'
abbrev OkV (P : Program) (B : Nat) (ρ : Ren) (S : St) (V : Hp) (w : World) (s : Sem Value) (v : Value) (S' : St) : Prop := Ok1 P B ρ S V w s (fun ρ' v' => VR P ρ' v v') S'
theorem OkV.same {P : Program} {s : Sem Value} {v v' : Value} (h : GS P B ρ S V w) (hr : s.run P w = .ok v' w) (hv : VR P ρ v v') : OkV P B ρ S V w s v S := ⟨ρ, w, v', hr, hv, h, Nx.refl _ _ _ _⟩
theorem VR_ptr {P : Program} {v c : Value} {a : Addr} (hp : ptrOf v = some a) (h : VR P ρ v c) : ∃ p, ρ a.block = some p ∧ c = .pointer (some ⟨p.b, p.s + a.off, none⟩) := by
  match v, hp, h with
  | .pointer (some ⟨r, off, none⟩), hp, h =>
    cases hp
    simp only [VR] at h
    obtain ⟨p, h1, _, h2⟩ := h
    exact ⟨p, h1, h2⟩
theorem cells_VRL {P : Program} {v v' : Value} (h1 : ∀ u ∈ v.cells.toList, oneCell u = true) (hv : VR P ρ v v') : VRL P ρ v.cells.toList v'.cells.toList := by
  by_cases ha : ∃ cs, v = .agg cs
  · obtain ⟨cs, rfl⟩ := ha
    simp only [VR] at hv
    obtain ⟨cs', rfl, h⟩ := hv
    exact VRA_iff.1 h
  · have hc : v.cells = #[v] := by cases v <;> first | rfl | exact absurd ⟨_, rfl⟩ ha
    rw [hc] at h1 ⊢
    have h2 : v'.oneCell' = true := oneCell_VR (h1 v (by simp)) hv
    have hc' : v'.cells = #[v'] := by cases v' <;> first | rfl | cases h2
    rw [hc']
    exact ⟨v', [], rfl, hv, rfl⟩
theorem run_isAgg {P : Program} {t : TypeId} {d : TypeDesc} (h : P.underlying t = some d) (w : World) : (isAgg t).run P w = .ok (isAggD d) w := by
  simp [isAgg, run_underlying h]
  cases d <;> rfl
theorem run_sizeOf {P : Program} {t : TypeId} {i : TypeInfo} (h : P.info? t = some i) (w : World) : (sizeOf t).run P w = .ok i.size w := by
  simp [sizeOf, typeInfo, h]
theorem run_zero {P : Program} {t : TypeId} {i : TypeInfo} {z : Value} (h : P.info? t = some i) (hz : i.zero = some z) (w : World) : (zeroValue t).run P w = .ok z w := by
  simp [zeroValue, typeInfo, h, hz]
/-- A load. -/
theorem load_spec (hE : EnvOk E) {t : TypeId} {x : Arg Value} {τ : Tmps} {q : Value × St} {c : Value} (h : GS E.P B ρ S V w) (hq : (cLoad E t x).f τ S = some q) (hx : ∀ v, x.f τ = some v → VR E.P ρ v c) :
    OkV E.P B ρ S V w (Instr.loadAt t c) q.1 q.2 := by
  unfold cLoad at hq
  cases hd : E.dg t with
  | none => rw [hd] at hq; cases hq
  | some d =>
    obtain ⟨i, hi, hu, hs, _, _⟩ := hE.ty t d hd
    rw [hd] at hq
    simp only at hq
    cases hag : isAggD d.und <;> rw [hag] at hq <;> simp only [cond_true, cond_false] at hq
    · obtain ⟨v, h1, hq⟩ := ob_some.1 hq
      obtain ⟨a, h2, hq⟩ := ob_some.1 hq
      obtain ⟨u, h3, hq⟩ := ob_some.1 hq
      cases hq
      obtain ⟨p, hp, rfl⟩ := VR_ptr h2 (hx v h1)
      obtain ⟨p', v', hp', hc, hv⟩ := rdC_spec h h3
      rw [hp] at hp'; cases hp'
      refine OkV.same h (v' := v') ?_ hv
      simp [Instr.loadAt, Instr.sureAddr, loadVar, run_isAgg hu, hag, hc]
    · obtain ⟨v, h1, hq⟩ := ob_some.1 hq
      obtain ⟨a, h2, hq⟩ := ob_some.1 hq
      obtain ⟨l, h3, hq⟩ := ob_some.1 hq
      cases hq
      obtain ⟨p, hp, rfl⟩ := VR_ptr h2 (hx v h1)
      obtain ⟨p', l', hp', hl, hlen, _, hc⟩ := rdCs_spec h h3
      rw [hp] at hp'; cases hp'
      refine OkV.same h (v' := .agg l'.toArray) ?_ ?_
      · have hrun := run_loadCells_list (P := E.P) (w := w) ⟨p.b, p.s + a.off, none⟩ l' (fun j v hj => by
          have := hc j v hj
          unfold Addr.add
          split
          · rename_i h0; subst h0; simpa using this
          · simpa using this)
        rw [hlen] at hrun
        simp [Instr.loadAt, Instr.sureAddr, loadVar, run_isAgg hu, hag, run_sizeOf hi, hs, hrun]
      · simp only [VR]; exact ⟨_, rfl, VRA_iff.2 (by simpa using hl)⟩
/-- A store. -/
theorem store_spec (hE : EnvOk E) {t : TypeId} {x y : Arg Value} {τ : Tmps} {q : Value × St} {c e : Value} (h : GS E.P B ρ S V w) (hq : (cStore E t x y).f τ S = some q) (hx : ∀ v, x.f τ = some v → VR E.P ρ v c)
    (hy : ∀ v, y.f τ = some v → VR E.P ρ v e) : q.1 = undef ∧ Ok1 E.P B ρ S V w (Instr.storeAt t c e) (fun _ _ => True) q.2 := by
  unfold cStore at hq
  cases hd : E.dg t with
  | none => rw [hd] at hq; cases hq
  | some d =>
    obtain ⟨i, hi, hu, hs, _, _⟩ := hE.ty t d hd
    rw [hd] at hq
    simp only at hq
    obtain ⟨v, h1, hq⟩ := ob_some.1 hq
    obtain ⟨a, h2, hq⟩ := ob_some.1 hq
    obtain ⟨u, h3, hq⟩ := ob_some.1 hq
    obtain ⟨h4, hq⟩ := iff_some.1 hq
    obtain ⟨S1, h5, hq⟩ := ob_some.1 hq
    cases hq
    refine ⟨rfl, ?_⟩
    obtain ⟨p, hp, rfl⟩ := VR_ptr h2 (hx v h1)
    have h1c : ∀ z ∈ u.cells.toList, oneCell z = true := by
      unfold wrCs at h5
      obtain ⟨row, g1, g2⟩ := ob_some.1 h5
      obtain ⟨g3, g4⟩ := iff_some.1 g2
      obtain ⟨c', g5, g6⟩ := ob_some.1 g4
      obtain ⟨p', hp', cc, _, _, _, _, he, _⟩ := h.of_row g1
      exact (setCells_spec _ _ _ _ g5 (by have : a.off + u.cells.toList.length ≤ row.len := ble_iff.1 g3; have : row.len ≤ 2 ^ row.d := he; omega)).1
    have hl := cells_VRL h1c (hy u h3)
    obtain ⟨p', w', hp', hrun, hG, hN, _⟩ := wrCs_spec h h5 hl
    rw [hp] at hp'; cases hp'
    have hsz : e.cells.size = i.size := by
      have := VRL_length hl
      have h6 : u.cells.size = d.size := Nat.eq_of_beq_eq_true h4
      simp at this
      omega
    exact ⟨ρ, w', (), by simp [Instr.storeAt, Instr.sureAddr, storeVar, run_sizeOf hi, hsz, hrun], trivial, hG, hN⟩
/-- A new variable. -/
theorem var_spec {t : TypeId} {z z' : Value} {q : Nat × St} (h : GS E.P B ρ S V w) (hq : newRow S t z.cells.toList = some q) (hz : VR E.P ρ z z') (hf : ρ S.nx = none) (hB : B ≤ w.heap.size) :
    Ok1 E.P B ρ S V w (newVar t z') (fun ρ' a => VR E.P ρ' (.pointer (some ⟨q.1, 0, none⟩)) (.pointer (some a))) q.2 := by
  have h1 : ∀ u ∈ z.cells.toList, oneCell u = true := by
    unfold newRow at hq
    obtain ⟨row, g1, g2⟩ := ob_some.1 hq
    exact (rowOf_spec g1).2.2.2.1
  obtain ⟨ρ', hrun, hp, hG, hN, _⟩ := newRow_spec h hq (cells_VRL h1 hz) hf hB
  exact ⟨ρ', _, _, by simpa [newVar] using hrun, by simp only [VR]; exact ⟨_, hp, trivial, rfl⟩, by simpa using hG, by simpa using hN⟩
end
end Go.Proofs.YtemldmjpanmdbaaGreatDoor.Ev
