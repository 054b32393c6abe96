import Derived.Test.YtemldmjpanmdbaaGreatDoorP21
set_option linter.unusedVariables false
namespace Go.Proofs.YtemldmjpanmdbaaGreatDoor.Ev
/-- A heap with one thing more. -/
def mkS (h : Tr AO HD) (n : Nat) (ob : AO) : St := { h := Tr.set HD h n (some ob), nx := n + 1 }
theorem rdO_mkS {h : Tr AO HD} {n : Nat} {o : AO} (hn : n < 4096) : rdO (mkS h n o) = upd (rdO ⟨h, n⟩) n o := rdO_set h (n + 1) n o hn n
theorem newO_any {S : St} {o : AO} {p : Nat × St} (h : newO S o = some p) : p = (S.nx, mkS S.h S.nx o) ∧ S.nx < 4096 ∧ ∀ h', newO ⟨h', S.nx⟩ o = some (S.nx, mkS h' S.nx o) := by
  obtain ⟨h1, h2⟩ := iff_some.1 h
  cases h2
  exact ⟨rfl, blt_iff.1 h1, fun h' => iff_some.2 ⟨h1, rfl⟩⟩
theorem newRow_any {S : St} {t : TypeId} {l : List Value} {p : Nat × St} (h : newRow S t l = some p) : ∃ ob, p = (S.nx, mkS S.h S.nx ob) ∧ S.nx < 4096 ∧ ∀ h', newRow ⟨h', S.nx⟩ t l = some (S.nx, mkS h' S.nx ob) := by
  obtain ⟨row, h1, h2⟩ := ob_some.1 (show ob (rowOf t l) _ = some p from h)
  obtain ⟨h3, h4, h5⟩ := newO_any h2
  refine ⟨.inl row, h3, h4, fun h' => ?_⟩
  show ob (rowOf t l) _ = _
  rw [h1]
  exact h5 h'
section
variable {E : Env} {S S' : St} {K : CallF} {Y : YieldF} {τ τ' : Tmps}
/-- A maker hangs on the number alone. -/
theorem maker_any {o : Oper} {q : Value × St} (hm : isMaker o = true) (hq : (cOper E o).f K Y τ S = some q) :
    ∃ ob, q.2 = mkS S.h S.nx ob ∧ S.nx < 4096 ∧ ∀ K Y h', (cOper E o).f K Y τ ⟨h', S.nx⟩ = some (q.1, mkS h' S.nx ob) := by
  obtain ⟨dst, op, type, pos, after, guard⟩ := o
  cases op with
  | alloc t =>
    simp only [cOper] at hq ⊢
    split at hq
    · rename_i hd
      obtain ⟨p, h1, hq⟩ := ob_some.1 hq
      cases hq
      obtain ⟨x, rfl, h2, h3⟩ := newRow_any h1
      refine ⟨x, rfl, h2, fun _ _ h' => ?_⟩
      simp only [h3, ob_s]
    · cases hq
  | box t x =>
    obtain ⟨z, h0, hq⟩ := ob_some.1 (show ob ((opd E x).f τ) _ = some q from hq)
    obtain ⟨p, h1, hq⟩ := ob_some.1 hq
    cases hq
    obtain ⟨x, rfl, h2, h3⟩ := newRow_any h1
    refine ⟨x, rfl, h2, fun _ _ h' => ?_⟩
    simp only [cOper, h0, h3, ob_s]
  | buildSlice t n ps =>
    have hq : (cBuildSlice E t n (opdp E ps.toList)).f τ S = some q := hq
    show ∃ ob, q.2 = mkS S.h S.nx ob ∧ S.nx < 4096 ∧ ∀ (K : CallF) (Y : YieldF) h', (cBuildSlice E t n (opdp E ps.toList)).f τ ⟨h', S.nx⟩ = some (q.1, mkS h' S.nx ob)
    unfold cBuildSlice at hq ⊢
    split at hq
    · rename_i hd
      split at hq
      · rename_i hde
        obtain ⟨hc, hq⟩ := condB hq
        obtain ⟨a, h1, hq⟩ := ob_some.1 hq
        obtain ⟨b, h2, hq⟩ := ob_some.1 hq
        obtain ⟨p, h3, hq⟩ := ob_some.1 hq
        cases hq
        obtain ⟨x, rfl, h4, h5⟩ := newRow_any h3
        refine ⟨x, rfl, h4, fun _ _ h' => ?_⟩
        simp only [hc, cond_true, h1, h2, h5, ob_s]
      · cases hq
    · cases hq
  | makeMap t r =>
    cases r with
    | none =>
      obtain ⟨p, h1, hq⟩ := ob_some.1 (show ob (newO S (.inr (.map #[] 0))) _ = some q from hq)
      cases hq
      obtain ⟨rfl, h2, h3⟩ := newO_any h1
      exact ⟨_, rfl, h2, fun _ _ h' => by simp only [cOper, h3, ob_s]⟩
    | some r => cases hq
  | makeSlice t l c =>
    simp only [cOper] at hq ⊢
    split at hq
    · rename_i hd
      split at hq
      · rename_i u0 size z bytes hde
        cases hc : (Nat.beq z.cells.size size && Nat.blt 0 size) <;> rw [hc] at hq
        · cases hq
        · obtain ⟨lv, h1, hq⟩ := ob_some.1 hq
          obtain ⟨ln, h2, hq⟩ := ob_some.1 hq
          obtain ⟨cv, h3, hq⟩ := ob_some.1 hq
          obtain ⟨cn, h4, hq⟩ := ob_some.1 hq
          obtain ⟨h5, hq⟩ := iff_some.1 hq
          obtain ⟨p, h6, hq⟩ := ob_some.1 hq
          cases hq
          obtain ⟨x, rfl, h7, h8⟩ := newRow_any h6
          refine ⟨x, rfl, h7, fun _ _ h' => ?_⟩
          simp only [cond_true, h1, h2, h3, h4, h5, h8, ob_s, iff_t]
      · cases hq
    · cases hq
  | _ => cases hm
theorem op1_pure {ops : List Oper} {o : Oper} {q : Value × St} (hl : isLoad o = false) (hm : isMaker o = false) (he : isEff o = false) (hq : (cOp1 E ops o).f K Y τ S = some q) : ∀ S2, (cOp1 E ops o).f K Y τ S2 = some (q.1, S2) := by
  intro S2
  unfold cOp1 at hq ⊢
  split at hq
  · exact pure_any hl hm he hq K Y S2
  · obtain ⟨b, h1, hq⟩ := ob_some.1 (show ob ((cWanted ops o).f τ) _ = some q from hq)
    dsimp only
    rw [h1]
    cases b
    · cases hq; rfl
    · exact pure_any hl hm he hq K Y S2
theorem op1_maker {ops : List Oper} {o : Oper} {q : Value × St} (hm : isMaker o = true) (hq : (cOp1 E ops o).f K Y τ S = some q) :
    (q.2 = S ∧ ∀ S2, (cOp1 E ops o).f K Y τ S2 = some (q.1, S2)) ∨ ∃ ob, q.2 = mkS S.h S.nx ob ∧ S.nx < 4096 ∧ ∀ h', (cOp1 E ops o).f K Y τ ⟨h', S.nx⟩ = some (q.1, mkS h' S.nx ob) := by
  unfold cOp1 at hq ⊢
  split at hq
  · obtain ⟨x, h1, h2, h3⟩ := maker_any hm hq
    exact .inr ⟨x, h1, h2, fun h' => h3 K Y h'⟩
  · obtain ⟨b, h1, hq⟩ := ob_some.1 (show ob ((cWanted ops o).f τ) _ = some q from hq)
    dsimp only
    rw [h1]
    cases b
    · cases hq; exact .inl ⟨rfl, fun _ => rfl⟩
    · obtain ⟨x, h1, h2, h3⟩ := maker_any hm hq
      exact .inr ⟨x, h1, h2, fun h' => h3 K Y h'⟩
end
end Go.Proofs.YtemldmjpanmdbaaGreatDoor.Ev
