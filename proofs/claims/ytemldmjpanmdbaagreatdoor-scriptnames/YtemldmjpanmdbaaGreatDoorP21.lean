import Derived.Test.YtemldmjpanmdbaaGreatDoorP20
set_option linter.unusedVariables false
namespace Go.Proofs.YtemldmjpanmdbaaGreatDoor.Ev
theorem ob_s {α β : Type} (v : α) (f : α → Option β) : ob (some v) f = f v := rfl
theorem iff_t {β : Type} (x : Option β) : iff' true x = x := rfl
section
variable {E : Env} {S S' : St} {K : CallF} {Y : YieldF} {τ τ' : Tmps}
theorem wanted_l {ops : List Oper} {o : Oper} (h : ∀ t ∈ looks ops o, τ t = τ' t) : (cWanted ops o).f τ = (cWanted ops o).f τ' := by
  unfold cWanted
  split
  · rfl
  · rename_i j want hg
    split
    · rfl
    · rename_i d hd
      simp only
      rw [h d (by simp [looks, hg, hd])]
theorem op1_l {ops : List Oper} {o : Oper} (h : ∀ t ∈ looks ops o, τ t = τ' t) : (cOp1 E ops o).f K Y τ S = (cOp1 E ops o).f K Y τ' S := by
  have h1 : ∀ S, (cOper E o).f K Y τ S = (cOper E o).f K Y τ' S := fun S => oper_l fun x hx => opd_l fun t ht => h t (by
    subst ht
    unfold looks
    exact List.mem_append_left _ (List.mem_filterMap.2 ⟨.tmp t, hx, rfl⟩))
  unfold cOp1
  split
  · exact h1 S
  · show ob ((cWanted ops o).f τ) _ = ob ((cWanted ops o).f τ') _
    rw [wanted_l h]
    cases (cWanted ops o).f τ' with
    | none => rfl
    | some b => cases b <;> first | rfl | exact h1 S
/-- Values that read alike are one. -/
theorem vEq_eq : ∀ (n : Nat) (a b : Value), vEq n a b = true → a = b := by
  have hl : ∀ n, (∀ a b, vEq n a b = true → a = b) → ∀ l m, vEq.vEqL n l m = true → l = m := by
    intro n ih l
    induction l with
    | nil => intro m h; cases m <;> first | rfl | (simp [vEq.vEqL] at h)
    | cons x l il =>
      intro m h
      cases m with
      | nil => simp [vEq.vEqL] at h
      | cons y m => simp only [vEq.vEqL, Bool.and_eq_true] at h; rw [ih _ _ h.1, il _ h.2]
  intro n
  induction n with
  | zero =>
    intro a b h
    unfold vEq at h
    split at h <;> simp_all
  | succ n ih =>
    intro a b h
    unfold vEq at h
    split at h
    all_goals first
      | (simp_all; done)
      | (rename_i hh
         cases hh
         have := hl n ih _ _ h
         congr 1
         exact Array.ext' this)
/-- What neither loads, makes nor does anything answers the same everywhere. -/
theorem pure_any {o : Oper} {q : Value × St} (hl : isLoad o = false) (hm : isMaker o = false) (he : isEff o = false) (hq : (cOper E o).f K Y τ S = some q) : ∀ K Y S2, (cOper E o).f K Y τ S2 = some (q.1, S2) := by
  intro K2 Y2 S2
  obtain ⟨dst, op, type, pos, after, guard⟩ := o
  cases op with
  | move x => obtain ⟨u, h1, rfl⟩ := val_some (show val ((opd E x).f τ) S = some q from hq); simp only [cOper, h1, val, ob_s]
  | assign x => obtain ⟨u, h1, rfl⟩ := val_some (show val ((opd E x).f τ) S = some q from hq); simp only [cOper, h1, val, ob_s]
  | pick c x y =>
    obtain ⟨u, h1, hq⟩ := ob_some.1 (show ob ((opd E c).f τ) _ = some q from hq)
    cases u with
    | bool t =>
      cases t
      · obtain ⟨u, h2, rfl⟩ := val_some (show val ((opd E y).f τ) S = some q from hq); simp only [cOper, h1, h2, val, ob_s, cond_false]
      · obtain ⟨u, h2, rfl⟩ := val_some (show val ((opd E x).f τ) S = some q from hq); simp only [cOper, h1, h2, val, ob_s, cond_true]
    | _ => cases hq
  | build t ps =>
    have hq : (cBuild E t (opdp E ps.toList)).f τ S = some q := hq
    show (cBuild E t (opdp E ps.toList)).f τ S2 = some (q.1, S2)
    unfold cBuild at hq ⊢
    repeat' split at hq
    all_goals first
      | (cases hq; done)
      | (obtain ⟨a, h1, hq⟩ := ob_some.1 (show ob ((opdp E ps.toList).f τ) _ = some q from hq)
         obtain ⟨b, h2, hq⟩ := ob_some.1 hq
         cases hq
         simp only [*, ob_s])
  | nilCheck x =>
    obtain ⟨v, h0, hq⟩ := ob_some.1 (show ob ((opd E x).f τ) _ = some q from hq)
    simp only [cOper, h0, ob_s]
    split at hq <;> first | (cases hq; rfl) | cases hq
  | binOp op t x y yt =>
    obtain ⟨u, h1, hq⟩ := ob_some.1 (show ob ((opd E x).f τ) _ = some q from hq)
    obtain ⟨v, h2, hq⟩ := ob_some.1 hq
    obtain ⟨r, h3, hq⟩ := ob_some.1 hq
    cases hq
    simp only [cOper, h1, h2, ob_s]
    rw [h3]; rfl
  | unOp op t x =>
    obtain ⟨u, h1, hq⟩ := ob_some.1 (show ob ((opd E x).f τ) _ = some q from hq)
    obtain ⟨h2, hq⟩ := iff_some.1 hq
    obtain ⟨v, h3, hq⟩ := ob_some.1 hq
    obtain ⟨h4, hq⟩ := iff_some.1 hq
    cases hq
    simp only [cOper, h1, h2, h3, h4, ob_s, iff_t]
  | convert s d x =>
    simp only [cOper] at hq ⊢
    split at hq
    · rename_i hs hd
      obtain ⟨u, h1, hq⟩ := ob_some.1 hq
      obtain ⟨v, h2, hq⟩ := ob_some.1 hq
      cases hq
      simp only [h1, ob_s]
      rw [h2]; rfl
    · cases hq
  | makeFunc fn first captured =>
    cases fn with
    | func f =>
      obtain ⟨x, h1, hq⟩ := ob_some.1 (show ob ((opds E first.toList).f τ) _ = some q from hq)
      obtain ⟨y, h2, hq⟩ := ob_some.1 hq
      cases hq
      simp only [cOper, h1, h2, ob_s]
    | _ => cases hq
  | makeMap t r => cases hm
  | fieldAddr s x f =>
    simp only [cOper] at hq ⊢
    split at hq
    · split at hq
      · split at hq
        · rename_i hd _ _ hf _ d hdf
          cases hc : Nat.blt 0 d.size <;> rw [hc] at hq
          · cases hq
          · obtain ⟨u, h1, hq⟩ := ob_some.1 hq
            obtain ⟨ad, h2, hq⟩ := ob_some.1 hq
            cases hq
            simp only [h1, h2, ob_s, cond_true]
        · cases hq
      · cases hq
    · cases hq
  | field t x f =>
    simp only [cOper] at hq ⊢
    split at hq
    · split at hq
      · split at hq
        · rename_i hd _ _ hf _ d hdf
          obtain ⟨u, h1, hq⟩ := ob_some.1 hq
          cases u with
          | agg cs => obtain ⟨v, h2, rfl⟩ := val_some hq; simp only [h1, h2, ob_s, val]
          | _ => cases hq
        · cases hq
      · cases hq
    · cases hq
  | indexAddr t x i =>
    simp only [cOper] at hq ⊢
    split at hq
    · rename_i hd
      split at hq
      · rename_i d hde
        obtain ⟨u, h1, hq⟩ := ob_some.1 hq
        obtain ⟨ad, h2, hq⟩ := ob_some.1 hq
        obtain ⟨iv, h3, hq⟩ := ob_some.1 hq
        obtain ⟨n, h4, hq⟩ := ob_some.1 hq
        obtain ⟨h5, hq⟩ := iff_some.1 hq
        cases hq
        simp only [h1, h2, h3, h4, h5, ob_s, iff_t]
      · cases hq
    · rename_i hd
      split at hq
      · rename_i d hde
        obtain ⟨u, h1, hq⟩ := ob_some.1 hq
        obtain ⟨iv, h3, hq⟩ := ob_some.1 hq
        obtain ⟨n, h4, hq⟩ := ob_some.1 hq
        simp only [h1, h3, h4, ob_s]
        split at hq
        · obtain ⟨h5, hq⟩ := iff_some.1 hq
          cases hq
          simp only [h5, iff_t]
        · cases hq
      · cases hq
    · cases hq
  | index t x i =>
    simp only [cOper] at hq ⊢
    split at hq
    · rename_i hd
      split at hq
      · rename_i d hde
        obtain ⟨u, h1, hq⟩ := ob_some.1 hq
        obtain ⟨iv, h3, hq⟩ := ob_some.1 hq
        obtain ⟨n, h4, hq⟩ := ob_some.1 hq
        cases u with
        | agg cs =>
          obtain ⟨h5, hq⟩ := iff_some.1 hq
          obtain ⟨v, h2, rfl⟩ := val_some hq
          simp only [h1, h3, h4, h5, h2, ob_s, iff_t, val]
        | _ => cases hq
      · cases hq
    · cases hq
  | extract t i =>
    obtain ⟨u, h1, hq⟩ := ob_some.1 (show ob ((opd E t).f τ) _ = some q from hq)
    cases u with
    | tuple vs => obtain ⟨v, h2, rfl⟩ := val_some hq; simp only [cOper, h1, h2, ob_s, val]
    | _ => cases hq
  | call c =>
    obtain ⟨callee, cargs, cts⟩ := c
    cases callee with
    | builtin b =>
      have hb : okB b = true := by simpa [isEff] using he
      have hn : b ≠ .len := by rintro rfl; simp [isLoad] at hl
      have hq : (cBuiltin E b cts type (cargs.map fun | .const _ => true | _ => false) (opds E cargs.toList)).f τ S = some q := hq
      show (cBuiltin E b cts type (cargs.map fun | .const _ => true | _ => false) (opds E cargs.toList)).f τ S2 = some (q.1, S2)
      have hc : cBuiltin E b cts type (cargs.map fun | .const _ => true | _ => false) (opds E cargs.toList) = (Bx.mk fun ρ S => ob ((opds E cargs.toList).f ρ) fun l => cond (l.all flat) (ob (pureOf E.P (builtin b cts type (cargs.map fun | .const _ => true | _ => false) l.toArray)) fun x => match x with | .value v => iff' (flat v) (some (v, S)) | _ => none) (val (ivB b l) S)) := by
        unfold cBuiltin
        cases b <;> first | (cases hb; done) | exact absurd rfl hn | rfl
      rw [hc] at hq ⊢
      obtain ⟨l, h1, hq⟩ := ob_some.1 (show ob ((opds E cargs.toList).f τ) _ = some q from hq)
      cases h2 : l.all flat <;> rw [h2] at hq
      · obtain ⟨v, h3, rfl⟩ := val_some hq
        simp only [h1, h2, h3, ob_s, cond_false, val]
      · obtain ⟨x, h3, hq⟩ := ob_some.1 (show ob _ _ = some q from hq)
        cases x with
        | value v =>
          obtain ⟨h4, hq⟩ := iff_some.1 hq
          cases hq
          simp only [h1, h2, h3, h4, ob_s, iff_t, cond_true]
        | _ => cases hq
    | _ => cases he
  | _ => first | (cases hm; done) | (cases he; done) | (cases hl; done) | (cases hq; done)
end
end Go.Proofs.YtemldmjpanmdbaaGreatDoor.Ev
