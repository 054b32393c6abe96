import Derived.Test.YtemldmjpanmdbaaGreatDoorP19
set_option linter.unusedVariables false
namespace Go.Proofs.YtemldmjpanmdbaaGreatDoor.Ev
section
variable {E : Env} {S S' : St} {K : CallF} {Y : YieldF} {τ τ' : Tmps}
theorem condL {α : Type} {b : Bool} {g h : Bx (Tmps → St → α)} (hg : g.f τ S = g.f τ' S) (hh : h.f τ S = h.f τ' S) : (cond b g h).f τ S = (cond b g h).f τ' S := by cases b <;> assumption
theorem load_l {t : TypeId} {x : Arg Value} (hx : x.f τ = x.f τ') : (cLoad E t x).f τ S = (cLoad E t x).f τ' S := by
  unfold cLoad
  split
  · rfl
  · exact condL (by simp only [hx]) (by simp only [hx])
theorem store_l {t : TypeId} {x y : Arg Value} (hx : x.f τ = x.f τ') (hy : y.f τ = y.f τ') : (cStore E t x y).f τ S = (cStore E t x y).f τ' S := by
  unfold cStore
  split
  · rfl
  · simp only [hx, hy]
theorem build_l {t : TypeId} {x : Arg (List (Nat × Value))} (hx : x.f τ = x.f τ') : (cBuild E t x).f τ S = (cBuild E t x).f τ' S := by
  unfold cBuild
  repeat' split
  all_goals first | rfl | simp only [hx]
theorem buildSlice_l {t : TypeId} {n : Nat} {x : Arg (List (Nat × Value))} (hx : x.f τ = x.f τ') : (cBuildSlice E t n x).f τ S = (cBuildSlice E t n x).f τ' S := by
  unfold cBuildSlice
  repeat' split
  all_goals first | rfl | exact condL (by simp only [hx]) rfl
theorem slice_l {t : TypeId} {x : Arg Value} {lo hi mx : Arg (Option Value)} (hx : x.f τ = x.f τ') (h1 : lo.f τ = lo.f τ') (h2 : hi.f τ = hi.f τ') (h3 : mx.f τ = mx.f τ') : (cSlice E t x lo hi mx).f τ S = (cSlice E t x lo hi mx).f τ' S := by
  unfold cSlice
  repeat' split
  all_goals first | rfl | simp only [hx, h1, h2, h3]
theorem builtin_l {b : Builtin} {ts : Array TypeId} {ty : TypeId} {cs : Array Bool} {x : Arg (List Value)} (hx : x.f τ = x.f τ') : (cBuiltin E b ts ty cs x).f τ S = (cBuiltin E b ts ty cs x).f τ' S := by
  unfold cBuiltin
  split
  · split
    · exact condL rfl (by simp only [hx])
    · rfl
  · split
    · simp only [hx]
    · rfl
  · split
    · exact condL (by simp only [hx]) rfl
    · rfl
  · simp only [hx]
  · simp only [hx]
  · exact condL (by simp only [hx]) rfl
theorem opd_l {x : Operand} (h : ∀ t, x = .tmp t → τ t = τ' t) : (opd E x).f τ = (opd E x).f τ' := by
  cases x with
  | tmp t => exact h t rfl
  | const v => simp only [opd]; cases flat v <;> rfl
  | _ => rfl
theorem opds_l : ∀ {l : List Operand}, (∀ x ∈ l, (opd E x).f τ = (opd E x).f τ') → (opds E l).f τ = (opds E l).f τ'
  | [], _ => rfl
  | x :: l, h => by simp only [opds]; rw [h x (by simp), opds_l fun y hy => h y (by simp [hy])]
theorem opdp_l : ∀ {l : List (Nat × Operand)}, (∀ x ∈ l, (opd E x.2).f τ = (opd E x.2).f τ') → (opdp E l).f τ = (opdp E l).f τ'
  | [], _ => rfl
  | x :: l, h => by simp only [opdp]; rw [h x (by simp), opdp_l fun y hy => h y (by simp [hy])]
theorem opdo_l {x : Option Operand} (h : ∀ y, x = some y → (opd E y).f τ = (opd E y).f τ') : (opdo E x).f τ = (opdo E x).f τ' := by
  cases x with
  | none => rfl
  | some y => simp only [opdo]; rw [h y rfl]
/-- What an operation answers hangs on what it looks at. -/
theorem oper_l {o : Oper} (h : ∀ x ∈ o.op.operands.toList, (opd E x).f τ = (opd E x).f τ') : (cOper E o).f K Y τ S = (cOper E o).f K Y τ' S := by
  obtain ⟨dst, op, type, pos, after, guard⟩ := o
  cases op with
  | move x => have h1 := h x (by simp [Op.operands]); simp only [cOper, h1]
  | assign x => have h1 := h x (by simp [Op.operands]); simp only [cOper, h1]
  | pick c x y =>
    have h0 := h c (by simp [Op.operands]); have h1 := h x (by simp [Op.operands]); have h2 := h y (by simp [Op.operands]); simp only [cOper, h0, h1, h2]
  | alloc t => simp only [cOper]; split <;> rfl
  | box t x => have h1 := h x (by simp [Op.operands]); simp only [cOper, h1]
  | build t ps => exact build_l (opdp_l fun x hx => h x.2 (by simp only [Op.operands]; exact List.mem_map_of_mem hx))
  | buildSlice t n ps => exact buildSlice_l (opdp_l fun x hx => h x.2 (by simp only [Op.operands]; exact List.mem_map_of_mem hx))
  | load t x => exact load_l (h x (by simp [Op.operands]))
  | store t x y => exact store_l (h x (by simp [Op.operands])) (h y (by simp [Op.operands]))
  | nilCheck x => have h1 := h x (by simp [Op.operands]); simp only [cOper, h1]
  | binOp op t x y yt => have h1 := h x (by simp [Op.operands]); have h2 := h y (by simp [Op.operands]); simp only [cOper, h1, h2]
  | unOp op t x => have h1 := h x (by simp [Op.operands]); simp only [cOper, h1]
  | convert s d x =>
    have h1 := h x (by simp [Op.operands])
    simp only [cOper]
    split
    · simp only [h1]
    · rfl
  | makeFunc fn first captured =>
    cases fn with
    | func f =>
      have h1 := opds_l (τ := τ) (τ' := τ') (E := E) (l := first.toList) fun x hx => h x (by simp only [Op.operands]; simp; exact .inl (by simpa using hx))
      have h2 := opds_l (τ := τ) (τ' := τ') (E := E) (l := captured.toList) fun x hx => h x (by simp only [Op.operands]; simp; exact .inr (by simpa using hx))
      simp only [cOper, h1, h2]
    | _ => rfl
  | makeMap t r => cases r <;> rfl
  | makeSlice t l c =>
    have h1 := h l (by simp [Op.operands])
    have h2 := h c (by simp [Op.operands])
    simp only [cOper]
    split
    · split
      · rename_i z size bytes _
        cases (Nat.beq _ _ && Nat.blt 0 _) <;> simp only [cond_true, cond_false, h1, h2]
      · rfl
    · rfl
  | slice t x lo hi mx =>
    refine slice_l (h x (by simp [Op.operands])) (opdo_l fun y hy => h y ?_) (opdo_l fun y hy => h y ?_) (opdo_l fun y hy => h y ?_) <;> simp [Op.operands, hy]
  | fieldAddr s x f =>
    have h1 := h x (by simp [Op.operands])
    simp only [cOper]
    split
    · split
      · split
        · rename_i d _
          cases Nat.blt 0 d.size <;> simp only [cond_true, cond_false, h1]
        · rfl
      · rfl
    · rfl
  | field t x f =>
    have h1 := h x (by simp [Op.operands])
    simp only [cOper]
    split
    · split
      · split
        · simp only [h1]
        · rfl
      · rfl
    · rfl
  | indexAddr t x i =>
    have h1 := h x (by simp [Op.operands])
    have h2 := h i (by simp [Op.operands])
    simp only [cOper]
    split
    · split
      · simp only [h1, h2]
      · rfl
    · split
      · simp only [h1, h2]
      · rfl
    · rfl
  | index t x i =>
    have h1 := h x (by simp [Op.operands])
    have h2 := h i (by simp [Op.operands])
    simp only [cOper]
    split
    · split
      · simp only [h1, h2]
      · rfl
    · rfl
  | lookup t x k ok =>
    have h1 := h x (by simp [Op.operands])
    have h2 := h k (by simp [Op.operands])
    simp only [cOper]
    split
    · split
      · simp only [h1, h2]
      · rfl
    · rfl
  | mapUpdate t m k x =>
    have h0 := h m (by simp [Op.operands])
    have h1 := h x (by simp [Op.operands])
    have h2 := h k (by simp [Op.operands])
    simp only [cOper]
    split
    · simp only [h0, h1, h2]
    · rfl
  | range t x =>
    have h1 := h x (by simp [Op.operands])
    simp only [cOper]
    split
    · simp only [h1]
    · rfl
  | next it isS =>
    have h1 := h it (by simp [Op.operands])
    cases isS
    · simp only [cOper, h1]
    · rfl
  | extract t i => have h1 := h t (by simp [Op.operands]); simp only [cOper, h1]
  | call c =>
    obtain ⟨callee, cargs, cts⟩ := c
    have ha := opds_l (τ := τ) (τ' := τ') (E := E) (l := cargs.toList) fun x hx => h x (by simp only [Op.operands, Call.operands]; cases callee <;> simp_all)
    cases callee with
    | builtin b => exact builtin_l ha
    | invoke r m => rfl
    | value x =>
      have h1 := h x (by simp [Op.operands, Call.operands])
      show (cCall E _ type).f K Y τ S = (cCall E _ type).f K Y τ' S
      cases x with
      | func f => show ob ((opds E cargs.toList).f τ) _ = ob ((opds E cargs.toList).f τ') _; rw [ha]
      | tmp t => show ob ((opd E (.tmp t)).f τ) _ = ob ((opd E (.tmp t)).f τ') _; rw [h1, ha]
      | const t => show ob ((opd E (.const t)).f τ) _ = ob ((opd E (.const t)).f τ') _; rw [h1, ha]
      | global t => rfl
  | _ => rfl
end
end Go.Proofs.YtemldmjpanmdbaaGreatDoor.Ev
