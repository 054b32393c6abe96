import Derived.Test.YtemldmjpanmdbaaGreatDoorP12
set_option linter.unusedVariables false
namespace Go.Proofs.YtemldmjpanmdbaaGreatDoor.Ev
open Go.RowKit
section
variable {E : Env} {ρ ρ' : Ren} {B : Nat} {w w' : World} {S S' : St} {V : Hp}
abbrev OpR (P : Program) (v : Value) : Ren → Next → Prop := fun ρ' x => (∃ v', x = .value v' ∧ VR P ρ' v v') ∨ (x = .skip ∧ v = undef)
theorem lift {P : Program} {s : Sem Value} {v : Value} {S1 : St} (h : OkV P B ρ S V w s v S1) : Ok1 P B ρ S V w (do pure (Next.value (← s))) (OpR P v) S1 := by
  obtain ⟨ρ', w', v', a, b, c, d⟩ := h
  exact ⟨ρ', w', .value v', by simp [a], .inl ⟨v', rfl, b⟩, c, d⟩
theorem liftU {P : Program} {s : Sem Unit} {S1 : St} (h : Ok1 P B ρ S V w s (fun _ _ => True) S1) : Ok1 P B ρ S V w (do s; pure Next.skip) (OpR P undef) S1 := by
  obtain ⟨ρ', w', v', a, b, c, d⟩ := h
  exact ⟨ρ', w', .skip, by simp [a], .inr ⟨rfl, rfl⟩, c, d⟩
theorem okV_pure {P : Program} {v v' : Value} (h : GS P B ρ S V w) (hv : VR P ρ v v') : Ok1 P B ρ S V w (pure (Next.value v') : Sem Next) (OpR P v) S := ⟨ρ, w, .value v', rfl, .inl ⟨v', rfl, hv⟩, h, Nx.refl _ _ _ _⟩
theorem val_some {v : Option Value} {S : St} {q : Value × St} (h : val v S = some q) : ∃ u, v = some u ∧ q = (u, S) := by
  obtain ⟨u, h1, h2⟩ := ob_some.1 h
  cases h2
  exact ⟨u, h1, rfl⟩
theorem flat_VR {P : Program} {v : Value} (h : flat v = true) : VR P ρ v v := (VR_flat 8 v v h).2 rfl
theorem flat_eq {P : Program} {v c : Value} (h : flat v = true) (hv : VR P ρ v c) : c = v := (VR_flat 8 v c h).1 hv
theorem eq_ptr1 {P : Program} {t e : TypeId} (d : Nat) (a : Addr) (hu : P.underlying t = some (.pointer e)) : (Op.equalIn (d + 1) t (.pointer (some a)) (.pointer none)).run P w = .ok false w := by simp [Op.equalIn, run_underlying hu]
theorem eq_ptr2 {P : Program} {t e : TypeId} (d : Nat) (a : Addr) (hu : P.underlying t = some (.pointer e)) : (Op.equalIn (d + 1) t (.pointer none) (.pointer (some a))).run P w = .ok false w := by simp [Op.equalIn, run_underlying hu]
theorem eq_sl1 {P : Program} {t e : TypeId} (d : Nat) (a : Addr) (n m k l : Nat) (hu : P.underlying t = some (.slice e)) : (Op.equalIn (d + 1) t (.slice (some a) n m) (.slice none k l)).run P w = .ok false w := by simp [Op.equalIn, run_underlying hu]
theorem eq_sl2 {P : Program} {t e : TypeId} (d : Nat) (a : Addr) (n m k l : Nat) (hu : P.underlying t = some (.slice e)) : (Op.equalIn (d + 1) t (.slice none k l) (.slice (some a) n m)).run P w = .ok false w := by simp [Op.equalIn, run_underlying hu]
theorem eq_map1 {P : Program} {t e f : TypeId} (d : Nat) (a : Nat) (hu : P.underlying t = some (.map e f)) : (Op.equalIn (d + 1) t (.map (some a)) (.map none)).run P w = .ok false w := by simp [Op.equalIn, run_underlying hu]
theorem eq_map2 {P : Program} {t e f : TypeId} (d : Nat) (a : Nat) (hu : P.underlying t = some (.map e f)) : (Op.equalIn (d + 1) t (.map none) (.map (some a))).run P w = .ok false w := by simp [Op.equalIn, run_underlying hu]
theorem eq_fn1 {P : Program} {t : TypeId} {x y : Array TypeId} {z : Bool} (d : Nat) (f : Fn) (a b : Array Value) (hu : P.underlying t = some (.func x y z)) : (Op.equalIn (d + 1) t (.func f a b) .nilFunc).run P w = .ok false w := by simp [Op.equalIn, run_underlying hu]
theorem eq_fn2 {P : Program} {t : TypeId} {x y : Array TypeId} {z : Bool} (d : Nat) (f : Fn) (a b : Array Value) (hu : P.underlying t = some (.func x y z)) : (Op.equalIn (d + 1) t .nilFunc (.func f a b)).run P w = .ok false w := by simp [Op.equalIn, run_underlying hu]
theorem aNil_spec (hE : EnvOk E) {t : TypeId} {d : Dg} {x y x' y' : Value} {r : Bool} (hd : E.dg t = some d) (h : aNil d.und x y = some r) (hx : VR E.P ρ x x') (hy : VR E.P ρ y y') :
    r = false ∧ (Op.equal t x' y').run E.P w = .ok false w ∧ ∀ op X Y, eqGuard op t X Y x' y' = pure () ∧ binOp .eql t x' y' = (do pure (.bool (← Op.equal t x' y'))) ∧ binOp .neq t x' y' = (do pure (.bool (!(← Op.equal t x' y')))) := by
  obtain ⟨i, hi, hu, _, _, _⟩ := hE.ty t d hd
  have sl : ∀ {a : Addr} {n m : Nat} {c : Value}, VR E.P ρ (.slice (some a) n m) c → ∃ b n' m', c = .slice (some b) n' m' := by
    intro a n m c hv
    obtain ⟨r, off, sp⟩ := a
    match sp, hv with
    | none, hv => simp only [VR] at hv; obtain ⟨p, _, rfl⟩ := hv; exact ⟨_, _, _, rfl⟩
    | some 0, hv => simp only [VR] at hv; obtain ⟨_, p, c', _, _, _, rfl⟩ := hv; exact ⟨_, _, _, rfl⟩
    | some (k + 1), hv => simp only [VR] at hv; obtain ⟨_, _, a, c', rfl⟩ := hv; exact ⟨_, _, _, rfl⟩
  have fu : ∀ {fn : Fn} {a b : Array Value} {c : Value}, VR E.P ρ (.func fn a b) c → ∃ f a' b', c = .func f a' b' := by
    intro fn a b c hv
    cases fn with
    | yield l => simp only [VR] at hv; obtain ⟨_, _, p, _, rfl⟩ := hv; exact ⟨_, _, _, rfl⟩
    | _ => simp only [VR] at hv; obtain ⟨f', c', rfl, _, _⟩ := hv; exact ⟨_, _, _, rfl⟩
  unfold aNil at h
  split at h <;> first | (cases h; done) | skip
  all_goals (rename_i hu'; rw [hu'] at hu; cases h; refine ⟨rfl, ?_⟩)
  · simp only [VR] at hx hy; obtain ⟨p, _, _, rfl⟩ := hx; subst hy
    exact ⟨eq_ptr1 9999 _ hu, fun op X Y => ⟨eqGuard_at_pointer .., rfl, rfl⟩⟩
  · simp only [VR] at hx hy; obtain ⟨p, _, _, rfl⟩ := hy; subst hx
    exact ⟨eq_ptr2 9999 _ hu, fun op X Y => ⟨eqGuard_at_pointer .., rfl, rfl⟩⟩
  · obtain ⟨b, n', m', rfl⟩ := sl hx; simp only [VR] at hy; subst hy
    exact ⟨eq_sl1 9999 _ _ _ _ _ hu, fun op X Y => ⟨eqGuard_at_slice .., rfl, rfl⟩⟩
  · obtain ⟨b, n', m', rfl⟩ := sl hy; simp only [VR] at hx; subst hx
    exact ⟨eq_sl2 9999 _ _ _ _ _ hu, fun op X Y => ⟨eqGuard_at_slice .., rfl, rfl⟩⟩
  · simp only [VR] at hx hy; obtain ⟨p, _, rfl⟩ := hx; subst hy
    exact ⟨eq_map1 9999 _ hu, fun op X Y => ⟨eqGuard_at_map .., rfl, rfl⟩⟩
  · simp only [VR] at hx hy; obtain ⟨p, _, rfl⟩ := hy; subst hx
    exact ⟨eq_map2 9999 _ hu, fun op X Y => ⟨eqGuard_at_map .., rfl, rfl⟩⟩
  · obtain ⟨f, a, b, rfl⟩ := fu hx; simp only [VR] at hy; subst hy
    exact ⟨eq_fn1 9999 _ _ _ hu, fun op X Y => ⟨eqGuard_at_func .., rfl, rfl⟩⟩
  · obtain ⟨f, a, b, rfl⟩ := fu hy; simp only [VR] at hx; subst hx
    exact ⟨eq_fn2 9999 _ _ _ hu, fun op X Y => ⟨eqGuard_at_nilFunc .., rfl, rfl⟩⟩
end
end Go.Proofs.YtemldmjpanmdbaaGreatDoor.Ev
