import Derived.Test.YtemldmjpanmdbaaGreatDoorP1
import Derived.Laws.Sem
import Derived.Laws.World
import Derived.Laws.Cells
set_option linter.unusedVariables false
namespace Go.Proofs.YtemldmjpanmdbaaGreatDoor.Ev
/-- Where a thing of the reckoner's lies: the block, the place of its first cell there, how many cells the block has, and of which type they are. -/
structure Pl where
  b : Nat
  s : Nat
  n : Nat
  t : TypeId
abbrev Ren := Nat → Option Pl
def VR (P : Program) (ρ : Ren) : Value → Value → Prop
  | .chan (some (m + 1)), c => ∃ n : Nat, c = .int .i64 (.ofNat n) ∧ m % 65536 ≤ n ∧ n ≤ m / 65536
  | .chan _, _ => True
  | .pointer (some a), c => ∃ p, ρ a.block = some p ∧ a.spot = none ∧ c = .pointer (some ⟨p.b, p.s + a.off, none⟩)
  | .slice (some ⟨r, off, none⟩) len cap, c => ∃ p, ρ r = some p ∧ c = .slice (some ⟨p.b, p.s + off, none⟩) len cap
  | .slice (some ⟨r, off, some 0⟩) len cap, c => len ≤ cap ∧ ∃ p cap', ρ r = some p ∧ cap ≤ cap' ∧ p.s + off + cap' * P.cellsOf p.t ≤ p.n ∧ c = .slice (some ⟨p.b, p.s + off, none⟩) len cap'
  | .slice (some ⟨_, _, some (_ + 1)⟩) len cap, c => len = 0 ∧ cap = 0 ∧ ∃ a' cap', c = .slice (some a') 0 cap'
  | .map (some r), c => ∃ p, ρ r = some p ∧ c = .map (some p.b)
  | .func (.yield l) first captured, c => first = #[] ∧ captured = #[] ∧ ∃ p, ρ l = some p ∧ c = .func (.yield p.b) #[] #[]
  | .func fn first captured, c => ∃ f' c', c = .func fn f' c' ∧ VRA first f' ∧ VRA captured c'
  | .iface t v, c => ∃ v', c = .iface t v' ∧ VR P ρ v v'
  | .agg cs, c => ∃ cs', c = .agg cs' ∧ VRA cs cs'
  | .tuple cs, c => ∃ cs', c = .tuple cs' ∧ VRA cs cs'
  | v, c => c = v
  where
  VRA : Array Value → Array Value → Prop
    | ⟨l⟩, c => VRL l c.toList
  VRL : List Value → List Value → Prop
    | [], c => c = []
    | v :: l, c => ∃ v' m, c = v' :: m ∧ VR P ρ v v' ∧ VRL l m
abbrev VRL (P : Program) (ρ : Ren) := VR.VRL P ρ
theorem VRA_iff {P : Program} {ρ : Ren} {a c : Array Value} : VR.VRA P ρ a c ↔ VRL P ρ a.toList c.toList := by cases a; exact Iff.rfl
def Ren.le (ρ ρ' : Ren) : Prop := ∀ r p, ρ r = some p → ρ' r = some p
theorem Ren.le_refl (ρ : Ren) : ρ.le ρ := fun _ _ h => h
theorem Ren.le_trans {a b c : Ren} (h : a.le b) (k : b.le c) : a.le c := fun r p hp => k r p (h r p hp)
theorem VRL_nil {P : Program} {ρ : Ren} {c : List Value} : VRL P ρ [] c ↔ c = [] := Iff.rfl
theorem VRL_cons {P : Program} {ρ : Ren} {v : Value} {l c : List Value} : VRL P ρ (v :: l) c ↔ ∃ v' m, c = v' :: m ∧ VR P ρ v v' ∧ VRL P ρ l m := Iff.rfl
section
variable {P : Program} {ρ ρ' : Ren}
theorem VR_mono (h : ρ.le ρ') (a c : Value) (hv : VR P ρ a c) : VR P ρ' a c := by
  refine (?_ : ∀ c, VR P ρ a c → VR P ρ' a c) c hv
  clear hv c
  refine Value.rec (motive_1 := fun a => ∀ c, VR P ρ a c → VR P ρ' a c) (motive_2 := fun a => ∀ c, VR.VRA P ρ a c → VR.VRA P ρ' a c) (motive_3 := fun l => ∀ c, VRL P ρ l c → VRL P ρ' l c)
    ?_ ?_ ?_ ?_ ?_ ?_ ?_ ?_ ?_ ?_ ?_ ?_ ?_ ?_ ?_ ?_ ?_ ?_ a
  case refine_1 => intro b c h; simpa [VR] using h
  case refine_2 => intro k n c h; simpa [VR] using h
  case refine_3 => intro k n c h; simpa [VR] using h
  case refine_4 => intro k n m c h; simpa [VR] using h
  case refine_5 => intro s c h; simpa [VR] using h
  case refine_6 =>
    intro a c hc
    cases a with
    | none => simpa [VR] using hc
    | some a => simp only [VR] at hc ⊢; obtain ⟨p, hp, hs, hc⟩ := hc; exact ⟨p, h _ _ hp, hs, hc⟩
  case refine_7 =>
    intro a n m c hc
    match a with
    | none => simpa [VR] using hc
    | some ⟨r, off, none⟩ => simp only [VR] at hc ⊢; obtain ⟨p, hp, hc⟩ := hc; exact ⟨p, h _ _ hp, hc⟩
    | some ⟨r, off, some 0⟩ => simp only [VR] at hc ⊢; obtain ⟨hl, p, cap', hp, hc⟩ := hc; exact ⟨hl, p, cap', h _ _ hp, hc⟩
    | some ⟨r, off, some (k + 1)⟩ => simpa [VR] using hc
  case refine_8 =>
    intro r c hc
    cases r with
    | none => simpa [VR] using hc
    | some r => simp only [VR] at hc ⊢; obtain ⟨p, hp, hc⟩ := hc; exact ⟨p, h _ _ hp, hc⟩
  case refine_9 =>
    intro r c h
    match r with
    | none => simp [VR]
    | some 0 => simp [VR]
    | some (k + 1) => simpa [VR] using h
  case refine_10 =>
    intro fn a b ha hb c hc
    cases fn with
    | yield l => simp only [VR] at hc ⊢; obtain ⟨h1, h2, p, hp, hc⟩ := hc; exact ⟨h1, h2, p, h _ _ hp, hc⟩
    | _ => simp only [VR] at hc ⊢; obtain ⟨f', c', hc, h1, h2⟩ := hc; exact ⟨f', c', hc, ha _ h1, hb _ h2⟩
  case refine_11 => intro c h; simpa [VR] using h
  case refine_12 => intro t v hv c hc; simp only [VR] at hc ⊢; obtain ⟨v', hc, h1⟩ := hc; exact ⟨v', hc, hv _ h1⟩
  case refine_13 => intro c h; simpa [VR] using h
  case refine_14 => intro cs hcs c hc; simp only [VR] at hc ⊢; obtain ⟨cs', hc, h1⟩ := hc; exact ⟨cs', hc, hcs _ h1⟩
  case refine_15 => intro cs hcs c hc; simp only [VR] at hc ⊢; obtain ⟨cs', hc, h1⟩ := hc; exact ⟨cs', hc, hcs _ h1⟩
  case refine_16 => intro l hl c hc; exact hl _ hc
  case refine_17 => intro c hc; exact hc
  case refine_18 => intro v l hv hl c hc; obtain ⟨v', m, e, h1, h2⟩ := hc; exact ⟨v', m, e, hv _ h1, hl _ h2⟩
theorem VRL_mono (h : ρ.le ρ') : ∀ (l c : List Value), VRL P ρ l c → VRL P ρ' l c
  | [], _, hc => hc
  | _ :: l, _, ⟨v', m, e, h1, h2⟩ => ⟨v', m, e, VR_mono h _ _ h1, VRL_mono h l m h2⟩
theorem VRL_length : ∀ {l c : List Value}, VRL P ρ l c → c.length = l.length
  | [], _, h => by cases h; rfl
  | _ :: l, _, ⟨v', m, e, h1, h2⟩ => by subst e; simp [VRL_length h2]
theorem VRL_get : ∀ {l c : List Value} (h : VRL P ρ l c) (i : Nat) (v : Value), l[i]? = some v → ∃ v', c[i]? = some v' ∧ VR P ρ v v'
  | [], _, h, i, v, hi => by simp at hi
  | x :: l, _, ⟨v', m, e, h1, h2⟩, 0, v, hi => by simp at hi; subst hi; subst e; exact ⟨v', by simp, h1⟩
  | x :: l, _, ⟨v', m, e, h1, h2⟩, i + 1, v, hi => by subst e; simpa using VRL_get h2 i v (by simpa using hi)
theorem VRL_of : ∀ {l c : List Value}, c.length = l.length → (∀ (i : Nat) v v', l[i]? = some v → c[i]? = some v' → VR P ρ v v') → VRL P ρ l c
  | [], c, hl, _ => by simpa [VRL_nil] using hl
  | v :: l, [], hl, _ => by simp at hl
  | v :: l, v' :: c, hl, h => ⟨v', c, rfl, h 0 v v' rfl rfl, VRL_of (by simpa using hl) fun i a b ha hb => h (i + 1) a b (by simpa using ha) (by simpa using hb)⟩
theorem VRL_append {l c m d : List Value} (h : VRL P ρ l c) (k : VRL P ρ m d) : VRL P ρ (l ++ m) (c ++ d) := by
  induction l generalizing c with
  | nil => cases h; exact k
  | cons v l ih => obtain ⟨v', m', rfl, h1, h2⟩ := h; exact ⟨v', m' ++ d, rfl, h1, ih h2⟩
/-- What has no address reads the same. -/
theorem VR_flat : ∀ (n : Nat) (v c : Value), flatN n v = true → (VR P ρ v c ↔ c = v) := by
  have hl : ∀ n, (∀ (v c : Value), flatN n v = true → (VR P ρ v c ↔ c = v)) → ∀ (l c : List Value), l.all (flatN n) = true → (VRL P ρ l c ↔ c = l) := by
    intro n ih l
    induction l with
    | nil => intro c _; exact Iff.rfl
    | cons v l ihl =>
      intro c h
      simp only [List.all_cons, Bool.and_eq_true] at h
      rw [VRL_cons]
      constructor
      · rintro ⟨v', m, rfl, h1, h2⟩; rw [(ih v v' h.1).1 h1, (ihl m h.2).1 h2]
      · rintro rfl; exact ⟨v, l, rfl, (ih v v h.1).2 rfl, (ihl l h.2).2 rfl⟩
  have ha : ∀ n, (∀ (v c : Value), flatN n v = true → (VR P ρ v c ↔ c = v)) → ∀ (l c : Array Value), l.toList.all (flatN n) = true → (VR.VRA P ρ l c ↔ c = l) := by
    intro n ih l c h
    rw [VRA_iff, hl n ih _ _ h]
    exact ⟨fun e => by cases l; cases c; simp_all, fun e => by rw [e]⟩
  intro n
  induction n with
  | zero =>
    intro v c h
    cases v with
    | pointer a => cases a <;> first | (simp [flatN] at h; done) | simp [VR]
    | slice a n m => cases a <;> first | (simp [flatN] at h; done) | simp [VR]
    | map a => cases a <;> first | (simp [flatN] at h; done) | simp [VR]
    | func fn a b => cases fn <;> simp [flatN] at h
    | _ => first | (simp [flatN] at h; done) | simp [VR]
  | succ n ih =>
    intro v c h
    cases v with
    | pointer a => cases a <;> first | (simp [flatN] at h; done) | simp [VR]
    | slice a n m => cases a <;> first | (simp [flatN] at h; done) | simp [VR]
    | map a => cases a <;> first | (simp [flatN] at h; done) | simp [VR]
    | func fn a b =>
      cases fn with
      | func f =>
        simp only [flatN, Bool.and_eq_true] at h
        simp only [VR]
        constructor
        · rintro ⟨f', c', rfl, h1, h2⟩; rw [(ha n ih _ _ h.1).1 h1, (ha n ih _ _ h.2).1 h2]
        · rintro rfl; exact ⟨a, b, rfl, (ha n ih _ _ h.1).2 rfl, (ha n ih _ _ h.2).2 rfl⟩
      | _ => simp [flatN] at h
    | iface t v =>
      simp only [flatN] at h
      simp only [VR]
      exact ⟨fun ⟨v', e, h1⟩ => by rw [e, (ih v v' h).1 h1], fun e => ⟨v, e, (ih v v h).2 rfl⟩⟩
    | agg cs =>
      simp only [flatN] at h
      simp only [VR]
      exact ⟨fun ⟨v', e, h1⟩ => by rw [e, (ha n ih cs v' h).1 h1], fun e => ⟨cs, e, (ha n ih cs cs h).2 rfl⟩⟩
    | tuple cs =>
      simp only [flatN] at h
      simp only [VR]
      exact ⟨fun ⟨v', e, h1⟩ => by rw [e, (ha n ih cs v' h).1 h1], fun e => ⟨cs, e, (ha n ih cs cs h).2 rfl⟩⟩
    | _ => first | (simp [flatN] at h; done) | simp [VR]
theorem VRL_flat (n : Nat) : ∀ (l c : List Value), l.all (flatN n) = true → (VRL P ρ l c ↔ c = l)
  | [], c, _ => Iff.rfl
  | v :: l, c, h => by
    simp only [List.all_cons, Bool.and_eq_true] at h
    rw [VRL_cons]
    constructor
    · rintro ⟨v', m, rfl, h1, h2⟩; rw [(VR_flat n v v' h.1).1 h1, (VRL_flat n l m h.2).1 h2]
    · rintro rfl; exact ⟨v, l, rfl, (VR_flat n v v h.1).2 rfl, (VRL_flat n l l h.2).2 rfl⟩
end
end Go.Proofs.YtemldmjpanmdbaaGreatDoor.Ev
