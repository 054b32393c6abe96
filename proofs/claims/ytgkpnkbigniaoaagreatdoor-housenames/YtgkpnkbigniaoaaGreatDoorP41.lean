import Derived.Test.YtgkpnkbigniaoaaGreatDoorP40
set_option linter.unusedVariables false
namespace Go.Proofs.YtgkpnkbigniaoaaGreatDoor.Ev
open Go.RowKit
/-! ### A state written out, as far as it is wanted -/
/-- A row of variables; a map without entries. -/
inductive Lo where
  | row (t : TypeId) (cs : List Value)
  | map (clock : Nat)
/-- Some of what lies there, and how many numbers are given out. -/
structure Hl where
  nx : Nat
  l : List (Nat × Lo)
def rowL (t : TypeId) (cs : List Value) : Row := { t, len := cs.length, d := depth cs.length, c := Tr.ofL (depth cs.length) cs }
def Lo.ao : Lo → AO
  | .row t cs => .inl (rowL t cs)
  | .map k => .inr (.map #[] k)
def Hl.tree (nx : Nat) : List (Nat × Lo) → Tr AO HD
  | [] => Tr.ofF (fun r => cond (Nat.blt r nx) (some dead) none) HD 0
  | p :: l => Tr.set HD (Hl.tree nx l) p.1 (some p.2.ao)
def Hl.st (x : Hl) : St := { h := Hl.tree x.nx x.l, nx := x.nx }
def isUnk : Value → Bool
  | .chan _ => true
  | _ => false
def cellsEq (row : Row) (x : Nat) : List Value → Bool
  | [] => true
  | v :: l => cond (cond (isUnk v) true (match Tr.get row.d row.c x with | some u => vEq 8 u v | none => false)) (cellsEq row (Nat.add x 1) l) false
def rowEq (S : St) (p : Nat × Lo) : Bool :=
  cond (Nat.blt p.1 S.nx && Nat.blt p.1 4096) (match p.2 with
    | .row t cs => cond (Nat.ble cs.length (Nat.pow 2 (depth cs.length))) (match rdR S p.1 with
      | some row => cond (Nat.beq row.t t && Nat.beq row.len cs.length) (cellsEq row 0 cs) false
      | none => false) false
    | .map k => match rdO S p.1 with
      | some (.inr (.map es c)) => Nat.beq es.toList.length 0 && Nat.beq c k
      | _ => false) false
def subS (S : St) (x : Hl) : Bool := cond (Nat.beq S.nx x.nx) (x.l.all (rowEq S)) false
def emptyT {α : Type} (n : Nat) : Tr α n → Bool :=
  Nat.rec (motive := fun n => Tr α n → Bool) (fun t => Option.casesOn (motive := fun _ => Bool) (t : Option α) true fun _ => false) (fun n e t => cond (e (Prod.fst t)) (e (Prod.snd t)) false) n
/-- Nothing lies from k on. -/
def emptyFrom {α : Type} (n : Nat) : Tr α n → Nat → Bool :=
  Nat.rec (motive := fun n => Tr α n → Nat → Bool) (fun t k => cond (Nat.beq k 0) (emptyT 0 t) true)
    (fun n e t k => cond (Nat.blt k (Nat.pow 2 n)) (cond (e (Prod.fst t) k) (emptyT n (Prod.snd t)) false) (e (Prod.snd t) (Nat.sub k (Nat.pow 2 n)))) n
theorem emptyT_get {α : Type} : ∀ (n : Nat) (t : Tr α n) (k : Nat), emptyT n t = true → Tr.get n t k = none
  | 0, t, k, h => by
    have h : Option.casesOn (motive := fun _ => Bool) (t : Option α) true (fun _ => false) = true := h
    show (t : Option α) = none
    revert h
    cases (show Option α from t) with
    | none => intro _; rfl
    | some a => intro h; cases h
  | n + 1, t, k, h => by
    have h : cond (emptyT n (Tr.lo t)) (emptyT n (Tr.hi t)) false = true := h
    have h1 : emptyT n (Tr.lo t) = true ∧ emptyT n (Tr.hi t) = true := by
      cases h2 : emptyT n (Tr.lo t) <;> rw [h2] at h
      · cases h
      · exact ⟨rfl, h⟩
    rw [Tr.get_succ]
    split
    · exact emptyT_get n _ k h1.2
    · exact emptyT_get n _ k h1.1
theorem emptyFrom_get {α : Type} : ∀ (n : Nat) (t : Tr α n) (k j : Nat), emptyFrom n t k = true → k ≤ j → j < 2 ^ n → Tr.get n t j = none
  | 0, t, k, j, h, hk, hj => by
    have hj : j = 0 := by simpa using hj
    have hk : k = 0 := by omega
    subst hk
    exact emptyT_get 0 t j h
  | n + 1, t, k, j, h, hk, hj => by
    have h : cond (Nat.blt k (2 ^ n)) (cond (emptyFrom n (Tr.lo t) k) (emptyT n (Tr.hi t)) false) (emptyFrom n (Tr.hi t) (k - 2 ^ n)) = true := h
    rw [Nat.pow_succ] at hj
    rw [Tr.get_succ]
    by_cases hb : j.testBit n = true
    · rw [if_pos hb]
      have hge : 2 ^ n ≤ j := Nat.ge_two_pow_of_testBit hb
      rw [Tr.get_low _ (j - 2 ^ n) j fun i hi => (Tr.testBit_sub (by rw [Nat.pow_succ]; omega) hb hi).symm]
      by_cases hl : k < 2 ^ n
      · rw [blt_iff.2 hl] at h
        have h : cond (emptyFrom n (Tr.lo t) k) (emptyT n (Tr.hi t)) false = true := h
        cases h2 : emptyFrom n (Tr.lo t) k <;> rw [h2] at h
        · cases h
        · exact emptyT_get n _ _ h
      · rw [blt_false hl] at h
        exact emptyFrom_get n _ (k - 2 ^ n) _ h (by omega) (by omega)
    · rw [if_neg hb]
      have hlt : j < 2 ^ n := by
        rcases Nat.lt_or_ge j (2 ^ n) with h' | h'
        · exact h'
        · exfalso
          have h2 : j = 2 ^ n + (j - 2 ^ n) := by omega
          have h3 : (j - 2 ^ n) < 2 ^ n := by omega
          rw [h2, Nat.testBit_two_pow_add_eq, Nat.testBit_lt_two_pow h3] at hb
          exact hb rfl
      by_cases hl : k < 2 ^ n
      · rw [blt_iff.2 hl] at h
        have h : cond (emptyFrom n (Tr.lo t) k) (emptyT n (Tr.hi t)) false = true := h
        cases h2 : emptyFrom n (Tr.lo t) k <;> rw [h2] at h
        · cases h
        · exact emptyFrom_get n _ k j h2 hk hlt
      · omega
theorem and3 {a b c : Bool} : (a && b && c) = true ↔ a = true ∧ b = true ∧ c = true := by cases a <;> cases b <;> simp
theorem tree_get (nx : Nat) : ∀ (l : List (Nat × Lo)) (r : Nat) (o : AO), (∀ p ∈ l, p.1 < 4096) → r < 4096 → Tr.get HD (Hl.tree nx l) r = some o → (∃ p ∈ l, p.1 = r ∧ o = p.2.ao) ∨ (r < nx ∧ o = dead)
  | [], r, o, _, hr, h => by
    unfold Hl.tree at h
    rw [Tr.get_ofF _ HD 0 r hr, Nat.zero_add] at h
    obtain ⟨h1, h2⟩ := cond_some.1 h
    cases h2
    exact .inr ⟨blt_iff.1 h1, rfl⟩
  | p :: l, r, o, hl, hr, h => by
    have h : Tr.get HD (Tr.set HD (Hl.tree nx l) p.1 (some p.2.ao)) r = some o := h
    rw [Tr.get_set' hr (hl p (by simp))] at h
    by_cases he : r = p.1
    · rw [if_pos he] at h; cases h
      exact .inl ⟨p, by simp, he.symm, rfl⟩
    · rw [if_neg he] at h
      rcases tree_get nx l r o (fun q hq => hl q (by simp [hq])) hr h with ⟨q, h1, h2, h3⟩ | h1
      · exact .inl ⟨q, by simp [h1], h2, h3⟩
      · exact .inr h1
theorem tree_some (nx : Nat) : ∀ (l : List (Nat × Lo)) (r : Nat), (∀ p ∈ l, p.1 < 4096) → r < 4096 → r < nx → ∃ o, Tr.get HD (Hl.tree nx l) r = some o
  | [], r, _, hr, h => by
    unfold Hl.tree
    rw [Tr.get_ofF _ HD 0 r hr, Nat.zero_add, blt_iff.2 h]
    exact ⟨_, rfl⟩
  | p :: l, r, hl, hr, h => by
    show ∃ o, Tr.get HD (Tr.set HD (Hl.tree nx l) p.1 (some p.2.ao)) r = some o
    rw [Tr.get_set' hr (hl p (by simp))]
    by_cases he : r = p.1
    · rw [if_pos he]; exact ⟨_, rfl⟩
    · rw [if_neg he]
      exact tree_some nx l r (fun q hq => hl q (by simp [hq])) hr h
theorem cellsEq_get {row : Row} : ∀ {l : List Value} {x : Nat}, cellsEq row x l = true → ∀ (k : Nat) v, l[k]? = some v → isUnk v = true ∨ Tr.get row.d row.c (x + k) = some v
  | [], _, _, k, v, hk => by simp at hk
  | u :: l, x, h, k, v, hk => by
    unfold cellsEq at h
    have h : cond (cond (isUnk u) true (match Tr.get row.d row.c x with | some u' => vEq 8 u' u | none => false)) (cellsEq row (Nat.add x 1) l) false = true := h
    have h1 : cond (isUnk u) true (match Tr.get row.d row.c x with | some u' => vEq 8 u' u | none => false) = true ∧ cellsEq row (Nat.add x 1) l = true := by
      cases h2 : cond (isUnk u) true (match Tr.get row.d row.c x with | some u' => vEq 8 u' u | none => false) <;> rw [h2] at h
      · cases h
      · exact ⟨rfl, h⟩
    cases k with
    | zero =>
      simp at hk; subst hk
      cases hu : isUnk u with
      | true => exact .inl rfl
      | false =>
        have h2 := h1.1
        rw [hu] at h2
        simp only [cond_false] at h2
        split at h2
        · rename_i u' hu'
          rw [vEq_eq 8 _ _ h2] at hu'
          exact .inr hu'
        · cases h2
    | succ k =>
      have := cellsEq_get h1.2 k v (by simpa using hk)
      rw [show x + (k + 1) = Nat.add x 1 + k by show _ = x + 1 + k; omega]; exact this
section
variable {P : Program} {ρ : Ren} {B : Nat} {w : World} {S : St} {V : Hp}
theorem unk_VR {v c : Value} (h : isUnk v = true) : VR P ρ v c := by
  cases v <;> first | exact trivial | cases h
structure RowEq (S : St) (p : Nat × Lo) : Prop where
  lt : p.1 < S.nx
  l4 : p.1 < 4096
  at_ : ∃ o, rdO S p.1 = some o ∧ isDead o = false ∧ ∀ (P : Program) (ρ : Ren) (q : Pl) (w : World), OR P ρ q o w → OR P ρ q p.2.ao w
theorem row_weak {q : Pl} {row : Row} {t : TypeId} {cs : List Value} (hd : cs.length ≤ 2 ^ depth cs.length) (ht : row.t = t) (hl : row.len = cs.length) (hc : cellsEq row 0 cs = true) (k : OR P ρ q (.inl row) w) : OR P ρ q (.inl (rowL t cs)) w := by
  obtain ⟨cc, h1, h2, h3, h4, h5, h6⟩ := k
  refine ⟨cc, by rw [h1, ht]; rfl, h2, by rw [h3, ht]; rfl, by show q.s + cs.length ≤ q.n; rw [← hl]; exact h4, hd, fun x v hx hv => ?_⟩
  have hx : x < cs.length := hx
  have hv : Tr.get (depth cs.length) (Tr.ofL (depth cs.length) cs) x = some v := hv
  rw [Tr.get_ofL _ _ _ (Nat.lt_of_lt_of_le hx hd)] at hv
  rcases cellsEq_get hc x v hv with hu | hu
  · have : q.s + x < cc.size := by rw [h2]; omega
    exact ⟨cc[q.s + x], by simp [this], unk_VR hu⟩
  · rw [Nat.zero_add] at hu
    exact h6 x v (by rw [hl]; exact hx) hu
theorem rowEq_iff {S : St} {p : Nat × Lo} (h : rowEq S p = true) : RowEq S p := by
  obtain ⟨r, lo⟩ := p
  unfold rowEq at h
  cases h1 : (Nat.blt r S.nx && Nat.blt r 4096) <;> simp only [h1, cond_true, cond_false] at h
  · cases h
  rw [Bool.and_eq_true] at h1
  refine ⟨blt_iff.1 h1.1, blt_iff.1 h1.2, ?_⟩
  cases lo with
  | row t cs =>
    simp only at h
    cases h3 : Nat.ble cs.length (Nat.pow 2 (depth cs.length)) <;> simp only [h3, cond_true, cond_false] at h
    · cases h
    split at h
    · rename_i row hrow
      cases h4 : (Nat.beq row.t t && Nat.beq row.len cs.length) <;> simp only [h4, cond_true, cond_false] at h
      · cases h
      rw [Bool.and_eq_true] at h4
      exact ⟨.inl row, rdR_some.1 hrow, rfl, fun P ρ q w k => row_weak (ble_iff.1 h3) (Nat.eq_of_beq_eq_true h4.1) (Nat.eq_of_beq_eq_true h4.2) h k⟩
    · cases h
  | map k =>
    simp only at h
    split at h
    · rename_i es c hrow
      rw [Bool.and_eq_true] at h
      have hk : c = k := Nat.eq_of_beq_eq_true h.2
      have he : es = #[] := by
        have := Nat.eq_of_beq_eq_true h.1
        exact Array.ext' (by simpa using this)
      subst hk he
      exact ⟨_, hrow, rfl, fun P ρ q w k => k⟩
    · cases h
theorem subS_iff {S : St} {x : Hl} (h : subS S x = true) : S.nx = x.nx ∧ ∀ p ∈ x.l, RowEq S p := by
  unfold subS at h
  cases h1 : Nat.beq S.nx x.nx <;> rw [h1] at h
  · cases h
  refine ⟨Nat.eq_of_beq_eq_true h1, fun p hp => rowEq_iff ?_⟩
  have h : x.l.all (rowEq S) = true := h
  rw [List.all_eq_true] at h
  exact h p hp
theorem st_get {x : Hl} (hl : ∀ p ∈ x.l, p.1 < 4096) {r : Nat} {o : AO} (h : rdO x.st r = some o) : (∃ p ∈ x.l, p.1 = r ∧ o = p.2.ao) ∨ (r < x.nx ∧ o = dead) := by
  have hr := rdO_lt h
  rw [rdO_eq, if_pos hr] at h
  exact tree_get x.nx x.l r o hl hr h
theorem st_some {x : Hl} (hl : ∀ p ∈ x.l, p.1 < 4096) {r : Nat} (hr : r < 4096) (hn : r < x.nx) : ∃ o, rdO x.st r = some o := by
  rw [rdO_eq, if_pos hr]
  exact tree_some x.nx x.l r hl hr hn
/-- Less is known. -/
theorem GS.weak {x : Hl} (hs : subS S x = true) (hw : Wf S) (h : GS P B ρ S V w) : GS P B ρ x.st V w := by
  obtain ⟨hn, hp⟩ := subS_iff hs
  have hl : ∀ p ∈ x.l, p.1 < 4096 := fun p h => (hp p h).l4
  have key : ∀ r o, ov (rdO x.st) V r = some o → isDead o = false → ∃ o', ov (rdO S) V r = some o' ∧ isDead o' = false ∧ ∀ p, OR P ρ p o' w → OR P ρ p o w := fun r o ho hd => by
    cases hr : rdO x.st r with
    | none =>
      rw [show ov (rdO x.st) V r = V r by simp [ov, hr]] at ho
      refine ⟨o, ?_, hd, fun _ h => h⟩
      have : rdO S r = none := by
        by_cases h4 : r < 4096
        · by_cases hx : r < x.nx
          · obtain ⟨_, h5⟩ := st_some hl h4 hx
            rw [hr] at h5; cases h5
          · exact hw r (by omega)
        · rw [rdO_eq, if_neg h4]
      simp [ov, this, ho]
    | some o' =>
      rw [ov_of hr] at ho; cases ho
      rcases st_get hl hr with ⟨p, h1, h2, rfl⟩ | ⟨_, rfl⟩
      · obtain ⟨o', k1, k2, k3⟩ := (hp p h1).at_
        exact ⟨o', ov_of (by rw [← h2]; exact k1), k2, fun q hq => k3 _ _ _ _ hq⟩
      · cases hd
  refine ⟨fun r o ho hd => ?_, h.plc, fun r r' o o' p p' hne ho hd ho' hd' hp hp' => ?_⟩
  · obtain ⟨o', h1, h2, h3⟩ := key r o ho hd
    obtain ⟨p, h4, h5⟩ := h.at_ r o' h1 h2
    exact ⟨p, h4, h3 p h5⟩
  · obtain ⟨o1, h1, h2, _⟩ := key r o ho hd
    obtain ⟨o2, h3, h4, _⟩ := key r' o' ho' hd'
    exact h.apart r r' o1 o2 p p' hne h1 h2 h3 h4 hp hp'
theorem st_wf {x : Hl} (hl : ∀ p ∈ x.l, p.1 < 4096 ∧ p.1 < x.nx) : Wf x.st := fun r hr => by
  cases h : rdO x.st r with
  | none => rfl
  | some o =>
    rcases st_get (fun p hp => (hl p hp).1) h with ⟨p, h1, h2, _⟩ | ⟨h1, _⟩
    · have := (hl p h1).2
      have hr : x.nx ≤ r := hr
      omega
    · have hr : x.nx ≤ r := hr
      omega
theorem weak_ge {x : Hl} (hs : subS S x = true) (hw : Wf S) : Ge S x.st ∧ Wf x.st := by
  obtain ⟨hn, hp⟩ := subS_iff hs
  have hl : ∀ p ∈ x.l, p.1 < 4096 ∧ p.1 < x.nx := fun p h => ⟨(hp p h).l4, by rw [← hn]; exact (hp p h).lt⟩
  have hwf := st_wf hl
  refine ⟨⟨by rw [hn]; exact Nat.le_refl _, fun r hr => ?_, fun _ => hwf⟩, hwf⟩
  by_cases h4 : r < 4096
  · by_cases hx : r < x.nx
    · obtain ⟨_, h5⟩ := st_some (fun p hp => (hl p hp).1) h4 hx
      rw [hr] at h5; cases h5
    · exact hw r (by omega)
  · rw [rdO_eq, if_neg h4]
theorem wf_of {S : St} (h : emptyFrom HD S.h S.nx = true) : Wf S := fun r hr => by
  rw [rdO_eq]
  split
  · rename_i h4; exact emptyFrom_get HD S.h S.nx r h hr h4
  · rfl
end
end Go.Proofs.YtgkpnkbigniaoaaGreatDoor.Ev
