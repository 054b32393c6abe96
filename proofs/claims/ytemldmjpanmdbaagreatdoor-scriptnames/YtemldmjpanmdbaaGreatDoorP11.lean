import Derived.Test.YtemldmjpanmdbaaGreatDoorP10
set_option linter.unusedVariables false
namespace Go.Proofs.YtemldmjpanmdbaaGreatDoor.Ev
open Go.RowKit
section
variable {E : Env} {ρ ρ' : Ren} {B : Nat} {w w' : World} {S S' : St} {V : Hp}
theorem undOf_spec (hE : EnvOk E) {ts : Array TypeId} {i : Nat} {u : TypeDesc} (h : undOf E ts i = some u) : ∃ t d, ts[i]? = some t ∧ E.dg t = some d ∧ d.und = u := by
  obtain ⟨t, h1, h2⟩ := ob_some.1 h
  obtain ⟨d, h3, h4⟩ := ob_some.1 h2
  cases h4
  exact ⟨t, d, h1, h3, rfl⟩
theorem copy_spec (hE : EnvOk E) {ts : Array TypeId} {ty t elem : TypeId} {d de : Dg} {s x c e : Value} {q : Value × St} (h : GS E.P B ρ S V w)
    (h0 : ts[0]? = some t) (hd : E.dg t = some d) (hu' : d.und = .slice elem) (hde : E.dg elem = some de)
    (hq : aCopy E S de.size s x = some q) (hs : VR E.P ρ s c) (hx : VR E.P ρ x e) : OkV E.P B ρ S V w (Builtin.copy_ ts ty #[c, e]) q.1 q.2 := by
  obtain ⟨i, hi0, hu, _, _, _⟩ := hE.ty t _ hd
  obtain ⟨ie, hie, _, hse, hbe, hz⟩ := hE.ty _ _ hde
  have hut : E.P.underlying t = some (.slice elem) := by rw [hu, hu']
  cases s with
  | slice base dLen dCap =>
    obtain ⟨sl, g1, hq⟩ := ob_some.1 (show ob (lenV x) _ = some q from hq)
    have hq : ob (firstC S de.size (cond (Nat.ble sl dLen) sl dLen) x) _ = some q := hq
    obtain ⟨cs, g2, hq⟩ := ob_some.1 hq
    have hmin : cond (Nat.ble sl dLen) sl dLen = Nat.min sl dLen := by
      show _ = min sl dLen
      cases hb : Nat.ble sl dLen
      · have : ¬ sl ≤ dLen := fun hh => by rw [ble_iff.2 hh] at hb; cases hb
        simp; omega
      · have : sl ≤ dLen := ble_iff.1 hb
        simp; omega
    rw [hmin] at g2 hq
    obtain ⟨cs', n1, n2⟩ := firstC_spec h g2 g1 (Nat.min_le_left _ _) hx
    have hlen : ∀ w, (Builtin.lenOf e).run E.P w = .ok sl w := fun w => lenV_spec g1 hx
    rw [← hse] at n1
    match base, hs, hq with
    | none, hs, hq =>
      cases hq
      simp only [VR] at hs
      subst hs
      refine OkV.same h (v' := goInt (Nat.min sl dLen)) ?_ (by simp [VR, goInt])
      simp [Builtin.copy_, h0, run_underlying hut, hlen, run_sizeOf hie, n1]
    | some ⟨r, off, none⟩, hs, hq =>
      obtain ⟨S1, k1, hq⟩ := ob_some.1 hq
      cases hq
      simp only [VR] at hs
      obtain ⟨p, hp, rfl⟩ := hs
      obtain ⟨p', w', hp', k2, k3, k4, _⟩ := wrCs_spec h k1 n2
      rw [hp] at hp'; cases hp'
      refine ⟨ρ, w', goInt (Nat.min sl dLen), ?_, by simp [VR, goInt], k3, k4⟩
      simp [Builtin.copy_, h0, run_underlying hut, hlen, run_sizeOf hie, n1, k2]
    | some ⟨r, off, some 0⟩, hs, hq =>
      obtain ⟨S1, k1, hq⟩ := ob_some.1 hq
      cases hq
      simp only [VR] at hs
      obtain ⟨_, p, cap', hp, _, _, rfl⟩ := hs
      obtain ⟨p', w', hp', k2, k3, k4, _⟩ := wrCs_spec h k1 n2
      rw [hp] at hp'; cases hp'
      refine ⟨ρ, w', goInt (Nat.min sl dLen), ?_, by simp [VR, goInt], k3, k4⟩
      simp [Builtin.copy_, h0, run_underlying hut, hlen, run_sizeOf hie, n1, k2]
    | some ⟨r, off, some (k + 1)⟩, hs, hq => cases hq
  | _ => cases hq
theorem zeroCells_made (z : Array Value) (n : Nat) : Builtin.zeroCells z n = madeCells z (n * z.size) := rfl
theorem clear_spec (hE : EnvOk E) {ts : Array TypeId} {ty t elem : TypeId} {d de : Dg} {r off n cap : Nat} {sp : Option Nat} {c : Value} {q : St} {z : Value} (h : GS E.P B ρ S V w)
    (h0 : ts[0]? = some t) (hd : E.dg t = some d) (hu' : d.und = .slice elem) (hde : E.dg elem = some de) (hz' : de.zero = some z) (hzs : z.cells.size = de.size) (hz0 : 0 < de.size) (hsp : ∀ k, sp ≠ some (k + 1)) (hn : n ≠ 0)
    (hq : wrCs E S r off (zeros z.cells.toList n) = some q) (hs : VR E.P ρ (.slice (some ⟨r, off, sp⟩) n cap) c) : OkV E.P B ρ S V w (Builtin.clear_ ts ty #[c]) (.tuple #[]) q := by
  obtain ⟨i, hi0, hu, _, _, _⟩ := hE.ty t _ hd
  obtain ⟨ie, hie, _, hse, hbe, hz⟩ := hE.ty _ _ hde
  obtain ⟨hz1, hz2⟩ := hz z hz'
  have hut : E.P.underlying t = some (.slice elem) := by rw [hu, hu']
  obtain ⟨p', w', hp', k2, k3, k4, _⟩ := wrCs_spec h hq (zeros_flat hz2 n)
  have hc : ∃ cap', c = .slice (some ⟨p'.b, p'.s + off, none⟩) n cap' := by
    match sp, hs, hsp with
    | none, hs, _ => simp only [VR] at hs; obtain ⟨p, hp, rfl⟩ := hs; rw [hp] at hp'; cases hp'; exact ⟨_, rfl⟩
    | some 0, hs, _ => simp only [VR] at hs; obtain ⟨_, p, cap', hp, _, _, rfl⟩ := hs; rw [hp] at hp'; cases hp'; exact ⟨_, rfl⟩
    | some (k + 1), hs, hsp => exact absurd rfl (hsp k)
  obtain ⟨cap', rfl⟩ := hc
  refine ⟨ρ, w', .tuple #[], ?_, by simp only [VR]; exact ⟨#[], rfl, VRA_iff.2 rfl⟩, k3, k4⟩
  have h3 : (Builtin.zeroCells z.cells n).toList = zeros z.cells.toList n := by
    rw [zeroCells_made, ← zeros_made z.cells (by omega) n]
  cases n with
  | zero => exact absurd rfl hn
  | succ n => simp [Builtin.clear_, h0, run_underlying hut, run_zero hie hz1, h3, k2]
theorem pureB {P : Program} {b : Builtin} {ts : Array TypeId} {ty : TypeId} {cs : Array Bool} {as : Array Value} {nx : Next} (h : pureOf P (builtin b ts ty cs as) = some nx) : (builtin b ts ty cs as).run P w = .ok nx w := pureOf_run _ _ h
theorem vtuple {P : Program} : VR P ρ (.tuple #[]) (.tuple #[]) := by simp only [VR]; exact ⟨#[], rfl, VRA_iff.2 rfl⟩
/-- The map behind a number. -/
theorem mapOf_spec {P : Program} {r : Nat} {m : Array MapEntry × Nat} (h : GS P B ρ S V w) (hm : mapOf S r = some m) : ∃ p es', ρ r = some p ∧ w.heap[p.b]? = some (.map es' m.2) ∧ ER P ρ m.1.toList es'.toList ∧ r < 4096 ∧ rdO S r = some (.inr (.map m.1 m.2)) := by
  obtain ⟨o, h1, h2⟩ := ob_some.1 hm
  match o, h2 with
  | .inr (.map es clock), h2 =>
    cases h2
    obtain ⟨p, hp, es', h3, h4⟩ := h.at_ r _ (ov_of h1) rfl
    exact ⟨p, es', hp, h3, h4, rdO_lt h1, h1⟩
theorem ER_length {P : Program} : ∀ {l c : List MapEntry}, ER P ρ l c → c.length = l.length
  | [], _, h => by cases h; rfl
  | _ :: l, _, ⟨e', m, e, _, _, _, _, h⟩ => by subst e; simp [ER_length h]
theorem run_getMap {P : Program} {r clock : Nat} {es : Array MapEntry} (h : w.heap[r]? = some (.map es clock)) : (getObj r).run P w = .ok (.map es clock) w := by simp [getObj, Sem.run, h]
/-- The builtins, each by the value that it hands back. -/
theorem divW (m : Nat) : Nat.div m 65536 = m / 65536 := rfl
theorem modW (m : Nat) : Nat.mod m 65536 = m % 65536 := rfl
theorem ivl_some {c : Option Nat} {m : Nat} (h : ivl c = some m) : c = some (m + 1) := by
  match c, h with
  | some (k + 1), h => cases h; rfl
theorem ivB_spec {P : Program} {ρ : Ren} {b : Builtin} {ts : Array TypeId} {ty : TypeId} {cs : Array Bool} {l l' : List Value} {v : Value} (h : ivB b l = some v) (hl : VRL P ρ l l') :
    ∃ v', (builtin b ts ty cs l'.toArray).run P w = .ok (.value v') w ∧ VR P ρ v v' := by
  unfold ivB at h
  split at h
  · rename_i c n
    obtain ⟨m, h1, h⟩ := ob_some.1 h
    have h1 := ivl_some h1
    subst h1
    obtain ⟨h2, h⟩ := cond_some.1 h
    have h2 := ble_iff.1 h2
    rw [modW] at h2
    cases h
    obtain ⟨u, r, rfl, hu, u2, r2, rfl, hu2, hr⟩ := hl
    simp only [VR] at hu hu2
    cases hr
    obtain ⟨k, rfl, k1, k2⟩ := hu
    subst hu2
    refine ⟨.int .i64 (.ofNat k), ?_, by simp only [VR]; exact ⟨k, rfl, k1, k2⟩⟩
    simp [builtin, Builtin.max_, Builtin.max2]
    omega
  · rename_i c n
    obtain ⟨m, h1, h⟩ := ob_some.1 h
    have h1 := ivl_some h1
    subst h1
    obtain ⟨h2, h⟩ := cond_some.1 h
    have h2 := ble_iff.1 h2
    rw [divW] at h2
    cases h
    obtain ⟨u, r, rfl, hu, u2, r2, rfl, hu2, hr⟩ := hl
    simp only [VR] at hu hu2
    cases hr
    obtain ⟨k, rfl, k1, k2⟩ := hu
    subst hu2
    refine ⟨.int .i64 (.ofNat k), ?_, by simp only [VR]; exact ⟨k, rfl, k1, k2⟩⟩
    simp [builtin, Builtin.min_, Builtin.min2]
    omega
  · cases h
theorem ivC_spec {P : Program} {ρ : Ren} {op : BinOp} {t : TypeId} {x y : Operand} {a b a' b' : Value} {r : Bool} (h : ivC op a b = some r) (ha : VR P ρ a a') (hb : VR P ρ b b') :
    (do eqGuard op t x y a' b'; binOp op t a' b').run P w = .ok (.bool r) w := by
  unfold ivC at h
  split at h
  · rename_i c n
    obtain ⟨m, h1, h⟩ := ob_some.1 h
    have h1 := ivl_some h1
    subst h1
    simp only [VR] at ha hb
    obtain ⟨k, rfl, k1, k2⟩ := ha
    subst hb
    suffices hs : fast op (.int .i64 (.ofNat k)) (.int .i64 (.ofNat n)) = some (.bool r) from (fast_spec hs).1
    simp only [divW, modW] at h
    have cc : ∀ {p q : Bool}, cond p (some true) (cond q (some false) none) = some r → (p = true ∧ r = true) ∨ (q = true ∧ r = false) := by
      intro p q hh
      cases p <;> cases q <;> simp_all
    have bt : ∀ {p q : Nat}, p < q → Nat.blt p q = true := fun hh => blt_iff.2 hh
    have bl : ∀ {p q : Nat}, p ≤ q → Nat.ble p q = true := fun hh => ble_iff.2 hh
    have nbt : ∀ {p q : Nat}, q ≤ p → Nat.blt p q = false := fun hh => by
      cases hc : Nat.blt _ _ with
      | false => rfl
      | true => have := blt_iff.1 hc; omega
    have nbl : ∀ {p q : Nat}, q < p → Nat.ble p q = false := fun hh => by
      cases hc : Nat.ble _ _ with
      | false => rfl
      | true => have := ble_iff.1 hc; omega
    split at h
    · rcases cc h with ⟨g, rfl⟩ | ⟨g, rfl⟩
      · have := blt_iff.1 g
        show some (Value.bool (Nat.blt k n)) = _; rw [bt (by omega)]
      · have := ble_iff.1 g
        show some (Value.bool (Nat.blt k n)) = _; rw [nbt (by omega)]
    · rcases cc h with ⟨g, rfl⟩ | ⟨g, rfl⟩
      · have := ble_iff.1 g
        show some (Value.bool (Nat.ble k n)) = _; rw [bl (by omega)]
      · have := blt_iff.1 g
        show some (Value.bool (Nat.ble k n)) = _; rw [nbl (by omega)]
    · rcases cc h with ⟨g, rfl⟩ | ⟨g, rfl⟩
      · have := blt_iff.1 g
        show some (Value.bool (Nat.blt n k)) = _; rw [bt (by omega)]
      · have := ble_iff.1 g
        show some (Value.bool (Nat.blt n k)) = _; rw [nbt (by omega)]
    · rcases cc h with ⟨g, rfl⟩ | ⟨g, rfl⟩
      · have := ble_iff.1 g
        show some (Value.bool (Nat.ble n k)) = _; rw [bl (by omega)]
      · have := blt_iff.1 g
        show some (Value.bool (Nat.ble n k)) = _; rw [nbl (by omega)]
    · cases h
  · cases h
theorem builtin_spec (hE : EnvOk E) {b : Builtin} {ts : Array TypeId} {ty : TypeId} {cs : Array Bool} {args : Arg (List Value)} {τ : Tmps} {q : Value × St} {l' : List Value} (h : GS E.P B ρ S V w) (hq : (cBuiltin E b ts ty cs args).f τ S = some q)
    (hf : S.nx < q.2.nx → ρ S.nx = none) (hB : B ≤ w.heap.size) (ha : ∀ l, args.f τ = some l → VRL E.P ρ l l') :
    Ok1 E.P B ρ S V w (builtin b ts ty cs l'.toArray) (fun ρ' x => ∃ v', x = .value v' ∧ VR E.P ρ' q.1 v') q.2 := by
  have lift : ∀ {s : Sem Value} {v : Value} {S1 : St}, OkV E.P B ρ S V w s v S1 → Ok1 E.P B ρ S V w (do pure (Next.value (← s))) (fun ρ' x => ∃ v', x = .value v' ∧ VR E.P ρ' v v') S1 := by
    intro s v S1 ⟨ρ', w', v', a, b, c, d⟩
    exact ⟨ρ', w', .value v', by simp [a], ⟨v', rfl, b⟩, c, d⟩
  unfold cBuiltin at hq
  split at hq
  · rename_i elem hu0
    obtain ⟨t, d, h0, hd, hu'⟩ := undOf_spec hE hu0
    split at hq
    · rename_i ue size z bytes xt hde hux
      obtain ⟨xtt, dx, h1, hdx, hux'⟩ := undOf_spec hE hux
      cases hc : (isInt xt || !(Nat.beq z.cells.size size)) <;> rw [hc] at hq
      · simp only [Bool.or_eq_false_iff, Bool.not_eq_false'] at hc
        obtain ⟨l, a1, hq⟩ := ob_some.1 hq
        have hl := ha l a1
        split at hq
        · rename_i s x
          obtain ⟨s', m, e1, b1, h2⟩ := hl
          obtain ⟨x', m2, e2, b2, e3⟩ := h2
          subst e3; subst e2; subst e1
          exact lift (append_spec hE h h0 h1 hd hu' hde rfl (Nat.eq_of_beq_eq_true hc.2) hdx (by rw [hux']; exact hc.1) hq b1 b2 hf hB)
        · cases hq
      · cases hq
    · cases hq
  · rename_i elem hu0
    obtain ⟨t, d, h0, hd, hu'⟩ := undOf_spec hE hu0
    split at hq
    · rename_i de hde
      obtain ⟨l, a1, hq⟩ := ob_some.1 hq
      have hl := ha l a1
      split at hq
      · rename_i s x
        obtain ⟨s', m, e1, b1, h2⟩ := hl
        obtain ⟨x', m2, e2, b2, e3⟩ := h2
        subst e3; subst e2; subst e1
        exact lift (copy_spec hE h h0 hd hu' hde hq b1 b2)
      · cases hq
    · cases hq
  · rename_i elem hu0
    obtain ⟨t, d, h0, hd, hu'⟩ := undOf_spec hE hu0
    obtain ⟨i, hi0, hu, _, _, _⟩ := hE.ty t _ hd
    have hut : E.P.underlying t = some (.slice elem) := by rw [hu, hu']
    split at hq
    · rename_i ue size z bytes hde
      cases hc : (Nat.beq z.cells.size size && Nat.blt 0 size) <;> rw [hc] at hq
      · cases hq
      · simp only [Bool.and_eq_true] at hc
        obtain ⟨l, a1, hq⟩ := ob_some.1 hq
        have hl := ha l a1
        match l, hl, hq with
        | [.slice none n cap], hl, hq =>
          cases hq
          obtain ⟨s', m, e1, b1, e3⟩ := hl
          subst e3; subst e1
          simp only [VR] at b1
          subst b1
          exact lift (OkV.same h (v' := .tuple #[]) (by simp [Builtin.clear_, h0, run_underlying hut]) vtuple)
        | [.slice (some a) 0 cap], hl, hq =>
          cases hq
          obtain ⟨s', m, e1, b1, e3⟩ := hl
          subst e3; subst e1
          have hc0 : ∃ a' cap', s' = .slice (some a') 0 cap' := by
            obtain ⟨r, off, sp⟩ := a
            match sp, b1 with
            | none, b1 => simp only [VR] at b1; obtain ⟨p, _, rfl⟩ := b1; exact ⟨_, _, rfl⟩
            | some 0, b1 => simp only [VR] at b1; obtain ⟨_, p, c', _, _, _, rfl⟩ := b1; exact ⟨_, _, rfl⟩
            | some (k + 1), b1 => simp only [VR] at b1; obtain ⟨_, _, a, c', rfl⟩ := b1; exact ⟨_, _, rfl⟩
          obtain ⟨a', cap', rfl⟩ := hc0
          exact lift (OkV.same h (v' := .tuple #[]) (by simp [Builtin.clear_, h0, run_underlying hut]) vtuple)
        | [.slice (some ⟨r, off, none⟩) (n + 1) cap], hl, hq =>
          obtain ⟨S1, k1, hq⟩ := ob_some.1 hq
          cases hq
          obtain ⟨s', m, e1, b1, e3⟩ := hl
          subst e3; subst e1
          exact lift (clear_spec hE h h0 hd hu' hde rfl (Nat.eq_of_beq_eq_true hc.1) (blt_iff.1 hc.2) (by simp) (by simp) k1 b1)
        | [.slice (some ⟨r, off, some 0⟩) (n + 1) cap], hl, hq =>
          obtain ⟨S1, k1, hq⟩ := ob_some.1 hq
          cases hq
          obtain ⟨s', m, e1, b1, e3⟩ := hl
          subst e3; subst e1
          exact lift (clear_spec hE h h0 hd hu' hde rfl (Nat.eq_of_beq_eq_true hc.1) (blt_iff.1 hc.2) (by simp) (by simp) k1 b1)
        | [.slice (some ⟨r, off, some (k + 1)⟩) (n + 1) cap], hl, hq => cases hq
    · cases hq
  · rename_i elem hu0
    obtain ⟨t, d, h0, hd, hu'⟩ := undOf_spec hE hu0
    obtain ⟨i, hi0, hu, _, _, _⟩ := hE.ty t _ hd
    have hut : E.P.underlying t = some (.slice elem) := by rw [hu, hu']
    obtain ⟨l, a1, hq⟩ := ob_some.1 hq
    have hl := ha l a1
    split at hq
    · rename_i a n cap
      cases hq
      obtain ⟨s', m, e1, b1, e3⟩ := hl
      subst e3; subst e1
      have hc0 : ∃ a' cap', s' = .slice a' n cap' := by
        match a, b1 with
        | none, b1 => simp only [VR] at b1; subst b1; exact ⟨_, _, rfl⟩
        | some ⟨r, off, none⟩, b1 => simp only [VR] at b1; obtain ⟨p, _, rfl⟩ := b1; exact ⟨_, _, rfl⟩
        | some ⟨r, off, some 0⟩, b1 => simp only [VR] at b1; obtain ⟨_, p, c', _, _, _, rfl⟩ := b1; exact ⟨_, _, rfl⟩
        | some ⟨r, off, some (k + 1)⟩, b1 => simp only [VR] at b1; obtain ⟨rfl, _, a, c', rfl⟩ := b1; exact ⟨_, _, rfl⟩
      obtain ⟨a', cap', rfl⟩ := hc0
      exact lift (OkV.same h (v' := goInt n) (by simp [Builtin.len_, h0, run_underlying hut]) (by simp [VR, goInt]))
    · cases hq
  · rename_i key elem hu0
    obtain ⟨t, d, h0, hd, hu'⟩ := undOf_spec hE hu0
    obtain ⟨i, hi0, hu, _, _, _⟩ := hE.ty t _ hd
    have hut : E.P.underlying t = some (.map key elem) := by rw [hu, hu']
    obtain ⟨l, a1, hq⟩ := ob_some.1 hq
    have hl := ha l a1
    split at hq
    · rename_i r
      obtain ⟨m, k1, hq⟩ := ob_some.1 hq
      cases hq
      obtain ⟨s', m', e1, b1, e3⟩ := hl
      subst e3; subst e1
      simp only [VR] at b1
      obtain ⟨p, hp, rfl⟩ := b1
      obtain ⟨p', es', hp', h3, h4, _, _⟩ := mapOf_spec h k1
      rw [hp] at hp'; cases hp'
      have hsz : es'.size = m.1.size := by simpa using ER_length h4
      exact lift (OkV.same h (v' := goInt m.1.size) (by simp [Builtin.len_, h0, run_underlying hut, run_getMap h3, hsz]) (by simp [VR, goInt]))
    · cases hq
      obtain ⟨s', m', e1, b1, e3⟩ := hl
      subst e3; subst e1
      simp only [VR] at b1
      subst b1
      exact lift (OkV.same h (v' := goInt 0) (by simp [Builtin.len_, h0, run_underlying hut]) (by simp [VR, goInt]))
    · cases hq
  · rename_i b b2 u0 e1 e2 e3 e4 e5
    cases hc : okB b <;> rw [hc] at hq
    · cases hq
    · obtain ⟨l, a1, hq⟩ := ob_some.1 hq
      have hl := ha l a1
      cases k1 : l.all flat <;> rw [k1] at hq
      · obtain ⟨v, k2, hq⟩ := ob_some.1 (show ob (ivB b l) (fun v => some (v, S)) = some q from hq)
        cases hq
        obtain ⟨v', k3, k4⟩ := ivB_spec (w := w) (ts := ts) (ty := ty) (cs := cs) k2 hl
        exact ⟨ρ, w, .value v', k3, ⟨v', rfl, k4⟩, h, Nx.refl _ _ _ _⟩
      · have := (VRL_flat 8 _ _ k1).1 hl
        subst this
        obtain ⟨x, k2, hq⟩ := ob_some.1 (show ob _ _ = some q from hq)
        cases x with
        | value v =>
          obtain ⟨k3, hq⟩ := iff_some.1 (show iff' (flat v) (some (v, S)) = some q from hq)
          cases hq
          exact ⟨ρ, w, .value v, pureB (w := w) k2, ⟨v, rfl, (VR_flat 8 _ _ k3).2 rfl⟩, h, Nx.refl _ _ _ _⟩
        | _ => cases hq
/-! ### Maps -/
theorem findNow_ER {P : Program} {kind : TypeDesc} {k : Value} : ∀ {l c : List MapEntry} (h : ER P ρ l c) (i : Nat), (Instr.findNow kind k l i = none ∧ Instr.findNow kind k c i = none) ∨ (Instr.findNow kind k l i = some none ∧ Instr.findNow kind k c i = some none) ∨
    ∃ j v v', Instr.findNow kind k l i = some (some (j, v)) ∧ Instr.findNow kind k c i = some (some (j, v')) ∧ VR P ρ v v'
  | [], _, h, i => by cases h; exact .inr (.inl ⟨rfl, rfl⟩)
  | e :: l, _, ⟨e', m, he, h1, h2, h3, h4, h5⟩, i => by
    subst he
    simp only [Instr.findNow, h2]
    cases Instr.sameNow kind k e.key with
    | none => exact .inl ⟨rfl, rfl⟩
    | some b =>
      cases b
      · exact findNow_ER h5 (i + 1)
      · exact .inr (.inr ⟨i, _, _, rfl, rfl, h4⟩)
theorem pureOf_bind {α β : Type} {P : Program} : ∀ (s : Sem α) (f : α → Sem β) (y : β), pureOf P (s >>= f) = some y → ∃ a, pureOf P s = some a ∧ pureOf P (f a) = some y
  | .pure a, f, y, h => ⟨a, rfl, h⟩
  | .program k, f, y, h => pureOf_bind (k P) f y h
  | .mark m k, f, y, h => pureOf_bind k f y h
  | .load .., _, _, h => by cases h
  | .store .., _, _, h => by cases h
  | .new .., _, _, h => by cases h
  | .shape .., _, _, h => by cases h
  | .freeze .., _, _, h => by cases h
  | .frozen .., _, _, h => by cases h
  | .getObj .., _, _, h => by cases h
  | .setObj .., _, _, h => by cases h
  | .choose .., _, _, h => by cases h
  | .sys .., _, _, h => by cases h
  | .halt .., _, _, h => by cases h
theorem findAsking_ER {P : Program} {key : TypeId} {k : Value} : ∀ {l c : List MapEntry} (h : ER P ρ l c) (i : Nat) {f : Option (Nat × Value)}, pureOf P (Instr.findAsking key k l i) = some f →
    (f = none ∧ (Instr.findAsking key k c i).run P w = .ok none w) ∨ ∃ j v v', f = some (j, v) ∧ (Instr.findAsking key k c i).run P w = .ok (some (j, v')) w ∧ VR P ρ v v'
  | [], _, h, i, f, hf => by cases h; cases hf; exact .inl ⟨rfl, rfl⟩
  | e :: l, _, ⟨e', m, he, h1, h2, h3, h4, h5⟩, i, f, hf => by
    subst he
    unfold Instr.findAsking at hf ⊢
    obtain ⟨b, g1, hf⟩ := pureOf_bind _ _ _ hf
    have g2 := pureOf_run (w := w) _ _ g1
    rw [h2, Sem.run_bind, g2]
    cases b
    · exact findAsking_ER h5 (i + 1) hf
    · cases hf
      exact .inr ⟨i, _, _, rfl, rfl, h4⟩
end
end Go.Proofs.YtemldmjpanmdbaaGreatDoor.Ev
