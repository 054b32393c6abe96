import Derived.Test.YtemldmjpanmdbaaGreatDoorP13
set_option linter.unusedVariables false
namespace Go.Proofs.YtemldmjpanmdbaaGreatDoor.Ev
open Go.RowKit
section
variable {E : Env} {ρ ρ' : Ren} {B : Nat} {w w' : World} {S S' : St} {V : Hp}
theorem opdo_OO {P : Program} {x : Option Operand} {τ : Tmps} {a : Act} (h : TRel E.P ρ τ a) : ∀ v, (opdo E x).f τ = some v → OO E.P ρ v (x.map a.eval) := by
  intro v hv
  rcases opdo_spec h hv with ⟨rfl, rfl⟩ | ⟨y, u, rfl, rfl, h1⟩
  · exact .inl ⟨rfl, rfl⟩
  · exact .inr ⟨u, _, rfl, rfl, h1⟩
theorem next_none {P : Program} {b s k0 k1 : Nat} {k2 : Array Nat} {t : TypeId} (hs : s = 0) (h : w.heap[b]? = some (.mapIter none k0 k2 k1)) :
    (Instr.next (.pointer (some ⟨b, s + 0, none⟩)) false t).run P w = .ok (.tuple #[.bool false]) w := by
  subst hs
  simp [Instr.next, getObj, Sem.run, h, Result.andThen]
theorem next_empty {P : Program} {b s m k0 k1 clock : Nat} {k2 : Array Nat} {t : TypeId} (hs : s = 0) (h : w.heap[b]? = some (.mapIter (some m) k0 k2 k1)) (hm : w.heap[m]? = some (.map #[] clock)) :
    (Instr.next (.pointer (some ⟨b, s + 0, none⟩)) false t).run P w = .ok (.tuple #[.bool false]) w := by
  subst hs
  simp [Instr.next, getObj, Sem.run, h, hm, Result.andThen, choose, Question.forced]
set_option maxHeartbeats 1000000 in
theorem oper_spec (hE : EnvOk E) {o : Oper} {K : CallF} {Y : YieldF} {τ : Tmps} {a : Act} {q : Value × St} (hq : (cOper E o).f K Y τ S = some q) (h : GS E.P B ρ S V w) (ht : TRel E.P ρ τ a)
    (hf : S.nx < q.2.nx → ρ S.nx = none) (hB : B ≤ w.heap.size) (hnc : ∀ c, o.op = .call c → ∃ b, c.callee = .builtin b) : Ok1 E.P B ρ S V w (execOp a.eval o) (OpR E.P q.1) q.2 := by
  obtain ⟨dst, op, type, pos, after, guard⟩ := o
  have opd' : ∀ {x : Operand} {v : Value}, (opd E x).f τ = some v → VR E.P ρ v (a.eval x) := fun hx => opd_spec ht hx
  cases op with
  | move x =>
    obtain ⟨u, h1, rfl⟩ := val_some (show val ((opd E x).f τ) S = some q from hq)
    exact okV_pure h (opd' h1)
  | assign x =>
    obtain ⟨u, h1, rfl⟩ := val_some (show val ((opd E x).f τ) S = some q from hq)
    exact okV_pure h (opd' h1)
  | pick c x y =>
    obtain ⟨u, h1, hq⟩ := ob_some.1 (show ob ((opd E c).f τ) _ = some q from hq)
    cases u with
    | bool t =>
      have hb := opd' h1
      simp only [VR] at hb
      cases t
      · obtain ⟨u, h2, rfl⟩ := val_some (show val ((opd E y).f τ) S = some q from hq)
        exact ⟨ρ, w, .value (a.eval y), by simp [execOp, hb, asBool], .inl ⟨_, rfl, opd' h2⟩, h, Nx.refl _ _ _ _⟩
      · obtain ⟨u, h2, rfl⟩ := val_some (show val ((opd E x).f τ) S = some q from hq)
        exact ⟨ρ, w, .value (a.eval x), by simp [execOp, hb, asBool], .inl ⟨_, rfl, opd' h2⟩, h, Nx.refl _ _ _ _⟩
    | _ => cases hq
  | alloc t =>
    simp only [cOper] at hq
    split at hq
    · rename_i d u0 sz z bz hd
      obtain ⟨i, hi, hu, hs, _, hz⟩ := hE.ty t _ hd
      obtain ⟨hz1, hz2⟩ := hz z rfl
      obtain ⟨p, h1, hq⟩ := ob_some.1 hq
      cases hq
      obtain ⟨ρ', w', ad, r1, r2, r3, r4⟩ := var_spec h h1 (flat_VR hz2) (hf (newRow_nx' h1)) hB
      exact lift ⟨ρ', w', .pointer (some ad), by simp [Instr.alloc, run_zero hi hz1, r1], r2, r3, r4⟩
    · cases hq
  | box t x =>
    obtain ⟨z, h0, hq⟩ := ob_some.1 (show ob ((opd E x).f τ) _ = some q from hq)
    obtain ⟨p, h1, hq⟩ := ob_some.1 hq
    cases hq
    obtain ⟨ρ', w', ad, r1, r2, r3, r4⟩ := var_spec h h1 (opd' h0) (hf (newRow_nx' h1)) hB
    exact lift ⟨ρ', w', .pointer (some ad), by simp [Instr.box, r1], r2, r3, r4⟩
  | build t ps =>
    refine lift (build_spec hE h hq fun l hl => ?_)
    have := opdp_spec ht hl
    refine ⟨?_, this.2⟩
    simpa using this.1
  | buildSlice t n ps =>
    refine lift (buildSlice_spec hE h hq hf hB fun l hl => ?_)
    have := opdp_spec ht hl
    refine ⟨?_, this.2⟩
    simpa using this.1
  | load t x => exact lift (load_spec hE h hq fun v hv => opd' hv)
  | store t x y =>
    obtain ⟨h1, h2⟩ := store_spec hE h hq (fun v hv => opd' hv) (fun v hv => opd' hv)
    rw [h1]
    exact liftU h2
  | nilCheck x =>
    obtain ⟨v, h0, hq⟩ := ob_some.1 (show ob ((opd E x).f τ) _ = some q from hq)
    have hv := opd' h0
    match v, hv, hq with
    | .pointer (some ad), hv, hq =>
      cases hq
      have hv' := hv
      simp only [VR] at hv
      obtain ⟨p, hp, _, hc⟩ := hv
      exact ⟨ρ, w, .value (a.eval x), by simp [execOp, hc], .inl ⟨_, rfl, hv'⟩, h, Nx.refl _ _ _ _⟩
    | .func (.func f) c d, hv, hq =>
      cases hq
      have hv' := hv
      simp only [VR] at hv
      obtain ⟨f', c', hc, _, _⟩ := hv
      exact ⟨ρ, w, .value (a.eval x), by simp [execOp, hc], .inl ⟨_, rfl, hv'⟩, h, Nx.refl _ _ _ _⟩
    | .func (.yield f) c d, hv, hq =>
      cases hq
      have hv' := hv
      simp only [VR] at hv
      obtain ⟨_, _, p, _, hc⟩ := hv
      exact ⟨ρ, w, .value (a.eval x), by simp [execOp, hc], .inl ⟨_, rfl, hv'⟩, h, Nx.refl _ _ _ _⟩
  | binOp op t x y yt =>
    obtain ⟨u, h1, hq⟩ := ob_some.1 (show ob ((opd E x).f τ) _ = some q from hq)
    obtain ⟨v, h2, hq⟩ := ob_some.1 hq
    obtain ⟨r, h3, hq⟩ := ob_some.1 hq
    cases hq
    have hu := opd' h1
    have hv := opd' h2
    rcases orElse_some h3 with h3 | ⟨_, h3⟩
    · obtain ⟨k1, x1, k2, y1, e1, e2⟩ : ∃ k x1 k' y1, u = .int k x1 ∧ v = .int k' y1 := by
        cases op with
        | andNot => cases (show (none : Option Value) = some r from h3)
        | _ => obtain ⟨k, x1, k', y1, e1, e2, _⟩ := fast_two h3; exact ⟨k, _, k', _, e1, e2⟩
      subst e1; subst e2
      simp only [VR] at hu hv
      obtain ⟨r1, bb, kk, nn, mm, r2, _⟩ := fast_spec (P := E.P) (w := w) (t := t) (x := x) (y := y) h3
      refine lift (OkV.same h (v' := r) ?_ ?_)
      · rw [hu, hv]; exact r1
      · rcases r2 with rfl | rfl <;> simp [VR]
    · cases hc : (flat u && flat v) <;> rw [hc] at h3
      · cases op with
        | eql =>
          obtain ⟨d, k1, h3⟩ := ob_some.1 (show ob (E.dg t) _ = some r from h3)
          obtain ⟨b, k2, h3⟩ := ob_some.1 h3
          cases h3
          obtain ⟨rfl, r1, r2⟩ := aNil_spec (w := w) hE k1 k2 hu hv
          refine lift (OkV.same h (v' := .bool false) ?_ (by simp [VR]))
          simp [(r2 .eql x y).1, (r2 .eql x y).2.1, r1]
        | neq =>
          obtain ⟨d, k1, h3⟩ := ob_some.1 (show ob (E.dg t) _ = some r from h3)
          obtain ⟨b, k2, h3⟩ := ob_some.1 h3
          cases h3
          obtain ⟨rfl, r1, r2⟩ := aNil_spec (w := w) hE k1 k2 hu hv
          refine lift (OkV.same h (v' := .bool true) ?_ (by simp [VR]))
          simp [(r2 .neq x y).1, (r2 .neq x y).2.2, r1]
        | _ =>
          obtain ⟨b, k1, h3⟩ := ob_some.1 (show ob (ivC _ u v) _ = some r from h3)
          cases h3
          exact lift (OkV.same h (v' := .bool b) (ivC_spec k1 hu hv) (by simp [VR]))
      · simp only [Bool.and_eq_true] at hc
        obtain ⟨z, k1, h3⟩ := ob_some.1 (show ob (pureOf E.P (do eqGuard op t x y u v; binOp op t u v)) _ = some r from h3)
        obtain ⟨k2, h3⟩ := iff_some.1 h3
        cases h3
        refine lift (OkV.same h (v' := r) ?_ (flat_VR k2))
        rw [flat_eq hc.1 hu, flat_eq hc.2 hv]
        exact pureOf_run _ _ k1
  | unOp op t x =>
    obtain ⟨u, h1, hq⟩ := ob_some.1 (show ob ((opd E x).f τ) _ = some q from hq)
    obtain ⟨h2, hq⟩ := iff_some.1 hq
    obtain ⟨v, h3, hq⟩ := ob_some.1 hq
    obtain ⟨h4, hq⟩ := iff_some.1 hq
    cases hq
    refine lift (OkV.same h (v' := v) ?_ (flat_VR h4))
    rw [flat_eq h2 (opd' h1)]
    exact pureOf_run _ _ h3
  | convert s d x =>
    simp only [cOper] at hq
    split at hq
    · rename_i o1 o2 k0 z0 z1 z2 k' z3 z4 z5 hs hd
      obtain ⟨is, _, hus, _, _, _⟩ := hE.ty s _ hs
      obtain ⟨id, _, hud, _, _, _⟩ := hE.ty d _ hd
      obtain ⟨u, h1, hq⟩ := ob_some.1 hq
      obtain ⟨v, h2, hq⟩ := ob_some.1 hq
      cases hq
      rcases orElse_some h2 with h2 | ⟨_, h2⟩
      · obtain ⟨k, n, rfl, h2⟩ := nn_some h2
        obtain ⟨h3, rfl⟩ := fit_some h2
        have hx := VR_int (opd' h1)
        refine lift (OkV.same h (v' := .int k' n) ?_ (by simp [VR]))
        simp [hx, convert, run_underlying hus, run_underlying hud, Conv.intToInt, wrap_fit k' n h3]
      · cases u with
        | int k n =>
          obtain ⟨z, h3, h2⟩ := ob_some.1 h2
          obtain ⟨h4, h2⟩ := iff_some.1 h2
          cases h2
          have hx := VR_int (opd' h1)
          refine lift (OkV.same h (v' := v) ?_ (flat_VR h4))
          have := pureOf_run (w := w) _ _ h3
          simp [hx, convert, run_underlying hus, run_underlying hud, this]
        | _ => cases h2
    · cases hq
  | makeFunc fn first captured =>
    cases fn with
    | func f =>
      obtain ⟨x, h1, hq⟩ := ob_some.1 (show ob ((opds E first.toList).f τ) _ = some q from hq)
      obtain ⟨y, h2, hq⟩ := ob_some.1 hq
      cases hq
      refine lift (OkV.same h (v' := .func (.func f) (first.map a.eval) (captured.map a.eval)) (by simp [Instr.makeFunc]) ?_)
      simp only [VR]
      exact ⟨_, _, rfl, VRA_iff.2 (by simpa using opds_spec ht h1), VRA_iff.2 (by simpa using opds_spec ht h2)⟩
    | _ => cases hq
  | makeMap t r =>
    cases r with
    | none =>
      obtain ⟨p, h1, hq⟩ := ob_some.1 (show ob (newO S (.inr (.map #[] 0))) _ = some q from hq)
      cases hq
      obtain ⟨ρ', g1, g2, g3⟩ := h.newO (n := 0) (t := 0) h1 (hf (by show S.nx < p.2.nx; rw [(newO_spec h1).2.2.1]; omega)) hB (o' := .map #[] 0) fun ρ' hle => ⟨#[], get_alloc_new w _, rfl⟩
      exact lift ⟨ρ', _, .map (some w.heap.size), by simp [Instr.makeMap], by simp only [VR]; exact ⟨_, g1, rfl⟩, g2, g3⟩
    | some r => cases hq
  | makeSlice t l c =>
    simp only [cOper] at hq
    split at hq
    · rename_i elem z0 z1 z2 hd
      split at hq
      · rename_i u0 size z bytes hde
        cases hc : (Nat.beq z.cells.size size && Nat.blt 0 size) <;> rw [hc] at hq
        · cases hq
        · simp only [Bool.and_eq_true] at hc
          obtain ⟨lv, h1, hq⟩ := ob_some.1 hq
          obtain ⟨ln, h2, hq⟩ := ob_some.1 hq
          obtain ⟨cv, h3, hq⟩ := ob_some.1 hq
          obtain ⟨cn, h4, hq⟩ := ob_some.1 hq
          obtain ⟨h5, hq⟩ := iff_some.1 hq
          simp only [Bool.and_eq_true] at h5
          obtain ⟨p, h6, hq⟩ := ob_some.1 hq
          cases hq
          obtain ⟨k, rfl⟩ := toN_some h2
          obtain ⟨k', rfl⟩ := toN_some h4
          have e1 := VR_int (opd' h1)
          have e2 := VR_int (opd' h3)
          have := makeSlice_run hE (k := k) (k' := k') h hd rfl hde rfl (Nat.eq_of_beq_eq_true hc.1) (blt_iff.1 hc.2) (ble_iff.1 h5.1.1) (ble_iff.1 h5.1.2) (ble_iff.1 h5.2) h6 (hf (newRow_nx' h6)) hB
          refine lift ?_
          rw [e1, e2]
          exact this
      · cases hq
    · cases hq
  | slice t x lo hi mx => exact lift (slice_spec hE h hq (fun v hv => opd' hv) (opdo_OO (P := E.P) ht) (opdo_OO (P := E.P) ht) (opdo_OO (P := E.P) ht))
  | fieldAddr s x f =>
    simp only [cOper] at hq
    split at hq
    · rename_i fs z0 z1 z2 hd
      obtain ⟨i, hi, hu, _, _, _⟩ := hE.ty s _ hd
      split at hq
      · rename_i fl hfl
        split at hq
        · rename_i d hdf
          obtain ⟨ie, hie, _, hse, _, _⟩ := hE.ty _ _ hdf
          cases hc : Nat.blt 0 d.size <;> rw [hc] at hq
          · cases hq
          · have hc : 0 < d.size := blt_iff.1 hc
            obtain ⟨u, h1, hq⟩ := ob_some.1 hq
            obtain ⟨ad, h2, hq⟩ := ob_some.1 hq
            cases hq
            obtain ⟨p, hp, hx⟩ := VR_ptr h2 (opd' h1)
            refine lift (OkV.same h (v' := .pointer (some ⟨p.b, p.s + (ad.off + fl.offset), none⟩)) ?_ (by simp only [VR]; exact ⟨p, hp, trivial, rfl⟩))
            have h0 : ie.size ≠ 0 := by omega
            rw [hx]
            simp [Instr.fieldAt, run_underlying hu, hfl, Instr.sureAddr, fieldPlace, run_sizeOf hie, h0, Addr.add_lit, Nat.add_assoc]
        · cases hq
      · cases hq
    · cases hq
  | field t x f =>
    simp only [cOper] at hq
    split at hq
    · rename_i fs z0 z1 z2 hd
      obtain ⟨i, hi, hu, _, _, _⟩ := hE.ty t _ hd
      split at hq
      · rename_i fl hfl
        split at hq
        · rename_i d hdf
          obtain ⟨u, h1, hq⟩ := ob_some.1 hq
          cases u with
          | agg cs =>
            obtain ⟨v, h2, rfl⟩ := val_some (show val (Ev.part d cs fl.offset) S = some q from hq)
            have hx := opd' h1
            simp only [VR] at hx
            obtain ⟨cs', hx, h3⟩ := hx
            obtain ⟨v', r1, r2⟩ := part_spec (w := w) hE hdf h2 (VRA_iff.1 h3)
            refine lift (OkV.same h (v' := v') ?_ r2)
            rw [hx]
            simp [Instr.field, run_underlying hu, hfl, asAgg, r1]
          | _ => cases hq
        · cases hq
      · cases hq
    · cases hq
  | indexAddr t x i =>
    simp only [cOper] at hq
    split at hq
    · rename_i len elem z0 z1 z2 hd
      obtain ⟨it, hi, hu, _, _, _⟩ := hE.ty t _ hd
      split at hq
      · rename_i d hde
        obtain ⟨ie, hie, _, hse, _, _⟩ := hE.ty _ _ hde
        obtain ⟨u, h1, hq⟩ := ob_some.1 hq
        obtain ⟨ad, h2, hq⟩ := ob_some.1 hq
        obtain ⟨iv, h3, hq⟩ := ob_some.1 hq
        obtain ⟨n, h4, hq⟩ := ob_some.1 hq
        obtain ⟨h5, hq⟩ := iff_some.1 hq
        cases hq
        have h5 : n < len := blt_iff.1 h5
        obtain ⟨k, rfl⟩ := toN_some h4
        have e1 := VR_int (opd' h3)
        obtain ⟨p, hp, hx⟩ := VR_ptr h2 (opd' h1)
        refine lift (OkV.same h (v' := .pointer (some ⟨p.b, p.s + (ad.off + n * d.size), none⟩)) ?_ (by simp only [VR]; exact ⟨p, hp, trivial, rfl⟩))
        rw [hx, e1]
        simp [Instr.indexAt, run_underlying hu, asIntOf, Instr.sureAddr, h5, run_sizeOf hie, hse, Addr.add_lit, Nat.add_assoc]
      · cases hq
    · rename_i elem z0 z1 z2 hd
      obtain ⟨it, hi, hu, _, _, _⟩ := hE.ty t _ hd
      split at hq
      · rename_i d hde
        obtain ⟨ie, hie, _, hse, _, _⟩ := hE.ty _ _ hde
        obtain ⟨u, h1, hq⟩ := ob_some.1 hq
        obtain ⟨iv, h3, hq⟩ := ob_some.1 hq
        obtain ⟨n, h4, hq⟩ := ob_some.1 hq
        obtain ⟨k, rfl⟩ := toN_some h4
        have e1 := VR_int (opd' h3)
        have hx := opd' h1
        match u, hx, hq with
        | .slice (some ⟨r, off, sp⟩) len cap, hx, hq =>
          obtain ⟨h5, hq⟩ := iff_some.1 hq
          cases hq
          have h5 : n < len := blt_iff.1 h5
          have hc : ∃ p cap', ρ r = some p ∧ a.eval x = .slice (some ⟨p.b, p.s + off, none⟩) len cap' := by
            match sp, hx with
            | none, hx => simp only [VR] at hx; obtain ⟨p, hp, hx⟩ := hx; exact ⟨p, _, hp, hx⟩
            | some 0, hx => simp only [VR] at hx; obtain ⟨_, p, c', hp, _, _, hx⟩ := hx; exact ⟨p, _, hp, hx⟩
            | some (k + 1), hx => simp only [VR] at hx; obtain ⟨h0, _⟩ := hx; omega
          obtain ⟨p, cap', hp, hx⟩ := hc
          refine lift (OkV.same h (v' := .pointer (some ⟨p.b, p.s + (off + n * d.size), none⟩)) ?_ (by simp only [VR]; exact ⟨p, hp, trivial, rfl⟩))
          rw [hx, e1]
          simp [Instr.indexAt, run_underlying hu, asIntOf, h5, run_sizeOf hie, hse, Addr.add_lit, Nat.add_assoc]
      · cases hq
    · cases hq
  | index t x i =>
    simp only [cOper] at hq
    split at hq
    · rename_i len elem z0 z1 z2 hd
      obtain ⟨it, hi, hu, _, _, _⟩ := hE.ty t _ hd
      split at hq
      · rename_i d hde
        obtain ⟨ie, hie, _, hse, _, _⟩ := hE.ty _ _ hde
        obtain ⟨u, h1, hq⟩ := ob_some.1 hq
        obtain ⟨iv, h3, hq⟩ := ob_some.1 hq
        obtain ⟨n, h4, hq⟩ := ob_some.1 hq
        obtain ⟨k, rfl⟩ := toN_some h4
        have e1 := VR_int (opd' h3)
        cases u with
        | agg cs =>
          obtain ⟨h5, hq⟩ := iff_some.1 (show iff' (Nat.blt n len) (val (Ev.part d cs (Nat.mul n d.size)) S) = some q from hq)
          have h5 : n < len := blt_iff.1 h5
          obtain ⟨v, h2, rfl⟩ := val_some hq
          have hx := opd' h1
          simp only [VR] at hx
          obtain ⟨cs', hx, h6⟩ := hx
          obtain ⟨v', r1, r2⟩ := part_spec (w := w) hE hde h2 (VRA_iff.1 h6)
          refine lift (OkV.same h (v' := v') ?_ r2)
          rw [hx, e1]
          have r1 : (Go.part elem cs' (n * d.size)).run E.P w = .ok v' w := r1
          simp [Instr.index, run_underlying hu, asIntOf, h5, run_sizeOf hie, hse, r1]
        | _ => cases hq
      · cases hq
    · cases hq
  | lookup t x k ok =>
    simp only [cOper] at hq
    split at hq
    · rename_i key elem z0 z1 z2 hd
      obtain ⟨it, hi, hu, _, _, _⟩ := hE.ty t _ hd
      split at hq
      · rename_i u0 size z bytes hde
        obtain ⟨ie, hie, _, hse, _, hz⟩ := hE.ty _ _ hde
        obtain ⟨hz1, hz2⟩ := hz z rfl
        obtain ⟨xv, h1, hq⟩ := ob_some.1 hq
        obtain ⟨kv, h2, hq⟩ := ob_some.1 hq
        obtain ⟨m, h3, hq⟩ := ob_some.1 hq
        obtain ⟨f, h4, hq⟩ := ob_some.1 hq
        have hx := opd' h1
        have hk := opd' h2
        -- what stands in the map
        have hm : ∃ es' : List MapEntry, ER E.P ρ m.1.toList es' ∧ ((a.eval x = .map none ∧ es' = []) ∨ ∃ b clock, a.eval x = .map (some b) ∧ w.heap[b]? = some (.map es'.toArray clock)) := by
          match xv, hx, h3 with
          | .map none, hx, h3 => cases h3; simp only [VR] at hx; exact ⟨[], rfl, .inl ⟨hx, rfl⟩⟩
          | .map (some r), hx, h3 =>
            simp only [VR] at hx
            obtain ⟨p, hp, hx⟩ := hx
            obtain ⟨p', es', hp', g3, g4, _, _⟩ := mapOf_spec h h3
            rw [hp] at hp'; cases hp'
            exact ⟨es'.toList, g4, .inr ⟨_, _, hx, by simpa using g3⟩⟩
        obtain ⟨es', he, hm⟩ := hm
        obtain ⟨k1, k2, k3⟩ := lookKey_spec (w := w) hE h4 he
        have hkk := flat_eq k1 hk
        have hemp : es'.isEmpty = m.1.isEmpty := by
          have h1 := ER_length he
          rw [Bool.eq_iff_iff, List.isEmpty_iff, Array.isEmpty_iff, ← List.length_eq_zero_iff, ← Array.size_eq_zero_iff]
          simp at h1
          rw [h1]
        have out : ∀ (v v' : Value) (bb : Bool), VR E.P ρ v v' → VR E.P ρ (cond ok (.tuple #[v, .bool bb]) v) (if ok then .tuple #[v', .bool bb] else v') := by
          intro v v' bb hv
          cases ok
          · exact hv
          · show VR E.P ρ (.tuple #[v, .bool bb]) (.tuple #[v', .bool bb])
            simp only [VR]
            exact ⟨_, rfl, VRA_iff.2 ⟨v', _, rfl, hv, _, _, rfl, by simp [VR], rfl⟩⟩
        rcases k3 with ⟨rfl, k4⟩ | ⟨i, v, v', rfl, k4, k5⟩
        · cases hq
          refine lift (OkV.same h (v' := if ok then .tuple #[z, .bool false] else z) ?_ (out z z false (flat_VR hz2)))
          rw [hkk]
          rcases hm with ⟨hx, rfl⟩ | ⟨b, clock, hx, hb⟩
          · have hemp : m.1.isEmpty = true := by rw [← hemp]; rfl
            rw [hemp] at k2
            rw [hx]
            simp [Instr.lookup, run_underlying hu, k2, k4, run_zero hie hz1]
          · rw [hx]
            rw [← hemp] at k2
            simp [Instr.lookup, run_underlying hu, run_getMap hb, k2, k4, run_zero hie hz1]
        · cases hq
          refine lift (OkV.same h (v' := if ok then .tuple #[v', .bool true] else v') ?_ (out v v' true k5))
          rw [hkk]
          rcases hm with ⟨hx, rfl⟩ | ⟨b, clock, hx, hb⟩
          · have hemp : m.1.isEmpty = true := by rw [← hemp]; rfl
            rw [hemp] at k2
            rw [hx]
            simp [Instr.lookup, run_underlying hu, k2, k4]
          · rw [hx]
            rw [← hemp] at k2
            simp [Instr.lookup, run_underlying hu, run_getMap hb, k2, k4]
      · cases hq
    · cases hq
  | mapUpdate t m k x =>
    simp only [cOper] at hq
    split at hq
    · rename_i key elem z0 z1 z2 hd
      obtain ⟨it, hi, hu, _, _, _⟩ := hE.ty t _ hd
      obtain ⟨mv, h1, hq⟩ := ob_some.1 hq
      obtain ⟨kv, h2, hq⟩ := ob_some.1 hq
      obtain ⟨xv, h3, hq⟩ := ob_some.1 hq
      have hm := opd' h1
      have hk := opd' h2
      have hx := opd' h3
      match mv, hm, hq with
      | .map (some r), hm, hq =>
        obtain ⟨ms, h4, hq⟩ := ob_some.1 hq
        obtain ⟨f, h5, hq⟩ := ob_some.1 hq
        simp only [VR] at hm
        obtain ⟨p, hp, hm⟩ := hm
        obtain ⟨p', es', hp', g3, g4, g5, g6⟩ := mapOf_spec h h4
        rw [hp] at hp'; cases hp'
        obtain ⟨k1, k2, k3⟩ := lookKey_spec (w := w) hE h5 g4
        have hkk := flat_eq k1 hk
        rcases k3 with ⟨rfl, k4⟩ | ⟨i, v, v', rfl, k4, k5⟩
        · cases hq
          obtain ⟨r1, r2, r3⟩ := putO_spec (ob1 := .map (es'.push { key := kv, val := a.eval x, born := ms.2 }) (ms.2 + 1)) (o1 := .inr (.map (ms.1.push { key := kv, val := xv, born := ms.2 }) (ms.2 + 1))) h g6 rfl hp g3 (by simp)
            ⟨_, set_same (P := E.P) (h.plc r p hp).2, by simpa using ER_push (e := { key := kv, val := xv, born := ms.2 }) (e' := { key := kv, val := a.eval x, born := ms.2 }) g4 k1 rfl rfl hx⟩
          refine liftU ⟨ρ, _, (), ?_, trivial, r2, r3⟩
          rw [hm, hkk]
          simp [Instr.mapUpdate, run_underlying hu, run_getMap g3, k2, k4, r1]
        · cases hq
    · cases hq
  | range t x =>
    simp only [cOper] at hq
    split at hq
    · rename_i key elem z0 z1 z2 hd
      obtain ⟨it, hi, hu, _, _, _⟩ := hE.ty t _ hd
      obtain ⟨xv, h1, hq⟩ := ob_some.1 hq
      have hx := opd' h1
      match xv, hx, hq with
      | .map none, hx, hq =>
        obtain ⟨p, h2, hq⟩ := ob_some.1 hq
        cases hq
        simp only [VR] at hx
        obtain ⟨ρ', g1, g2, g3⟩ := h.newO (n := 0) (t := 0) h2 (hf (by show S.nx < p.2.nx; rw [(newO_spec h2).2.2.1]; omega)) hB (o' := .mapIter none 0 #[] 0) fun ρ' hle => ⟨none, rfl, get_alloc_new w _, .inl ⟨rfl, rfl⟩⟩
        refine lift ⟨ρ', _, .pointer (some ⟨w.heap.size, 0, none⟩), ?_, by simp only [VR]; exact ⟨_, g1, trivial, rfl⟩, g2, g3⟩
        rw [hx]
        simp [Instr.range, run_underlying hu]
      | .map (some r), hx, hq =>
        obtain ⟨ms, h4, hq⟩ := ob_some.1 hq
        obtain ⟨p, h2, hq⟩ := ob_some.1 hq
        cases hq
        simp only [VR] at hx
        obtain ⟨pm, hp, hx⟩ := hx
        obtain ⟨p', es', hp', g3, g4, g5, g6⟩ := mapOf_spec h h4
        rw [hp] at hp'; cases hp'
        obtain ⟨ρ', k1, k2, k3⟩ := h.newO (n := 0) (t := 0) h2 (hf (by show S.nx < p.2.nx; rw [(newO_spec h2).2.2.1]; omega)) hB (o' := .mapIter (some pm.b) ms.2 #[] ms.2) fun ρ' hle => ⟨some pm.b, rfl, get_alloc_new w _, .inr ⟨r, pm, rfl, hle _ _ hp, rfl⟩⟩
        refine lift ⟨ρ', _, .pointer (some ⟨w.heap.size, 0, none⟩), ?_, by simp only [VR]; exact ⟨_, k1, trivial, rfl⟩, k2, k3⟩
        rw [hx]
        simp [Instr.range, run_underlying hu, run_getMap g3]
    · cases hq
  | next it isS =>
    cases isS with
    | true => cases hq
    | false =>
      obtain ⟨iv, h1, hq⟩ := ob_some.1 (show ob ((opd E it).f τ) _ = some q from hq)
      obtain ⟨ad, h2, hq⟩ := ob_some.1 hq
      obtain ⟨h3, hq⟩ := iff_some.1 hq
      have h3 : ad.off = 0 := Nat.eq_of_beq_eq_true h3
      obtain ⟨o, h4, hq⟩ := ob_some.1 hq
      obtain ⟨p, hp, hx⟩ := VR_ptr h2 (opd' h1)
      have tf : VR E.P ρ (.tuple #[.bool false]) (.tuple #[.bool false]) := by
        simp only [VR]; exact ⟨_, rfl, VRA_iff.2 ⟨_, _, rfl, by simp [VR], rfl⟩⟩
      match o, h4, hq with
      | .inr (.mapIter none s0 s1 s2), h4, hq =>
        cases hq
        obtain ⟨p', hp', m', gs, g1, g2⟩ := h.at_ _ _ (ov_of h4) rfl
        rw [hp] at hp'; cases hp'
        have hm' : m' = none := by rcases g2 with ⟨_, g⟩ | ⟨_, _, g, _, _⟩; exact g; cases g
        subst hm'
        refine lift (OkV.same h (v' := .tuple #[.bool false]) ?_ tf)
        rw [hx, h3]
        exact next_none gs g1
      | .inr (.mapIter (some m) s0 s1 s2), h4, hq =>
        obtain ⟨ms, h5, hq⟩ := ob_some.1 hq
        obtain ⟨h6, hq⟩ := iff_some.1 hq
        cases hq
        obtain ⟨p', hp', m', gs, g1, g2⟩ := h.at_ _ _ (ov_of h4) rfl
        rw [hp] at hp'; cases hp'
        obtain ⟨p2, es', hp2, g3, g4, _, _⟩ := mapOf_spec h h5
        have hm' : m' = some p2.b := by
          rcases g2 with ⟨g, _⟩ | ⟨r, q, g, hr, g'⟩
          · cases g
          · injection g with g; subst g; rw [hp2] at hr; cases hr; exact g'
        subst hm'
        have he : es' = #[] := by
          have h1 := ER_length g4
          rw [Array.isEmpty_iff] at h6
          rw [h6] at h1
          simpa using h1
        subst he
        refine lift (OkV.same h (v' := .tuple #[.bool false]) ?_ tf)
        rw [hx, h3]
        exact next_empty gs g1 g3
  | extract t i =>
    obtain ⟨u, h1, hq⟩ := ob_some.1 (show ob ((opd E t).f τ) _ = some q from hq)
    cases u with
    | tuple vs =>
      obtain ⟨v, h2, rfl⟩ := val_some (show val vs[i]? S = some q from hq)
      have hx := opd' h1
      simp only [VR] at hx
      obtain ⟨cs', hx, h3⟩ := hx
      obtain ⟨v', r1, r2⟩ := VRL_get (VRA_iff.1 h3) i v (by simpa using h2)
      refine lift (OkV.same h (v' := v') ?_ r2)
      rw [hx]
      simp only [Array.getElem?_toList] at r1
      simp [Instr.extract, r1]
    | _ => cases hq
  | call c =>
    obtain ⟨b, hb⟩ := hnc c rfl
    have hq : (cCall E c type).f K Y τ S = some q := hq
    unfold cCall at hq
    rw [hb] at hq
    obtain ⟨ρ', w', x, r1, ⟨v', r2, r3⟩, r4, r5⟩ := builtin_spec hE h hq hf hB fun l hl => opds_spec ht hl
    refine ⟨ρ', w', x, ?_, .inl ⟨v', r2, r3⟩, r4, r5⟩
    simp only [execOp, resolve, hb, Sem.run_bind, Sem.run_pure, Result.andThen, invoke]
    have : (c.args.map a.eval) = (c.args.toList.map a.eval).toArray := by apply Array.ext'; simp
    rw [this]
    exact r1
  | _ => cases hq
end
end Go.Proofs.YtemldmjpanmdbaaGreatDoor.Ev
