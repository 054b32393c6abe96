import Derived.Test.YtemldmjpanmdbaaGreatDoorP7
set_option linter.unusedVariables false
namespace Go.Proofs.YtemldmjpanmdbaaGreatDoor.Ev
open Go.RowKit
section
variable {E : Env} {ρ ρ' : Ren} {B : Nat} {w w' : World} {S S' : St} {V : Hp}
theorem toN_some {v : Value} {n : Nat} (h : toN v = some n) : ∃ k, v = .int k (n : Int) := by
  match v, h with
  | .int k (.ofNat m), h => cases h; exact ⟨k, rfl⟩
theorem VR_int {P : Program} {k : IntKind} {n : Int} {c : Value} (h : VR P ρ (.int k n) c) : c = .int k n := by simpa [VR] using h
/-- An option beside another. -/
def OO (P : Program) (ρ : Ren) (o o' : Option Value) : Prop := (o = none ∧ o' = none) ∨ ∃ u c, o = some u ∧ o' = some c ∧ VR P ρ u c
theorem bnd_spec {P : Program} {d n : Nat} {o o' : Option Value} (h : bnd d o = some n) (ho : OO P ρ o o') : (o = none ∧ o' = none ∧ n = d) ∨ ∃ k, o.isSome = true ∧ o' = some (.int k (n : Int)) := by
  rcases ho with ⟨rfl, rfl⟩ | ⟨u, c, rfl, rfl, hv⟩
  · cases h; exact .inl ⟨rfl, rfl, rfl⟩
  · obtain ⟨k, rfl⟩ := toN_some h
    exact .inr ⟨k, rfl, by rw [VR_int hv]⟩
theorem bounds_run {P : Program} (isS : Bool) (len cap l h m : Nat) (lo hi mx : Option Value) (hlo : (lo = none ∧ l = 0) ∨ ∃ k, lo = some (.int k (l : Int))) (hhi : (hi = none ∧ h = len) ∨ ∃ k, hi = some (.int k (h : Int)))
    (hmx : (mx = none ∧ m = cap) ∨ ∃ k, mx = some (.int k (m : Int))) (hb : hi = none → mx = none) (h1 : l ≤ h) (h2 : h ≤ m) (h3 : m ≤ cap) : (Instr.sliceBounds isS len cap lo hi mx).run P w = .ok (l, h, m) w := by
  have a1 : (0 : Int) ≤ l := by omega
  have a2 : (0 : Int) ≤ h := by omega
  have a3 : (0 : Int) ≤ m := by omega
  have b1 : (l : Int) ≤ h := by omega
  have b2 : (h : Int) ≤ m := by omega
  have b3 : (m : Int) ≤ cap := by omega
  rcases hmx with ⟨rfl, rfl⟩ | ⟨km, rfl⟩
  · rcases hhi with ⟨rfl, rfl⟩ | ⟨kh, rfl⟩ <;> rcases hlo with ⟨rfl, rfl⟩ | ⟨kl, rfl⟩ <;> simp [Instr.sliceBounds, run_sliceBound, a1, a2, b1, b2]
  · rcases hhi with ⟨rfl, rfl⟩ | ⟨kh, rfl⟩
    · cases hb rfl
    · rcases hlo with ⟨rfl, rfl⟩ | ⟨kl, rfl⟩ <;> simp [Instr.sliceBounds, run_sliceBound, a1, a2, a3, b1, b2, b3]
theorem add_eq (b o n : Nat) (c : Prop) [Decidable c] (h : c → n = 0 ∨ True) : (if c then (⟨b, o, none⟩ : Addr) else Addr.add ⟨b, o, none⟩ n) = ⟨b, if c then o else o + n, none⟩ := by
  split
  · rfl
  · exact Addr.add_lit b o n
theorem cellsOf_eq {P : Program} {t : TypeId} {i : TypeInfo} (h : P.info? t = some i) : P.cellsOf t = i.size := by simp [Program.cellsOf, h]
theorem slice_spec (hE : EnvOk E) {t : TypeId} {x : Arg Value} {lo hi mx : Arg (Option Value)} {τ : Tmps} {q : Value × St} {c : Value} {lo' hi' mx' : Option Value} (h : GS E.P B ρ S V w) (hq : (cSlice E t x lo hi mx).f τ S = some q)
    (hx : ∀ v, x.f τ = some v → VR E.P ρ v c) (hlo : ∀ v, lo.f τ = some v → OO E.P ρ v lo') (hhi : ∀ v, hi.f τ = some v → OO E.P ρ v hi') (hmx : ∀ v, mx.f τ = some v → OO E.P ρ v mx') :
    OkV E.P B ρ S V w (Instr.sliceAt t c lo' hi' mx') q.1 q.2 := by
  unfold cSlice at hq
  split at hq
  · rename_i d elem sz zz bz hd
    obtain ⟨i, hi0, hu, hs, _, _⟩ := hE.ty t _ hd
    split at hq
    · rename_i de hde
      obtain ⟨ie, hie, hue, hse, _, _⟩ := hE.ty _ _ hde
      obtain ⟨v, g1, hq⟩ := ob_some.1 hq
      obtain ⟨lo1, g2, hq⟩ := ob_some.1 hq
      obtain ⟨hi1, g3, hq⟩ := ob_some.1 hq
      obtain ⟨mx1, g4, hq⟩ := ob_some.1 hq
      obtain ⟨g5, hq⟩ := iff_some.1 hq
      have hv := hx v g1
      cases v with
      | slice a len cap =>
        obtain ⟨l, k1, hq⟩ := ob_some.1 (show ob (bnd 0 lo1) _ = some q from hq)
        obtain ⟨hh, k2, hq⟩ := ob_some.1 hq
        obtain ⟨m, k3, hq⟩ := ob_some.1 hq
        obtain ⟨k4, hq⟩ := iff_some.1 hq
        simp only [Bool.and_eq_true] at k4
        obtain ⟨⟨c1, c2⟩, c3⟩ := k4
        have c1 : l ≤ hh := ble_iff.1 c1
        have c2 : hh ≤ m := ble_iff.1 c2
        have c3 : m ≤ cap := ble_iff.1 c3
        have e1 := bnd_spec k1 (hlo _ g2)
        have e2 := bnd_spec k2 (hhi _ g3)
        have e3 := bnd_spec k3 (hmx _ g4)
        have e4 : hi' = none → mx' = none := by
          intro h0
          rcases e2 with ⟨z1, z2, z3⟩ | ⟨k, z1, z2⟩
          · subst z1
            rcases e3 with ⟨y1, y2, y3⟩ | ⟨k, y1, y2⟩
            · exact y2
            · cases mx1 <;> simp_all
          · rw [h0] at z2; cases z2
        have f1 : (lo' = none ∧ l = 0) ∨ ∃ k, lo' = some (.int k (l : Int)) := e1.imp (fun ⟨_, a, b⟩ => ⟨a, b⟩) (fun ⟨k, _, b⟩ => ⟨k, b⟩)
        have f2 : (hi' = none ∧ hh = len) ∨ ∃ k, hi' = some (.int k (hh : Int)) := e2.imp (fun ⟨_, a, b⟩ => ⟨a, b⟩) (fun ⟨k, _, b⟩ => ⟨k, b⟩)
        have f3 : (mx' = none ∧ m = cap) ∨ ∃ k, mx' = some (.int k (m : Int)) := e3.imp (fun ⟨_, a, b⟩ => ⟨a, b⟩) (fun ⟨k, _, b⟩ => ⟨k, b⟩)
        have run : ∀ (a' : Option Addr) (cap' : Nat), cap ≤ cap' → (Instr.sliceAt t (.slice a' len cap') lo' hi' mx').run E.P w =
            .ok (let m' := if mx' = none then cap' else m; .slice (if m' = l then a' else a'.map (·.add (l * ie.size))) (hh - l) (m' - l)) w := by
          intro a' cap' hcap
          have hb := bounds_run (P := E.P) (w := w) true len cap' l hh (if mx' = none then cap' else m) lo' hi' mx' f1 f2 (by
            rcases f3 with ⟨z1, z2⟩ | ⟨k, z⟩
            · exact .inl ⟨z1, by simp [z1]⟩
            · exact .inr ⟨k, by simp [z]⟩) e4 c1 (by split <;> omega) (by split <;> omega)
          simp [Instr.sliceAt, Instr.slice, run_underlying hu, hb, run_sizeOf hie]
        match a, hv, hq with
        | none, hv, hq =>
          cases hq
          simp only [VR] at hv
          subst hv
          refine OkV.same h (run none cap (Nat.le_refl _)) ?_
          have : (if mx' = none then cap else m) = m := by
            split
            · rcases f3 with ⟨z1, z2⟩ | ⟨k, z⟩
              · exact z2.symm
              · simp_all
            · rfl
          simp only [this]
          simp [VR]
        | some ⟨r, off, none⟩, hv, hq =>
          obtain ⟨u, z1, hq⟩ := ob_some.1 hq
          cases hq
          simp only [VR] at hv
          obtain ⟨p, hp, rfl⟩ := hv
          refine OkV.same h (run _ cap (Nat.le_refl _)) ?_
          have hm : (if mx' = none then cap else m) = m := by
            split
            · rcases f3 with ⟨z1, z2⟩ | ⟨k, z⟩
              · exact z2.symm
              · simp_all
            · rfl
          simp only [hm]
          have z1 : some (Value.slice (some ⟨r, cond (Nat.beq m l) off (off + l * de.size), none⟩) (hh - l) (m - l)) = some u := by
            unfold reslice at z1
            cases mx1 <;> exact z1
          cases z1
          simp only [VR]
          refine ⟨p, hp, ?_⟩
          by_cases hml : m = l
          · subst hml; simp
          · have : Nat.beq m l = false := by
              cases hb : Nat.beq m l
              · rfl
              · exact absurd (Nat.eq_of_beq_eq_true hb) hml
            simp [hml, this, hse, Addr.add_lit, Nat.add_assoc]
        | some ⟨r, off, some 0⟩, hv, hq =>
          obtain ⟨u, z1, hq⟩ := ob_some.1 hq
          cases hq
          simp only [VR] at hv
          obtain ⟨hlc, p, cap', hp, hcc, hbd, rfl⟩ := hv
          refine OkV.same h (run _ cap' hcc) ?_
          cases mx1 with
          | none =>
            have hmx0 : mx' = none := by
              rcases e3 with ⟨_, y, _⟩ | ⟨k, y, _⟩
              · exact y
              · cases y
            have hmc : m = cap := by
              rcases f3 with ⟨_, z2⟩ | ⟨k, z⟩
              · exact z2
              · rw [hmx0] at z; cases z
            subst hmc
            simp only [hmx0, if_true]
            unfold reslice at z1
            simp only [Option.isSome_none] at z1
            obtain ⟨row, y1, z1⟩ := ob_some.1 z1
            obtain ⟨y2, z1⟩ := iff_some.1 z1
            have y2 : row.t = elem := Nat.eq_of_beq_eq_true y2
            obtain ⟨p', hp', cc, _, _, ht, _, _, _⟩ := h.of_row y1
            rw [hp] at hp'; cases hp'
            have hsz : E.P.cellsOf p.t = de.size := by rw [ht, y2, cellsOf_eq hie, hse]
            cases hb : (Nat.blt l m || Nat.beq l 0)
            · rw [hb] at z1
              cases z1
              simp only [Bool.or_eq_false_iff] at hb
              have h5 : ¬ l < m := fun hh => by rw [blt_iff.2 hh] at hb; cases hb.1
              simp only [VR]
              have h6 : l = m := by omega
              have h7 : hh = l := by omega
              refine ⟨trivial, trivial, ?_⟩
              subst h7
              simp only [Nat.sub_self]
              by_cases h8 : cap' = hh
              · exact ⟨⟨p.b, p.s + off, none⟩, cap' - hh, by simp [h8]⟩
              · exact ⟨(Addr.add ⟨p.b, p.s + off, none⟩ (hh * ie.size)), cap' - hh, by simp [h8]⟩
            · rw [hb] at z1
              cases z1
              simp only [VR]
              have h5 : l < m ∨ l = 0 := by
                simp only [Bool.or_eq_true] at hb
                exact hb.imp blt_iff.1 Nat.eq_of_beq_eq_true
              have h9 : p.s + (off + l * de.size) + (cap' - l) * E.P.cellsOf p.t ≤ p.n := by
                rw [hsz] at hbd ⊢
                have : cap' * de.size = l * de.size + (cap' - l) * de.size := by rw [← Nat.add_mul]; congr 1; omega
                omega
              refine ⟨by show hh - l ≤ m - l; omega, p, cap' - l, hp, by show m - l ≤ cap' - l; omega, h9, ?_⟩
              by_cases h8 : cap' = l
              · have : l = 0 := by omega
                subst this
                subst h8
                simp
              · simp [h8, hse, Addr.add_lit, Nat.add_assoc]
          | some mv =>
            have hmx0 : mx' ≠ none := by
              rcases e3 with ⟨y, _, _⟩ | ⟨k, _, y⟩
              · cases y
              · rw [y]; simp
            simp only [hmx0, if_false]
            have z1 : some (Value.slice (some ⟨r, cond (Nat.beq m l) off (off + l * de.size), none⟩) (hh - l) (m - l)) = some u := z1
            cases z1
            simp only [VR]
            refine ⟨p, hp, ?_⟩
            by_cases hml : m = l
            · subst hml; simp
            · have : Nat.beq m l = false := by
                cases hb : Nat.beq m l
                · rfl
                · exact absurd (Nat.eq_of_beq_eq_true hb) hml
              simp [hml, this, hse, Addr.add_lit, Nat.add_assoc]
        | some ⟨r, off, some (k + 1)⟩, hv, hq =>
          obtain ⟨u, z1, hq⟩ := ob_some.1 hq
          cases hq
          simp only [VR] at hv
          obtain ⟨rfl, rfl, a', cap', rfl⟩ := hv
          refine OkV.same h (run _ cap' (Nat.zero_le _)) ?_
          have z1 : some (Value.slice (some ⟨r, off, some 1⟩) 0 0) = some u := by
            unfold reslice at z1
            cases mx1 <;> exact z1
          cases z1
          simp only [VR]
          have h5 : l = 0 := by omega
          have h6 : hh = 0 := by omega
          subst h5; subst h6
          exact ⟨trivial, trivial, a', (if mx' = none then cap' else m), by simp [Addr.add]⟩
      | _ => cases hq
    · cases hq
  · rename_i d n elem sz zz bz hd
    obtain ⟨i, hi0, hu, hs, _, _⟩ := hE.ty t _ hd
    split at hq
    · rename_i de hde
      obtain ⟨ie, hie, hue, hse, _, _⟩ := hE.ty _ _ hde
      obtain ⟨v, g1, hq⟩ := ob_some.1 hq
      obtain ⟨lo1, g2, hq⟩ := ob_some.1 hq
      obtain ⟨hi1, g3, hq⟩ := ob_some.1 hq
      obtain ⟨mx1, g4, hq⟩ := ob_some.1 hq
      obtain ⟨a, g6, hq⟩ := ob_some.1 hq
      obtain ⟨g5, hq⟩ := iff_some.1 hq
      obtain ⟨p, hp, rfl⟩ := VR_ptr g6 (hx v g1)
      obtain ⟨l, k1, hq⟩ := ob_some.1 hq
      obtain ⟨hh, k2, hq⟩ := ob_some.1 hq
      obtain ⟨m, k3, hq⟩ := ob_some.1 hq
      obtain ⟨k4, hq⟩ := iff_some.1 hq
      cases hq
      simp only [Bool.and_eq_true] at k4
      obtain ⟨⟨c1, c2⟩, c3⟩ := k4
      have c1 : l ≤ hh := ble_iff.1 c1
      have c2 : hh ≤ m := ble_iff.1 c2
      have c3 : m ≤ n := ble_iff.1 c3
      have e1 := bnd_spec k1 (hlo _ g2)
      have e2 := bnd_spec k2 (hhi _ g3)
      have e3 := bnd_spec k3 (hmx _ g4)
      have e4 : hi' = none → mx' = none := by
        intro h0
        rcases e2 with ⟨z1, z2, z3⟩ | ⟨k, z1, z2⟩
        · subst z1
          rcases e3 with ⟨y1, y2, y3⟩ | ⟨k, y1, y2⟩
          · exact y2
          · cases mx1 <;> simp_all
        · rw [h0] at z2; cases z2
      have f1 : (lo' = none ∧ l = 0) ∨ ∃ k, lo' = some (.int k (l : Int)) := e1.imp (fun ⟨_, a, b⟩ => ⟨a, b⟩) (fun ⟨k, _, b⟩ => ⟨k, b⟩)
      have f2 : (hi' = none ∧ hh = n) ∨ ∃ k, hi' = some (.int k (hh : Int)) := e2.imp (fun ⟨_, a, b⟩ => ⟨a, b⟩) (fun ⟨k, _, b⟩ => ⟨k, b⟩)
      have f3 : (mx' = none ∧ m = n) ∨ ∃ k, mx' = some (.int k (m : Int)) := e3.imp (fun ⟨_, a, b⟩ => ⟨a, b⟩) (fun ⟨k, _, b⟩ => ⟨k, b⟩)
      have hb := bounds_run (P := E.P) (w := w) false n n l hh m lo' hi' mx' f1 f2 f3 e4 c1 c2 c3
      refine OkV.same h (v' := .slice (some ⟨p.b, if m = l then p.s + a.off else p.s + a.off + l * ie.size, none⟩) (hh - l) (m - l)) ?_ ?_
      · by_cases hml : m = l
        · subst hml; simp [Instr.sliceAt, Instr.sureAddr, run_underlying hu, hb, run_sizeOf hie]
        · simp [Instr.sliceAt, Instr.sureAddr, run_underlying hu, hb, run_sizeOf hie, hml, Addr.add_lit]
      · simp only [VR]
        refine ⟨p, hp, ?_⟩
        by_cases hml : m = l
        · subst hml; simp
        · have : Nat.beq m l = false := by
            cases hb : Nat.beq m l
            · rfl
            · exact absurd (Nat.eq_of_beq_eq_true hb) hml
          simp [hml, this, hse, Nat.add_assoc]
    · cases hq
  · cases hq
end
end Go.Proofs.YtemldmjpanmdbaaGreatDoor.Ev
