import Derived.Test.YtemldmjpanmdbaaGreatDoorP6
import Derived.Laws.Tables
import Derived.Laws.MakeOwn
import Derived.Laws.Slices
import Derived.Laws.Entries
set_option linter.unusedVariables false
namespace Go.Proofs.YtemldmjpanmdbaaGreatDoor.Ev
open Go.RowKit
section
variable {E : Env} {ρ ρ' : Ren} {B : Nat} {w w' : World} {S S' : St} {V : Hp}
theorem places_spec (hE : EnvOk E) : ∀ (fs : List Field) (ps : List (Nat × Nat)), places E fs = some ps → fs.mapM (fun f => (E.P.info? f.type).map fun i => (f.offset, i.size)) = some ps
  | [], ps, h => by cases h; rfl
  | f :: fs, ps, h => by
    unfold places at h
    obtain ⟨d, h1, h⟩ := ob_some.1 h
    obtain ⟨qs, h2, h⟩ := ob_some.1 h
    cases h
    obtain ⟨i, hi, _, hs, _, _⟩ := hE.ty _ d h1
    simp [List.mapM_cons, hi, places_spec hE fs qs h2, hs]
theorem flat_cells {P : Program} {z : Value} (h : flat z = true) : VRL P ρ z.cells.toList z.cells.toList := by
  have hz : VR P ρ z z := (VR_flat 8 z z h).2 rfl
  by_cases ha : ∃ cs, z = .agg cs
  · obtain ⟨cs, rfl⟩ := ha
    simp only [flatN] at h
    exact (VRL_flat 7 _ _ h).2 rfl
  · have hc : z.cells = #[z] := by cases z <;> first | rfl | exact absurd ⟨_, rfl⟩ ha
    rw [hc]
    exact ⟨z, [], rfl, hz, rfl⟩
theorem build_spec (hE : EnvOk E) {t : TypeId} {ps : Arg (List (Nat × Value))} {τ : Tmps} {q : Value × St} {l' : Array (Nat × Value)} (h : GS E.P B ρ S V w) (hq : (cBuild E t ps).f τ S = some q)
    (hp : ∀ l, ps.f τ = some l → PRL E.P ρ l l'.toList ∧ ∀ x ∈ l, known x.2 = true) : OkV E.P B ρ S V w (Instr.build t l') q.1 q.2 := by
  unfold cBuild at hq
  split at hq
  · rename_i d fs sz z bz hd
    obtain ⟨i, hi, hu, hs, _, hz⟩ := hE.ty t _ hd
    obtain ⟨hz1, hz2⟩ := hz z rfl
    split at hq
    · rename_i pl hpl
      obtain ⟨l, h1, hq⟩ := ob_some.1 hq
      obtain ⟨cs, h2, hq⟩ := ob_some.1 hq
      cases hq
      obtain ⟨h3, h4⟩ := hp l h1
      obtain ⟨cs', h5, h6⟩ := fill_spec _ l l'.toList z.cells z.cells cs h3 (flat_cells hz2) h4 h2
      refine OkV.same h (v' := .agg cs') (run_build w t l' cs' ?_) (by simp only [VR]; exact ⟨cs', rfl, VRA_iff.2 h6⟩)
      simp only [Program.built, hi, hu, hz1, places_spec hE _ _ hpl]
      exact h5
    · cases hq
  · rename_i d n e sz z bz hd
    obtain ⟨i, hi, hu, hs, _, hz⟩ := hE.ty t _ hd
    obtain ⟨hz1, hz2⟩ := hz z rfl
    split at hq
    · rename_i de hde
      obtain ⟨ie, hie, _, hse, _, _⟩ := hE.ty _ _ hde
      obtain ⟨l, h1, hq⟩ := ob_some.1 hq
      obtain ⟨cs, h2, hq⟩ := ob_some.1 hq
      cases hq
      obtain ⟨h3, h4⟩ := hp l h1
      obtain ⟨cs', h5, h6⟩ := fill_spec _ l l'.toList z.cells z.cells cs h3 (flat_cells hz2) h4 h2
      refine OkV.same h (v' := .agg cs') (run_build w t l' cs' ?_) (by simp only [VR]; exact ⟨cs', rfl, VRA_iff.2 h6⟩)
      simp only [Program.built, hi, hu, hz1, hie, hse]
      exact h5
    · cases hq
  · cases hq
theorem zeros_get (z : List Value) (hz : 0 < z.length) : ∀ (n j : Nat), (zeros z n)[j]? = if j < n * z.length then z[j % z.length]? else none
  | 0, j => by simp [zeros]
  | n + 1, j => by
    simp only [zeros]
    by_cases hj : j < z.length
    · rw [List.getElem?_append_left hj, if_pos (by rw [Nat.succ_mul]; omega), Nat.mod_eq_of_lt hj]
    · rw [List.getElem?_append_right (by omega), zeros_get z hz n]
      have h1 : (j - z.length) % z.length = j % z.length := by rw [← Nat.mod_eq_sub_mod (by omega)]
      rw [h1, Nat.succ_mul]
      by_cases h2 : j < n * z.length + z.length
      · rw [if_pos h2, if_pos (by omega)]
      · rw [if_neg h2, if_neg (by omega)]
theorem zeros_length (z : List Value) : ∀ n, (zeros z n).length = n * z.length
  | 0 => by simp [zeros]
  | n + 1 => by simp only [zeros, List.length_append, zeros_length z n, Nat.succ_mul]; omega
theorem zeros_made (z : Array Value) (hz : 0 < z.size) (n : Nat) : (zeros z.toList n).toArray = madeCells z (n * z.size) := by
  apply Array.ext_getElem?
  intro j
  rw [List.getElem?_toArray, zeros_get _ (by simpa using hz)]
  simp only [madeCells, Array.getElem?_map, Array.length_toList]
  by_cases hj : j < n * z.size
  · rw [if_pos hj]
    have h1 : j % z.size < z.size := Nat.mod_lt _ hz
    simp [hj, h1, getElem!_pos]
  · rw [if_neg hj]
    simp [hj]
theorem zeros_flat {P : Program} {z : Value} (h : flat z = true) : ∀ n, VRL P ρ (zeros z.cells.toList n) (zeros z.cells.toList n)
  | 0 => rfl
  | n + 1 => VRL_append (flat_cells h) (zeros_flat h n)
theorem buildSlice_spec (hE : EnvOk E) {t : TypeId} {n : Nat} {ps : Arg (List (Nat × Value))} {τ : Tmps} {q : Value × St} {l' : Array (Nat × Value)} (h : GS E.P B ρ S V w) (hq : (cBuildSlice E t n ps).f τ S = some q)
    (hf : S.nx < q.2.nx → ρ S.nx = none) (hB : B ≤ w.heap.size)
    (hp : ∀ l, ps.f τ = some l → PRL E.P ρ l l'.toList ∧ ∀ x ∈ l, known x.2 = true) : OkV E.P B ρ S V w (Instr.buildSlice t n l') q.1 q.2 := by
  unfold cBuildSlice at hq
  split at hq
  · rename_i d e sz zz bz hd
    obtain ⟨i, hi, hu, hs, _, _⟩ := hE.ty t _ hd
    split at hq
    · rename_i de ue size z be hde
      obtain ⟨ie, hie, _, hse, _, hz⟩ := hE.ty _ _ hde
      obtain ⟨hz1, hz2⟩ := hz z rfl
      cases hc : (Nat.beq z.cells.size size && Nat.blt 0 size && Nat.ble (Nat.mul n size) 16777216) <;> rw [hc] at hq
      · cases hq
      · simp only [Bool.and_eq_true] at hc
        obtain ⟨⟨c1, c2⟩, c3⟩ := hc
        have c1 : z.cells.size = size := Nat.eq_of_beq_eq_true c1
        have c2 : 0 < size := blt_iff.1 c2
        have c3 : n * size ≤ 16777216 := ble_iff.1 c3
        obtain ⟨l, h1, hq⟩ := ob_some.1 hq
        obtain ⟨cs, h2, hq⟩ := ob_some.1 hq
        obtain ⟨p, h7, hq⟩ := ob_some.1 hq
        cases hq
        obtain ⟨h3, h4⟩ := hp l h1
        obtain ⟨cs', h5, h6⟩ := fill_spec _ l l'.toList _ (zeros z.cells.toList n).toArray cs h3 (by simpa using zeros_flat hz2 n) h4 h2
        obtain ⟨ρ', hrun, hp', hG, hN, _⟩ := newRow_spec h h7 h6 (hf (newRow_nx' h7)) hB
        rw [zeros_made _ (by omega), c1] at h5
        refine ⟨ρ', _, .slice (some ⟨w.heap.size, 0, none⟩) n n, ?_, by simp only [VR]; exact ⟨_, hp', rfl⟩, hG, hN⟩
        have hse : ie.size = size := hse
        have hrun' : (Go.newRow e cs').run E.P w = .ok ⟨w.heap.size, 0, none⟩ (w.alloc (.cells cs' e)) := by simpa using hrun
        have g1 : ¬ (16777216 < n * size) := by omega
        by_cases g0 : n * size = 0
        · simp only [g0, madeCells, Array.range_zero', Array.map_empty] at h5
          simp [Instr.buildSlice, run_underlying hu, run_sizeOf hie, hse, g0, h5, Array.range_zero', hrun']
        · simp [Instr.buildSlice, run_underlying hu, run_sizeOf hie, hse, g0, g1, run_zero hie hz1]
          simp only [madeCells] at h5
          simp [h5, hrun']
    · cases hq
  · cases hq
theorem makeSlice_run (hE : EnvOk E) {t elem : TypeId} {z : Value} {d de : Dg} {k k' : IntKind} {l c : Nat} {q : Nat × St} (h : GS E.P B ρ S V w) (hd : E.dg t = some d) (hu' : d.und = .slice elem) (hde : E.dg elem = some de) (hz' : de.zero = some z)
    (hsz : z.cells.size = de.size) (h0 : 0 < de.size) (hlc : l ≤ c) (hb : c * de.bytes ≤ 16777216) (hc : c ≤ 16777216) (hq : newRow S elem (zeros z.cells.toList c) = some q) (hf : ρ S.nx = none) (hB : B ≤ w.heap.size) :
    OkV E.P B ρ S V w (Instr.makeSlice t (.int k (.ofNat l)) (.int k' (.ofNat c))) (.slice (some ⟨q.1, 0, none⟩) l c) q.2 := by
  obtain ⟨i, hi, hu, hs, _, _⟩ := hE.ty t _ hd
  obtain ⟨ie, hie, _, hse, hbe, hz⟩ := hE.ty _ _ hde
  obtain ⟨hz1, hz2⟩ := hz z hz'
  obtain ⟨ρ', hrun, hp', hG, hN, _⟩ := newRow_spec h hq (zeros_flat hz2 c) hf hB
  have h9 : (ie.bytes : Int) * c ≤ 281474976710656 := by
    rw [hbe, ← Int.natCast_mul, Nat.mul_comm]
    omega
  have hr := run_make (P := E.P) w t elem ie z (by rw [hu, hu']) hie hz1 k k' l c (by omega) (by omega) h9 (by omega)
  rw [zeros_made _ (by omega), hsz] at hG hN
  refine ⟨ρ', _, .slice (some ⟨w.heap.size, 0, none⟩) l c, ?_, by simp only [VR]; exact ⟨_, hp', rfl⟩, hG, hN⟩
  have h8 : (Instr.makeSlice t (.int k (.ofNat l)) (.int k' (.ofNat c))) = Instr.makeSlice t (.int k (l : Int)) (.int k' (c : Int)) := rfl
  rw [h8, hr]
  simp [hse]
/-! ### Parts -/
theorem extract_VRL {P : Program} {cs cs' : Array Value} (h : VRL P ρ cs.toList cs'.toList) (a b : Nat) : VRL P ρ (cs.extract a b).toList (cs'.extract a b).toList := by
  have hl := VRL_length h
  simp only [Array.length_toList] at hl
  refine VRL_of (by simp [hl]) fun i v v' hv hv' => ?_
  simp only [Array.getElem?_toList] at hv hv'
  rw [Array.getElem?_extract] at hv hv'
  rw [hl] at hv'
  split at hv
  · rw [if_pos (by assumption)] at hv'
    obtain ⟨u, g1, g2⟩ := VRL_get h _ v (by simpa using hv)
    rw [Array.getElem?_toList, hv'] at g1
    cases g1; exact g2
  · cases hv
theorem part_spec (hE : EnvOk E) {t : TypeId} {d : Dg} {cs cs' : Array Value} {off : Nat} {v : Value} (hd : E.dg t = some d) (hp : Ev.part d cs off = some v) (h : VRL E.P ρ cs.toList cs'.toList) :
    ∃ v', (Go.part t cs' off).run E.P w = .ok v' w ∧ VR E.P ρ v v' := by
  obtain ⟨i, hi, hu, hs, _, _⟩ := hE.ty t _ hd
  unfold Ev.part at hp
  cases hag : isAggD d.und <;> rw [hag] at hp
  · have hp : cs[off]? = some v := hp
    obtain ⟨v', g1, g2⟩ := VRL_get h off v (by simpa using hp)
    exact ⟨v', by simp only [Array.getElem?_toList] at g1; simp [Go.part, run_isAgg hu, hag, g1], g2⟩
  · cases hp
    exact ⟨_, by simp [Go.part, run_isAgg hu, hag, run_sizeOf hi]; rfl, by simp only [VR]; exact ⟨_, rfl, VRA_iff.2 (by rw [hs]; exact extract_VRL h _ _)⟩⟩
end
end Go.Proofs.YtemldmjpanmdbaaGreatDoor.Ev
