/- What is read and written again, and held against what was there, is what is read. No walk. -/
import Derived.Test.YtgeoeaadeemmcaaM8
namespace Go.Proofs.Ytgeoeaadeemmcaa
open Go.RowKit
set_option linter.unusedVariables false

/-- How many puts are read at most. -/
def qOf (z : Int) : Nat := min z.toNat 25

theorem qOf_small {z : Int} (h0 : 0 ≤ z) (h : z ≤ 24) : qOf z = z.toNat := by unfold qOf; omega

theorem parse_P {zs : List Int} (hb : ∀ z ∈ zs, 0 ≤ z ∧ z < 256) (h : takeP (qOf (nAt zs 7)) (zs.drop 24) = none) : parse zs = none := by
  unfold parse
  split
  · rfl
  · split
    · rfl
    · split
      · rfl
      · rename_i h7
        rw [qOf_small (nAt_bd zs 7 hb).1 (by omega)] at h
        rw [h]

/-- What was read. -/
structure Got (zs : List Int) (ps : List PutG) (v0 v1 v2 v3 : Nat × Nat) (r s : List Int) : Prop where
  p : takeP (qOf (nAt zs 7)) (zs.drop 24) = some (ps, r)
  v : (nAt zs 0 = 5 ∧ takeV 4 r = some ([v0, v1, v2, v3], s)) ∨ (¬ nAt zs 0 = 5 ∧ v0 = z2 ∧ v1 = z2 ∧ v2 = z2 ∧ v3 = z2 ∧ s = r)

theorem parse_V {zs : List Int} {ps : List PutG} {r : List Int} (hb : ∀ z ∈ zs, 0 ≤ z ∧ z < 256) (h : takeP (qOf (nAt zs 7)) (zs.drop 24) = some (ps, r)) (h5 : nAt zs 0 = 5) (hv : takeV 4 r = none) : parse zs = none := by
  unfold parse
  split
  · rfl
  · split
    · rfl
    · split
      · rfl
      · rename_i h7
        rw [qOf_small (nAt_bd zs 7 hb).1 (by omega)] at h
        rw [h]
        simp only [hv]

/-- The message that was read. -/
abbrev mgw (zs : List Int) (ps : List PutG) (v0 v1 v2 v3 : Nat × Nat) : Mg := ⟨nAt zs 0, nAt zs 1, nAt zs 2, nAt zs 3, nAt zs 4, nAt zs 5, nAt zs 6 != 0, ps, v0, v1, v2, v3⟩

theorem parse_got {zs : List Int} {ps : List PutG} {v0 v1 v2 v3 : Nat × Nat} {r s : List Int} (hb : ∀ z ∈ zs, 0 ≤ z ∧ z < 256) (h24 : 24 ≤ zs.length) (g : Got zs ps v0 v1 v2 v3 r s) (hf : isFlg (nAt zs 6) = true) (h7 : nAt zs 7 ≤ 24) :
    parse zs = fin (mgw zs ps v0 v1 v2 v3) s := by
  have hw : (nAt zs 6 == 1) = (nAt zs 6 != 0) := by
    simp only [isFlg, Bool.or_eq_true, beq_iff_eq] at hf
    rcases hf with e | e
    · rw [e]; rfl
    · rw [e]; rfl
  have hp := g.p
  rw [qOf_small (nAt_bd zs 7 hb).1 h7] at hp
  unfold parse
  rw [if_neg (by omega), if_neg (by rw [hf]; simp), if_neg (by omega), hp]
  have e0 : ∀ a b c d : Nat × Nat, withV (mg0 zs ps) [a, b, c, d] = mgw zs ps a b c d := fun a b c d => by simp [withV, mg0, hw]
  have e1 : mg0 zs ps = mgw zs ps z2 z2 z2 z2 := by simp [mg0, hw]
  rcases g.v with ⟨h5, hv⟩ | ⟨h5, rfl, rfl, rfl, rfl, rfl⟩
  · show (if nAt zs 0 = 5 then _ else _) = _
    rw [if_pos h5, hv]
    show fin (withV (mg0 zs ps) [v0, v1, v2, v3]) s = _
    rw [e0]
  · show (if nAt zs 0 = 5 then _ else _) = _
    rw [if_neg h5, e1]

theorem Got.bytes {zs : List Int} {ps : List PutG} {v0 v1 v2 v3 : Nat × Nat} {r s : List Int} (hb : ∀ z ∈ zs, 0 ≤ z ∧ z < 256) (h24 : 24 ≤ zs.length) (g : Got zs ps v0 v1 v2 v3 r s) :
    zs = formsN [nAt zs 0, nAt zs 1, nAt zs 2, nAt zs 3, nAt zs 4, nAt zs 5, nAt zs 6, nAt zs 7] ++ (putsZ ps ++ (if nAt zs 0 = 5 then objsZ [v0, v1, v2, v3] else []) ++ s) ∧ ps.length = qOf (nAt zs 7) ∧ (∀ p ∈ ps, wordB p.c) ∧ wordB v0 ∧ wordB v1 ∧ wordB v2 ∧ wordB v3 := by
  have hbd : ∀ z ∈ zs.drop 24, 0 ≤ z ∧ z < 256 := fun z hz => hb z (List.mem_of_mem_drop hz)
  obtain ⟨p1, p2, p3, p4⟩ := takeP_some _ hbd g.p
  have e1 : zs = formsN (getN zs 8) ++ zs.drop 24 := by rw [forms_get zs 8 hb (by omega), List.take_append_drop]
  rw [get8] at e1
  have z0 : wordB z2 := ⟨by decide, by decide⟩
  rcases g.v with ⟨h5, hv⟩ | ⟨h5, rfl, rfl, rfl, rfl, rfl⟩
  · obtain ⟨q1, q2, q3, q4⟩ := takeV_some 4 p4 hv
    refine ⟨?_, p2, p3, q3 _ (by simp), q3 _ (by simp), q3 _ (by simp), q3 _ (by simp)⟩
    rw [if_pos h5, List.append_assoc, ← q1, ← p1]
    exact e1
  · refine ⟨?_, p2, p3, z0, z0, z0, z0⟩
    rw [if_neg h5, List.append_nil, ← p1]
    exact e1

theorem forms_at (xs zs : List Int) : ∀ i (h : i < xs.length), ((formsN xs ++ zs).drop (3 * i)).take 3 = wrN 3 xs[i] := by
  induction xs with
  | nil => intro i h; simp at h
  | cons x r ih =>
    intro i h
    have e : formsN (x :: r) ++ zs = wrN 3 x ++ (formsN r ++ zs) := by simp [formsN]
    have l3 : (wrN 3 x).length = 3 := by simp
    rw [e]
    cases i with
    | zero => rw [Nat.mul_zero, List.drop_zero, List.take_append_of_le_length (by omega), List.take_of_length_le (by omega)]; rfl
    | succ i =>
      have e2 : (wrN 3 x ++ (formsN r ++ zs)).drop (3 * (i + 1)) = (formsN r ++ zs).drop (3 * i) := by
        rw [show 3 * (i + 1) = 3 + 3 * i by omega, ← List.drop_drop, List.drop_append_of_le_length (Nat.le_of_eq l3.symm), List.drop_of_length_le (Nat.le_of_eq l3), List.nil_append]
      rw [e2]
      simpa using ih i (by simpa using h)

theorem getN_forms (xs zs : List Int) (hz : ∀ z ∈ xs, 0 ≤ z ∧ z ≤ 16777215) : getN (formsN xs ++ zs) xs.length = xs := by
  apply List.ext_getElem
  · simp [getN]
  · intro i h1 h2
    have hi := hz xs[i] (List.getElem_mem _)
    simp only [getN, List.getElem_map, List.getElem_range]
    rw [forms_at xs zs i h2]
    exact rdN_wrN 3 _ hi.1 (by have : (256 : Int) ^ 3 = 16777216 := by decide
                               omega)

theorem forms_inj (xs ys zs us : List Int) (hl : xs.length = ys.length) (hx : ∀ z ∈ xs, 0 ≤ z ∧ z ≤ 16777215) (hy : ∀ z ∈ ys, 0 ≤ z ∧ z ≤ 16777215) (h : formsN xs ++ zs = formsN ys ++ us) : xs = ys ∧ zs = us := by
  have e1 := getN_forms xs zs hx
  have e2 := getN_forms ys us hy
  rw [h, hl, e2] at e1
  subst e1
  exact ⟨rfl, List.append_cancel_left h⟩

/-- The bytes of what was read, held against what was there. -/
theorem Got.again {zs : List Int} {ps : List PutG} {v0 v1 v2 v3 : Nat × Nat} {r s : List Int} (hb : ∀ z ∈ zs, 0 ≤ z ∧ z < 256) (h24 : 24 ≤ zs.length) (g : Got zs ps v0 v1 v2 v3 r s) (hr : rightB (mgw zs ps v0 v1 v2 v3) = true) :
    (msgZ (mgw zs ps v0 v1 v2 v3) = zs → parse zs = some (mgw zs ps v0 v1 v2 v3)) ∧ (msgZ (mgw zs ps v0 v1 v2 v3) ≠ zs → parse zs = none) := by
  obtain ⟨e, hl, -⟩ := g.bytes hb h24
  have hbd := bd_of_right hr
  have hp := (putsB_mem hbd.ps).1
  have h7 := (nAt_bd zs 7 hb)
  have h7' : nAt zs 7 ≤ 24 := by
    have : ps.length ≤ 24 := hp
    rw [hl] at this
    unfold qOf at this
    omega
  have hq : (ps.length : Int) = nAt zs 7 := by rw [hl, qOf_small h7.1 h7']; omega
  have hx : ∀ z ∈ [nAt zs 0, nAt zs 1, nAt zs 2, nAt zs 3, nAt zs 4, nAt zs 5, flgI (nAt zs 6 != 0), (ps.length : Int)], 0 ≤ z ∧ z ≤ 16777215 := by
    intro z hz
    have a0 := nAt_bd zs 0 hb
    have a1 := nAt_bd zs 1 hb
    have a2 := nAt_bd zs 2 hb
    have a3 := nAt_bd zs 3 hb
    have a4 := nAt_bd zs 4 hb
    have a5 := nAt_bd zs 5 hb
    have a6 := flgI_bd (nAt zs 6 != 0)
    simp only [List.mem_cons, List.not_mem_nil, or_false] at hz
    omega
  have hy : ∀ z ∈ [nAt zs 0, nAt zs 1, nAt zs 2, nAt zs 3, nAt zs 4, nAt zs 5, nAt zs 6, nAt zs 7], 0 ≤ z ∧ z ≤ 16777215 := by
    intro z hz
    simp only [List.mem_cons, List.not_mem_nil, or_false] at hz
    rcases hz with rfl | rfl | rfl | rfl | rfl | rfl | rfl | rfl
    all_goals exact nAt_bd zs _ hb
  have em : msgZ (mgw zs ps v0 v1 v2 v3) = formsN [nAt zs 0, nAt zs 1, nAt zs 2, nAt zs 3, nAt zs 4, nAt zs 5, flgI (nAt zs 6 != 0), (ps.length : Int)] ++ (putsZ ps ++ (if nAt zs 0 = 5 then objsZ [v0, v1, v2, v3] else [])) := by
    simp only [msgZ, headZ, Mg.vs, List.append_assoc]
  have key : msgZ (mgw zs ps v0 v1 v2 v3) = zs ↔ isFlg (nAt zs 6) = true ∧ s.length = 0 := by
    constructor
    · intro h
      rw [em] at h
      conv at h => rhs; rw [e]
      obtain ⟨k1, k2⟩ := forms_inj [nAt zs 0, nAt zs 1, nAt zs 2, nAt zs 3, nAt zs 4, nAt zs 5, flgI (nAt zs 6 != 0), (ps.length : Int)] [nAt zs 0, nAt zs 1, nAt zs 2, nAt zs 3, nAt zs 4, nAt zs 5, nAt zs 6, nAt zs 7] _ _ (by rfl) hx hy h
      have k3 : flgI (nAt zs 6 != 0) = nAt zs 6 := by simpa using (List.cons.inj (List.cons.inj (List.cons.inj (List.cons.inj (List.cons.inj (List.cons.inj (List.cons.inj k1).2).2).2).2).2).2).1
      refine ⟨?_, ?_⟩
      · have := flgI_bd (nAt zs 6 != 0)
        simp only [isFlg, Bool.or_eq_true, beq_iff_eq]
        omega
      · have := congrArg List.length k2
        simp only [List.length_append] at this
        omega
    · rintro ⟨hf, hs⟩
      have hs0 : s = [] := List.eq_nil_of_length_eq_zero hs
      have k3 : flgI (nAt zs 6 != 0) = nAt zs 6 := by
        simp only [isFlg, Bool.or_eq_true, beq_iff_eq] at hf
        rcases hf with e6 | e6
        · rw [e6]; rfl
        · rw [e6]; rfl
      rw [em, k3, hq]
      conv => rhs; rw [e]
      rw [hs0, List.append_nil]
  constructor
  · intro h
    obtain ⟨hf, hs⟩ := key.1 h
    rw [parse_got hb h24 g hf h7', fin, if_pos ⟨hs, hr⟩]
  · intro h
    cases hf : isFlg (nAt zs 6)
    · rw [parse, if_neg (by omega), if_pos hf]
    · rw [parse_got hb h24 g hf h7', fin, if_neg (fun hh => h (key.2 ⟨hf, hh.1⟩))]

theorem Got.wrong {zs : List Int} {ps : List PutG} {v0 v1 v2 v3 : Nat × Nat} {r s : List Int} (hb : ∀ z ∈ zs, 0 ≤ z ∧ z < 256) (h24 : 24 ≤ zs.length) (g : Got zs ps v0 v1 v2 v3 r s) (hr : rightB (mgw zs ps v0 v1 v2 v3) = false) : parse zs = none := by
  cases hf : isFlg (nAt zs 6)
  · rw [parse, if_neg (by omega), if_pos hf]
  · by_cases h7 : 24 < nAt zs 7
    · rw [parse, if_neg (by omega), if_neg (by rw [hf]; simp), if_pos h7]
    · rw [parse_got hb h24 g hf (by omega), fin, if_neg (fun hh => by rw [hr] at hh; exact absurd hh.2 (by simp))]

end Go.Proofs.Ytgeoeaadeemmcaa
