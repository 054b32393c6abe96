/- Plain facts on what is read and what would be written. -/
import Derived.Test.YtgeoeaadeemmcaaPk4
namespace Go.Proofs.Ytgeoeaadeemmcaa
open Go.RowKit
set_option linter.unusedVariables false

theorem u8_bd {zs : List Int} (h : ∀ z ∈ zs, (Lit.int .u8 z).wf = true) : ∀ z ∈ zs, 0 ≤ z ∧ z < 256 := by
  intro z hz
  have := h z hz
  simp [Lit.wf, IntKind.min, IntKind.max, IntKind.bits, IntKind.signed] at this
  omega

theorem strOfNums_append (a b : List Int) : strOfNums a ++ strOfNums b = strOfNums (a ++ b) := by
  simp only [strOfNums]
  apply ByteArray.ext
  simp

theorem getN_bd (zs : List Int) (m : Nat) (hb : ∀ z ∈ zs, 0 ≤ z ∧ z < 256) : ∀ z ∈ getN zs m, 0 ≤ z ∧ z ≤ 16777215 := by
  intro z hz
  simp only [getN, List.mem_map] at hz
  obtain ⟨i, _, rfl⟩ := hz
  have := part3_bd zs (3 * i) hb
  omega

/-- What is read is just what would be written. -/
theorem forms_get (zs : List Int) (m : Nat) (hb : ∀ z ∈ zs, 0 ≤ z ∧ z < 256) (h : 3 * m ≤ zs.length) : formsN (getN zs m) = zs.take (3 * m) := by
  induction m with
  | zero => simp [formsN, getN]
  | succ m ih =>
    have e1 : getN zs (m + 1) = getN zs m ++ [rdN ((zs.drop (3 * m)).take 3)] := by simp [getN, List.range_succ]
    have e2 : formsN (getN zs m ++ [rdN ((zs.drop (3 * m)).take 3)]) = formsN (getN zs m) ++ wrN 3 (rdN ((zs.drop (3 * m)).take 3)) := by
      unfold formsN; rw [List.flatMap_append]; simp only [List.flatMap_cons, List.flatMap_nil, List.append_nil]
    rw [e1, e2, ih (by omega), wrN_rdN 3 _ (by simp; omega) (part_bd zs _ _ hb), show 3 * (m + 1) = 3 * m + 3 by omega, List.take_add]

theorem val_take (zs : List Int) (hb : ∀ z ∈ zs, 0 ≤ z ∧ z < 256) (h : 16 ≤ zs.length)
    (h1 : formN (rdW (zs.take 8)) = rdW (zs.take 8)) (h2 : formN (rdW ((zs.drop 8).take 8)) = rdW ((zs.drop 8).take 8)) :
    valN (rdW (zs.take 8)) (rdW ((zs.drop 8).take 8)) = zs.take 16 := by
  have hbA : ∀ z ∈ zs.take 8, 0 ≤ z ∧ z < 256 := fun z hz => hb z (List.mem_of_mem_take hz)
  have hbB := part_bd zs 8 8 hb
  have c1 : ((rdW (zs.take 8) : Nat) : Int) = rdN (zs.take 8) := by have := (rdN_bd _ hbA).1; unfold rdW; omega
  have c2 : ((rdW ((zs.drop 8).take 8) : Nat) : Int) = rdN ((zs.drop 8).take 8) := by have := (rdN_bd _ hbB).1; unfold rdW; omega
  unfold valN
  rw [h1, h2, c1, c2, wrN_rdN 8 _ (by simp; omega) hbA, wrN_rdN 8 _ (by simp; omega) hbB, show 16 = 8 + 8 by omega, List.take_add]

theorem rdW_lt (zs : List Int) (hb : ∀ z ∈ zs, 0 ≤ z ∧ z < 256) (h : zs.length = 8) : rdW zs < 18446744073709551616 := by
  have := rdN_bd zs hb
  rw [h] at this
  have e : (256 : Int) ^ 8 = 18446744073709551616 := by decide
  unfold rdW; omega

theorem str_get (zs : List Int) (m : Nat) (hb : ∀ z ∈ zs, 0 ≤ z ∧ z < 256) (h : 3 * m ≤ zs.length) : strOfNums (formsN (getN zs m)) ++ strOfNums (zs.drop (3 * m)) = strOfNums zs := by
  rw [strOfNums_append, forms_get zs m hb h, List.take_append_drop]

theorem str_take (zs : List Int) (hb : ∀ z ∈ zs, 0 ≤ z ∧ z < 256) (h : 16 ≤ zs.length)
    (h1 : formN (rdW (zs.take 8)) = rdW (zs.take 8)) (h2 : formN (rdW ((zs.drop 8).take 8)) = rdW ((zs.drop 8).take 8)) :
    strOfNums (valN (rdW (zs.take 8)) (rdW ((zs.drop 8).take 8))) ++ strOfNums (zs.drop 16) = strOfNums zs := by
  rw [strOfNums_append, val_take zs hb h h1 h2, List.take_append_drop]

end Go.Proofs.Ytgeoeaadeemmcaa
