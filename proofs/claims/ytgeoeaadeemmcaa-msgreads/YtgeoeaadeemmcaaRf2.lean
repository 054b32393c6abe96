/- What the document's answer for package crc does, walked: frames and bursts. -/
import Derived.Test.YtgeoeaadeemmcaaRf1
import Derived.Deep.RegionHeld
namespace Go.Proofs.Ytgeoeaadeemmcaa
open Go.RowKit
set_option linter.unusedVariables false

set_option maxHeartbeats 400000 in
theorem refSeal_any (ao : Option Addr) (n cap : Nat) (bs : List Nat) (w : World) (h : Rd8 w ao n cap bs) (hn : n + 2 ≤ 140737488355328) :
    Calls Try.prog 36 #[.slice ao n cap] w fun e w' => ∃ ao' cap', e = .returned (.slice ao' (n + 2) cap') ∧ Own8 w' w.heap.size ao' (n + 2) cap' (sealN bs) ∧ Below w.heap.size w w' := by
  have hl := h.len
  have hof := ofN_lt h.byte
  go_enter Try.func36, Try.ntmps36
  go_wp2_with (first
    | (go_at_call 58; refine (refOf_any _ _ _ _ _ h (by omega)).mono ?_; rintro e w' ⟨rfl, hw⟩; subst w')
    | (at_builtin; refine wpList_append_rdI _ rfl (.tmp 7) (.tmp 8) 22 rfl w.heap.size 5 .u8 (.int .u8 0) 1 Try.underlying22 info5 rfl rfl rfl (OwnI.fresh w _ _ _ (Nat.le_refl _)) (h.alloc _).rd rfl (by rw [ci_length]; omega) (by omega) (by unfold maxLen; omega) (by simp) ?_; intro ao2 cap2 w2 ho2 hb2; have hB2 : Below w.heap.size w w2 := below_alloc hb2)
    | (at_builtin; refine wpList_append_rdI _ rfl (.tmp 10) (.tmp 17) 22 rfl w.heap.size 5 .u8 (.int .u8 0) 1 Try.underlying22 info5 rfl rfl rfl (OwnI.alloc ho2 _) (RdI.built w2 5 .u8 _ 2 [_, _] rfl rfl (by decide)) (by simp [ci_length]; omega) rfl (by omega) (by unfold maxLen; omega) (by have := hB2.size; simp; omega) ?_; intro ao3 cap3 w3 ho3 hb3))
  go_ret
  refine ⟨_, _, rfl, ⟨?_, by rw [sealN_length, hl], sealN_bytes h.byte⟩, (hB2.alloc hB2.size _).trans hb3⟩
  have e : ci (sealN bs) = ci bs ++ [((ofN bs % 256 : Nat) : Int), ((ofN bs / 256 : Nat) : Int)] := by simp [ci, sealN]
  rw [e]
  simpa using ho3

theorem seal_iff (fs : List Nat) (m n : Nat) (hl : fs.length = n) (hm : n = m + 2) (hb : ∀ b ∈ fs, b < 256) : sealN (fs.take m) = fs ↔ okN fs := by
  constructor
  · intro e
    rw [← e]
    exact sealN_ok _
  · intro ho
    have e := two_last fs (by omega)
    have hlo : fs.getD (fs.length - 2) 0 < 256 := by
      rw [List.getD_eq_getElem?_getD, List.getElem?_eq_getElem (by omega)]; exact hb _ (List.getElem_mem _)
    unfold okN at ho
    have em : fs.length - 2 = m := by omega
    rw [em] at ho e hlo
    conv => rhs; rw [e]
    unfold sealN
    rw [ho]
    congr 2
    · omega
    · congr 1
      omega

set_option maxHeartbeats 400000 in
theorem refOpen_short (ao : Option Addr) (n cap : Nat) (w : World) (hn : n < 2) :
    Calls Try.prog 38 #[.slice ao n cap] w fun e w' => e = .returned (.tuple #[.slice none 0 0, .int .i64 31]) ∧ w' = w := by
  go_enter Try.func38, Try.ntmps38
  go_wp2
  go_ret2
  exact ⟨rfl, rfl⟩

set_option maxHeartbeats 800000 in
theorem refOpen_ok (ao : Option Addr) (m n cap : Nat) (fs : List Nat) (w : World) (h : Rd8 w ao n cap fs) (hm : n = m + 2) (hn : n ≤ 140737488355328) (hok : okN fs) :
    Calls Try.prog 38 #[.slice ao n cap] w fun e w' => ∃ ao' cap', e = .returned (.tuple #[.slice ao' m cap', .int .i64 0]) ∧ Own8 w' w.heap.size ao' m cap' (fs.take m) ∧ Below w.heap.size w w' := by
  subst hm
  have hl := h.len
  have hcap := h.rd.le
  rw [ci_length, hl] at hcap
  have HE : Hid (sealN (fs.take m) = fs) := (seal_iff fs m (m + 2) hl rfl h.byte).2 hok
  have ht : (fs.take m).length = m := by simp; omega
  clear hok
  go_enter Try.func38, Try.ntmps38
  go_wp2_with (at_builtin; refine wpList_append_rdI _ rfl (.tmp 8) (.tmp 13) 22 rfl w.heap.size 5 .u8 (.int .u8 0) 1 Try.underlying22 info5 rfl rfl rfl (OwnI.fresh w _ _ _ (Nat.le_refl _)) ((h.alloc _).head m (by omega)).rd rfl (by rw [ci_length]; exact ht) (by omega) (by unfold maxLen; omega) (by simp) ?_; intro ao2 cap2 w2 ho2 hb2; have hB2 : Below w.heap.size w w2 := below_alloc hb2)
  have ho2' : Own8 w2 w.heap.size ao2 m cap2 (fs.take m) := ⟨ho2, ht, fun b hb => h.byte b (List.mem_of_mem_take hb)⟩
  have hS : Hid (∀ w', Below w2.heap.size w2 w' → (convert 22 9 (.slice ao (m + 2) cap)).run Try.prog w' = .ok (.string (strOfNums (ci fs))) w') := fun w' hh => ((h.below hB2).below hh).str
  first
    | go_region_held (fun w' => (convert 22 9 (.slice ao (m + 2) cap)).run Try.prog w' = .ok (.string (strOfNums (ci fs))) w')
      (first | exact hS.out _ (Below.refl _ _) | exact hS.out _ (Below.refl _ _).drew | exact hS.out _ ⟨hb4.os, hb4.tape, hb4.output, hb4.size, hb4.block⟩)
      ((go_at_call 36; refine (refSeal_any _ _ _ _ _ (ho2'.rd.heap (w' := w2.drew) rfl) (by omega)).mono ?_; rintro e w4 ⟨a4, c4, rfl, ho4, hb4⟩; rw [HE.out] at ho4; have hx4 := ho4.rd.str))
    | fail
  have hb24 : Below w2.heap.size w2 w4 := ⟨hb4.os, hb4.tape, hb4.output, hb4.size, hb4.block⟩
  go_wp2
  go_ret2
  exact ⟨_, _, rfl, ho2'.below hb24, below_step hB2 hb24⟩

set_option maxHeartbeats 800000 in
theorem refOpen_bad (ao : Option Addr) (m n cap : Nat) (fs : List Nat) (w : World) (h : Rd8 w ao n cap fs) (hm : n = m + 2) (hn : n ≤ 140737488355328) (hok : ¬ okN fs) :
    Calls Try.prog 38 #[.slice ao n cap] w fun e w' => e = .returned (.tuple #[.slice none 0 0, .int .i64 31]) ∧ Below w.heap.size w w' := by
  subst hm
  have hl := h.len
  have hcap := h.rd.le
  rw [ci_length, hl] at hcap
  have ht : (fs.take m).length = m := by simp; omega
  have hbt : ∀ b ∈ fs.take m, b < 256 := fun b hb => h.byte b (List.mem_of_mem_take hb)
  have hns := str_ne (sealN_bytes hbt) h.byte (fun e => hok ((seal_iff fs m (m + 2) hl rfl h.byte).1 e))
  have HBT : Hid (∀ b ∈ fs.take m, b < 256) := hbt
  clear hok hbt
  go_enter Try.func38, Try.ntmps38
  go_wp2_with (at_builtin; refine wpList_append_rdI _ rfl (.tmp 8) (.tmp 13) 22 rfl w.heap.size 5 .u8 (.int .u8 0) 1 Try.underlying22 info5 rfl rfl rfl (OwnI.fresh w _ _ _ (Nat.le_refl _)) ((h.alloc _).head m (by omega)).rd rfl (by rw [ci_length]; exact ht) (by omega) (by unfold maxLen; omega) (by simp) ?_; intro ao2 cap2 w2 ho2 hb2; have hB2 : Below w.heap.size w w2 := below_alloc hb2)
  have ho2' : Own8 w2 w.heap.size ao2 m cap2 (fs.take m) := ⟨ho2, ht, HBT.out⟩
  have hS : Hid (∀ w', Below w2.heap.size w2 w' → (convert 22 9 (.slice ao (m + 2) cap)).run Try.prog w' = .ok (.string (strOfNums (ci fs))) w') := fun w' hh => ((h.below hB2).below hh).str
  first
    | go_region_held (fun w' => (convert 22 9 (.slice ao (m + 2) cap)).run Try.prog w' = .ok (.string (strOfNums (ci fs))) w')
      (first | exact hS.out _ (Below.refl _ _) | exact hS.out _ (Below.refl _ _).drew | exact hS.out _ ⟨hb4.os, hb4.tape, hb4.output, hb4.size, hb4.block⟩)
      ((go_at_call 36; refine (refSeal_any _ _ _ _ _ (ho2'.rd.heap (w' := w2.drew) rfl) (by omega)).mono ?_; rintro e w4 ⟨a4, c4, rfl, ho4, hb4⟩; have hx4 := ho4.rd.str))
    | fail
  have hb24 : Below w2.heap.size w2 w4 := ⟨hb4.os, hb4.tape, hb4.output, hb4.size, hb4.block⟩
  go_wp2
  go_ret2
  exact ⟨rfl, below_step hB2 hb24⟩

end Go.Proofs.Ytgeoeaadeemmcaa
