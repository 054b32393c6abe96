/- What bytes.Clone and the short functions of package link do, walked. -/
import Derived.Test.YtmmgdmfdiaoegaaGreatLm
import Derived.Handy
import Derived.BigQuiet
import Derived.Lib.SliceRun
import Derived.Laws.OwnMore
namespace Go.Proofs.YtmmgdmfdiaoegaaGreat.Lnk
open Go.RowKit
set_option linter.unusedVariables false
set_option maxRecDepth 8000

/-- The pointer to a link. -/
abbrev lp (g : Nat) : Value := .pointer (some ⟨g, 0, none⟩)

theorem ret_int {a b : Int} (h : a = b) : Ending.returned (.int .i64 a) = .returned (.int .i64 b) := by rw [h]
theorem ret_bool {a b : Bool} (h : a = b) : Ending.returned (.bool a) = .returned (.bool b) := by rw [h]

theorem nil_of_none {w : World} {n cap : Nat} {bs : List Nat} (h : Rd8 w none n cap bs) : n = 0 ∧ cap = 0 ∧ bs = [] := by
  have h1 := RdS.nil h.rd rfl
  have h2 := h.rd.le
  have h3 := h.len
  rw [ci_length] at h2
  exact ⟨by omega, h1, List.eq_nil_of_length_eq_zero (by omega)⟩

set_option maxHeartbeats 400000 in
theorem clone_any (ao : Option Addr) (n cap : Nat) (bs : List Nat) (w : World) (h : Rd8 w ao n cap bs) (hn : n ≤ 140737488355328) :
    Calls Tryz.prog 47 #[.slice ao n cap] w fun e w' => ∃ ao' cap', e = .returned (.slice ao' n cap') ∧ By w' (fun k => w.heap.size ≤ k) (.slice ao' n cap') bs ∧ Below w.heap.size w w' := by
  have hl := h.len
  cases ao with
  | none =>
    obtain ⟨rfl, rfl, rfl⟩ := nil_of_none h
    have hq : ∀ W : World, (binOp .eql 43 (.slice none 0 0) (.slice none 0 0)).run Tryz.prog W = .ok (.bool true) W := fun W => Go.Lib.run_eql_slice_nil (P := Tryz.prog) W 43 5 none 0 0 0 0 Tryz.underlying43
    go_enter Tryz.func47, Tryz.ntmps47
    go_wp2
    go_ret
    exact ⟨none, 0, rfl, By.nil _ _, Below.refl _ _⟩
  | some a =>
    have hq : ∀ W : World, (binOp .eql 43 (.slice (some a) n cap) (.slice none 0 0)).run Tryz.prog W = .ok (.bool false) W := fun W => Go.Lib.run_eql_slice_nil (P := Tryz.prog) W 43 5 (some a) n cap 0 0 Tryz.underlying43
    go_enter Tryz.func47, Tryz.ntmps47
    go_wp2_with (at_builtin; refine wpList_append_rdI _ rfl _ _ 43 rfl w.heap.size 5 .u8 (.int .u8 0) 1 Tryz.underlying43 info5 rfl rfl rfl (OwnI.fresh w w.heap.size 5 .u8 (Nat.le_refl _)) (h.alloc _).rd rfl (by rw [ci_length]; exact hl) (by omega) (by unfold maxLen; omega) (by simp) ?_; intro ao2 cap2 w1 ho1 hb1)
    go_ret
    refine ⟨ao2, cap2, by simp, ?_, below_alloc hb1⟩
    exact By.own ⟨by simpa using ho1, hl, h.byte⟩

theorem new_any (cl ep bo : Int) (sv : Bool) (w : World) :
    Calls Tryz.prog 21 #[.int .i64 cl, .int .i64 ep, .int .i64 bo, .bool sv] w fun e w' => e = .returned (lp w.heap.size) ∧ (∀ B V, B ≤ w.heap.size → Lk w' B w.heap.size none 0 0 V ⟨cl, ep, bo, sv⟩ [] 0 0) ∧ Below w.heap.size w w' := by
  go_enter Tryz.func21, Tryz.ntmps21
  go_wp2
  go_ret
  exact ⟨rfl, fun B V hB => Lk.new w B V ⟨cl, ep, bo, sv⟩ hB, by go_grown⟩

section
variable (w : World) (B g : Nat) (ao : Option Addr) (n cap : Nat) (V : Nat → Prop) (I : LkI) (L : List (List Nat)) (s h : Nat)

theorem known_any (H : Lk w B g ao n cap V I L s h) : Calls Tryz.prog 49 #[lp g] w fun e w' => e = .returned (.int .i64 ((s : Int) - (n : Int))) ∧ ∃ j, w' = w.drewN j := by
  have h4 := H.hd.c4
  have h5 := H.hd.c5
  have h1 := H.sl
  have h2 := H.sm
  have hw1 : IntKind.i64.wrap ((s : Int) - (n : Int)) = (s : Int) - (n : Int) := by rw [IntKind.wrap_i64]; omega
  go_enter Tryz.func49, Tryz.ntmps49
  go_wp2
  go_quiet (fail)
  go_wp2
  go_ret
  exact ⟨rfl, _, rfl⟩
end

end Go.Proofs.YtmmgdmfdiaoegaaGreat.Lnk
