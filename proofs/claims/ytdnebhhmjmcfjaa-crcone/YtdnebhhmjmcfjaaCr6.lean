/- What the chapter's examples do, walked. -/
import Derived.Test.YtdnebhhmjmcfjaaCr5
import Derived.Lib.SlBytesConst
import Derived.Deep.RegionWith
namespace Go.Proofs.Ytdnebhhmjmcfjaa
open Go.RowKit
set_option linter.unusedVariables false

theorem digits : ofN [49, 50, 51, 52, 53, 54, 55, 56, 57] = 36974 := by decide +kernel
theorem seal_nil : sealN [] = [0, 0] := by decide +kernel

/-- The bytes of a constant string. -/
theorem Rd8.marked (w : World) (xs : Array Value) (n : Nat) (fr : Nat × Nat) (bs : List Nat) (hx : xs.toList = (ci bs).map (Value.int .u8)) (hn : bs.length = n) (hb : ∀ b ∈ bs, b < 256) (hm : n ≤ maxLen) : Rd8 (w.alloc (.cells xs 5 fr)) (some ⟨w.heap.size, 0, none⟩) n n bs := by
  refine ⟨⟨by simp [ci_length]; omega, hm, fun h => (by cases h), fun _ => ⟨w.heap.size, 0, rfl, by simp, fun t ht => ?_⟩⟩, hn, hb⟩
  have hh : (w.alloc (.cells xs 5 fr)).heap[w.heap.size]? = some (.cells xs 5 fr) := heap_alloc_new w _
  simp only [World.cell?, hh]
  have e1 : xs = ((ci bs).map (Value.int .u8)).toArray := by rw [← hx]
  subst e1
  simp only [List.length_map] at ht
  simp [ht]

theorem of_digits (w : World) :
    Calls Try.prog 13 #[.slice (some ⟨w.heap.size + 1, 0, none⟩) 1 1] ((w.alloc (.cells #[.int .u8 49, .int .u8 50, .int .u8 51, .int .u8 52, .int .u8 53, .int .u8 54, .int .u8 55, .int .u8 56, .int .u8 57] 5 (9, 10))).alloc (.cells #[.slice (some ⟨w.heap.size, 0, none⟩) 9 9] 22)) fun r w' => r = .returned (.int .u16 36974) ∧ w' = (w.alloc (.cells #[.int .u8 49, .int .u8 50, .int .u8 51, .int .u8 52, .int .u8 53, .int .u8 54, .int .u8 55, .int .u8 56, .int .u8 57] 5 (9, 10))).alloc (.cells #[.slice (some ⟨w.heap.size, 0, none⟩) 9 9] 22) := by
  have := of_one _ _ _ _ _ (Rd8.marked w #[.int .u8 49, .int .u8 50, .int .u8 51, .int .u8 52, .int .u8 53, .int .u8 54, .int .u8 55, .int .u8 56, .int .u8 57] 9 (9, 10) [49, 50, 51, 52, 53, 54, 55, 56, 57] rfl rfl (by intro b hb; simp at hb; omega) (by unfold maxLen; omega)) 22
  rw [digits] at this
  simpa using this

theorem seal_none (w : World) : Calls Try.prog 15 #[.slice none 0 0] w fun e w' => ∃ ao' cap', e = .returned (.slice ao' 2 cap') ∧ Own8 w' w.heap.size ao' 2 cap' [0, 0] ∧ Below w.heap.size w w' := by
  have := seal_any none 0 0 [] w (Rd8.empty w) (by omega)
  rw [seal_nil] at this
  exact this

/-- What is sealed is opened. -/
theorem open_seal (ao : Option Addr) (n cap : Nat) (bs : List Nat) (w : World) (h : Rd8 w ao (n + 2) cap (sealN bs)) (hl : bs.length = n) (hn : n + 2 ≤ 140737488355328) :
    Calls Try.prog 9 #[.slice ao (n + 2) cap] w fun e w' => ∃ ao' cap', e = .returned (.tuple #[.slice ao' n cap', .int .i64 0]) ∧ Own8 w' w.heap.size ao' n cap' bs ∧ Below w.heap.size w w' := by
  have := open_ok ao n (n + 2) cap (sealN bs) w h rfl hn (sealN_ok bs)
  rw [show (sealN bs).take n = bs by have := sealN_take bs; rwa [sealN_length, hl, Nat.add_sub_cancel] at this] at this
  exact this

theorem str_x {w : World} {ao : Option Addr} {cap : Nat} (h : Rd8 w ao 1 cap [120]) : (convert 22 9 (.slice ao 1 cap)).run Try.prog w = .ok (.string ⟨#[120]⟩) w := h.str
theorem str_00 {w : World} {ao : Option Addr} {cap : Nat} (h : Rd8 w ao 2 cap [0, 0]) : (convert 22 9 (.slice ao 2 cap)).run Try.prog w = .ok (.string ⟨#[0, 0]⟩) w := h.str

set_option maxHeartbeats 800000 in
theorem alive_any (w : World) : Calls Try.prog 10 #[] w fun e w' => e = .returned (.bool true) ∧ Below w.heap.size w w' := by
  have hcv := Go.Lib.run_convert_bytes_const (P := Try.prog) w 22 5 #[.int .u8 120] 1 1 Try.underlying22 Try.underlying5
  go_enter Try.func10, Try.ntmps10
  go_wp2_with (first
    | (go_at_call_of 15 (Value.slice none 0 0); refine (seal_none _).mono ?_; rintro e w3 ⟨ao3, cap3, rfl, ho3, hb3⟩; have hx2 := str_00 ho3.rd)
    | (go_at_call 15; refine (seal_any _ 1 _ [120] _ (Rd8.marked w _ 1 _ [120] rfl rfl (by intro b hb; simp at hb; omega) (by unfold maxLen; omega)) (by omega)).mono ?_; rintro e w1 ⟨ao1, cap1, rfl, ho1, hb1⟩)
    | (go_at_call 9; refine (open_seal _ 1 _ [120] _ ho1.rd rfl (by omega)).mono ?_; rintro e w2 ⟨ao2, cap2, rfl, ho2, hb2⟩; have hB2 : Below w.heap.size w w2 := below_step (below_alloc (hb1.mono (by simp))) hb2; have hcw := Go.Lib.run_convert_bytes_const (P := Try.prog) w2 22 5 #[.int .u8 49, .int .u8 50, .int .u8 51, .int .u8 52, .int .u8 53, .int .u8 54, .int .u8 55, .int .u8 56, .int .u8 57] 9 9 Try.underlying22 Try.underlying5)
    | (go_at_call 13; refine (of_digits w2).mono ?_; rintro e w' ⟨rfl, hw⟩; subst w'; have hx1 := str_x ((ho2.rd.alloc (.cells #[.int .u8 49, .int .u8 50, .int .u8 51, .int .u8 52, .int .u8 53, .int .u8 54, .int .u8 55, .int .u8 56, .int .u8 57] 5 (9, 10))).alloc (.cells #[.slice (some ⟨w2.heap.size, 0, none⟩) 9 9] 22))))
  go_ret
  exact ⟨rfl, below_step hB2 (below_alloc (((Below.refl _ _).alloc (by simp) _).trans (hb3.mono (by simp; omega))))⟩

end Go.Proofs.Ytdnebhhmjmcfjaa
