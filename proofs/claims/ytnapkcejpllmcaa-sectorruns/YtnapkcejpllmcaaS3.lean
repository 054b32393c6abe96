/- The chapter's example, walked. -/
import Derived.Test.YtnapkcejpllmcaaS2
import Derived.Deep.RegionWith
namespace Go.Proofs.Ytnapkcejpllmcaa
open Go.RowKit
set_option linter.unusedVariables false

/-- The same, where what is of the drive's own lies from a block on. -/
theorem write_okB (g B : Nat) (L : List Sec) (i : Nat) (ao : Option Addr) (n cap : Nat) (bs : List Nat) (w : World) (h : Drv w g (fun k => B ≤ k) L) (hi : i < L.length) (hr : Rd8 w ao n cap bs) (hn : n ≤ 100) (hB : B ≤ w.heap.size) :
    Calls Try.prog 13 #[dp g, .int .i64 (i : Int), .slice ao n cap] w fun e w' => e = .returned (.int .i64 0) ∧ Drv w' g (fun k => B ≤ k) (L.set i (L[i].wrote bs)) ∧ Off g w w' :=
  (write_ok g _ L i ao n cap bs w h hi hr hn).mono fun e w' ⟨h1, h2, h3⟩ => ⟨h1, h2.mono (fun k _ hk => by rcases hk with hk | hk; exact hk; omega) h.vg, h3⟩

theorem loose_n (g : Nat) (V : Nat → Prop) (L : List Sec) (w : World) (m : Nat) (h : Drv w g V L) (hm : (looseK L L.length).length = m) :
    Calls Try.prog 23 #[dp g] w fun e w' => ∃ ao cap, e = .returned (.slice ao m cap) ∧ OwnI w' w.heap.size 3 .i64 ao cap (looseK L L.length) ∧ Below w.heap.size w w' := by
  subst hm
  exact loose_any g V L w h

theorem str_a {w : World} {ao : Option Addr} {cap : Nat} (h : Rd8 w ao 1 cap [97]) : (convert 22 9 (.slice ao 1 cap)).run Try.prog w = .ok (.string ⟨#[97]⟩) w := h.str

theorem crash_ex : ([⟨[97], [], true⟩, ⟨[98], [], true⟩] : List Sec).mapIdx (fate 1) = [⟨[97], [97], false⟩, ⟨[], [], false⟩] := by
  have h0 : kbit 1 0 = true := by decide +kernel
  have h1 : kbit 1 1 = false := by decide +kernel
  simp [List.mapIdx, List.mapIdx.go, fate, h0, h1, Sec.settle, Sec.revert]

set_option maxHeartbeats 1600000 in
theorem alive_any (w : World) : Calls Try.prog 10 #[] w fun e w' => e = .returned (.bool true) ∧ Below w.heap.size w w' := by
  go_enter Try.func10, Try.ntmps10
  go_wp2_with (first
    | (go_at_call 8; refine (new_any 2 w).mono ?_; rintro e w1 ⟨rfl, hD, hS1, hB1⟩; have hD1 : Drv w1 w.heap.size (fun k => w.heap.size + 2 ≤ k) [Sec.e, Sec.e] := hD _ (by omega); clear hD; have hs1 : w.heap.size + 2 ≤ w1.heap.size := (by omega); clear hS1; have hcv := Go.Lib.run_convert_bytes_const (P := Try.prog) w1 22 5 #[.int .u8 97] 1 1 Try.underlying22 Try.underlying5)
    | (go_at_call_of 13 (Value.int .i64 0); refine (write_okB w.heap.size (w.heap.size + 2) [Sec.e, Sec.e] 0 _ 1 _ [97] _ (hD1.below ((Below.refl _ _).alloc (Nat.le_refl _) _)) (by decide) (Rd8.marked w1 _ 1 _ [97] rfl rfl (by intro b hb; simp at hb; omega) (by unfold maxLen; omega)) (by omega) (by simp; omega)).mono ?_; rintro e w2 ⟨rfl, hD2, hO2⟩; have hB2 : Below w.heap.size w w2 := below_off (hB1.alloc (by omega) _) hO2 (Nat.le_refl _) (by simp; omega); have hs2 := hO2.size; simp at hs2; have hcw := Go.Lib.run_convert_bytes_const (P := Try.prog) w2 22 5 #[.int .u8 98] 1 1 Try.underlying22 Try.underlying5)
    | (go_at_call_of 13 (Value.int .i64 1); refine (write_okB w.heap.size (w.heap.size + 2) [⟨[97], [], true⟩, Sec.e] 1 _ 1 _ [98] _ (hD2.below ((Below.refl _ _).alloc (Nat.le_refl _) _)) (by decide) (Rd8.marked w2 _ 1 _ [98] rfl rfl (by intro b hb; simp at hb; omega) (by unfold maxLen; omega)) (by omega) (by simp; omega)).mono ?_; rintro e w3 ⟨rfl, hD3, hO3⟩; have hB3 : Below w.heap.size w w3 := below_off (hB2.alloc (by omega) _) hO3 (Nat.le_refl _) (by simp; omega))
    | (go_at_call 23; refine (loose_n _ _ [⟨[97], [], true⟩, ⟨[98], [], true⟩] w3 2 hD3 (by decide +kernel)).mono ?_; rintro e w4 ⟨ao4, cap4, rfl, _, hb4⟩; have hD4 := hD3.below hb4; have hB4 := below_step hB3 hb4; have hs4 := hb4.size)
    | (go_at_call 17; refine (crash_any _ _ [⟨[97], [], true⟩, ⟨[98], [], true⟩] 1 w4 hD4).mono ?_; rintro e w5 ⟨rfl, hD5, hO5⟩; rw [crash_ex] at hD5; have hB5 : Below w.heap.size w w5 := below_off hB4 hO5 (Nat.le_refl _) hB4.size)
    | (go_at_call_of 9 (Value.int .i64 0); refine (read_ok _ _ [⟨[97], [97], false⟩, ⟨[], [], false⟩] 0 w5 hD5 (by decide)).mono ?_; rintro e w6 ⟨ao6, n6, cap6, rfl, ho6, _, hb6⟩; obtain rfl : n6 = 1 := ho6.len.symm; have hD6 := hD5.below hb6; have hB6 := below_step hB5 hb6)
    | (go_at_call_of 9 (Value.int .i64 1); refine (read_ok _ _ [⟨[97], [97], false⟩, ⟨[], [], false⟩] 1 w6 hD6 (by decide)).mono ?_; rintro e w7 ⟨ao7, n7, cap7, rfl, ho7, _, hb7⟩; obtain rfl : n7 = 0 := ho7.len.symm; have hD7 := hD6.below hb7; have hB7 := below_step hB6 hb7; have hx := str_a (ho6.below hb7).rd)
    | (go_at_call 23; refine (loose_n _ _ [⟨[97], [97], false⟩, ⟨[], [], false⟩] w7 0 hD7 (by decide +kernel)).mono ?_; rintro e w8 ⟨ao8, cap8, rfl, _, hb8⟩; have hB8 := below_step hB7 hb8))
  go_ret
  exact ⟨rfl, hB8⟩

end Go.Proofs.Ytnapkcejpllmcaa
