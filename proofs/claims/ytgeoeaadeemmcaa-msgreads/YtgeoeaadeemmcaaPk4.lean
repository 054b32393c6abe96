/- What the calls of package pack on complex numbers do, walked. -/
import Derived.Test.YtgeoeaadeemmcaaPk3
import Derived.Deep.RegionWith
namespace Go.Proofs.Ytgeoeaadeemmcaa
open Go.RowKit
set_option linter.unusedVariables false

/-- The form of a complex number. -/
def valN (a b : Nat) : List Int := wrN 8 (formN a : Int) ++ wrN 8 (formN b : Int)

theorem valN_length (a b : Nat) : (valN a b).length = 16 := by simp [valN]

set_option maxHeartbeats 800000 in
theorem value_any (a b : Nat) (w : World) (ha : formN a < 18446744073709551616) (hb : formN b < 18446744073709551616) :
    Calls Try.prog 19 #[.complex .f64 a b] w fun e w' => ∃ ao cap, e = .returned (.slice ao 16 cap) ∧ OwnI w' w.heap.size 5 .u8 ao cap (valN a b) ∧ Below w.heap.size w w' := by
  go_enter Try.func19, Try.ntmps19
  go_wp2_with (first
    | (go_at_call 42; refine (bits_any _ _ _).mono ?_; rintro e w' ⟨rfl, hw⟩; subst w')
    | (at_make; go_loud (refine wpList_make0I _ rfl _ _ 22 rfl w.heap.size 5 .u8 (.int .u8 0) 1 Try.underlying22 info5 16 rfl rfl (by omega) (by omega) (by unfold maxLen; omega) (Nat.le_refl _) ?_); intro ao1 w1 ho1 hb1)
    | (go_at_call_of 41 (Value.int IntKind.u64 (formN a : Int)); refine (appendForm_any w.heap.size _ _ 0 [] (formN a : Int) 8 _ ho1 rfl (by omega) (by omega) (by omega) (by omega) hb1.size).mono ?_; rintro e w2 ⟨ao2, cap2, rfl, ho2, hb2⟩)
    | (go_at_call_of 41 (Value.int IntKind.u64 (formN b : Int)); refine (appendForm_any w.heap.size _ _ 8 _ (formN b : Int) 8 _ ho2 (by simp) (by omega) (by omega) (by omega) (by omega) (hb1.trans hb2).size).mono ?_; rintro e w3 ⟨ao3, cap3, rfl, ho3, hb3⟩))
  go_ret
  exact ⟨_, _, rfl, ho3, hb1.trans (hb2.trans hb3)⟩

set_option maxHeartbeats 800000 in
theorem take_short (ao : Option Addr) (cap n : Nat) (w : World) (h : n < 16) :
    Calls Try.prog 49 #[.slice ao n cap] w fun e w' => e = .returned (.tuple #[.complex .f64 0 0, .slice none 0 0, .int .i64 21]) ∧ w' = w := by
  go_enter Try.func49, Try.ntmps49
  go_wp2
  go_ret3
  exact ⟨rfl, rfl⟩

/-- The word of some bytes. -/
def rdW (l : List Int) : Nat := (rdN l).toNat

theorem readForm_w (ao : Option Addr) (cap n : Nat) (zs : List Int) (w : World) (hrd : RdI w .u8 ao cap zs) (hn : zs.length = n) (h8 : n ≤ 8)
    (hb : ∀ z ∈ zs, 0 ≤ z ∧ z < 256) :
    Calls Try.prog 47 #[.slice ao n cap] w fun e w' => e = .returned (.int .u64 (rdW zs : Int)) ∧ w' = w := by
  refine (readForm_any ao cap n zs w hrd hn h8 hb).mono ?_
  rintro e w' ⟨rfl, rfl⟩
  exact ⟨ret_int (by have := (rdN_bd zs hb).1; unfold rdW; omega), rfl⟩

set_option maxHeartbeats 200000 in
theorem take_long (ao : Option Addr) (cap n : Nat) (zs : List Int) (w : World) (hrd : RdI w .u8 ao cap zs) (hn : zs.length = n) (hb : ∀ z ∈ zs, 0 ≤ z ∧ z < 256) (h16 : 16 ≤ n) (hlen : n ≤ 140737488355328)
    (h1 : formN (rdW (zs.take 8)) = rdW (zs.take 8)) (h2 : formN (rdW ((zs.drop 8).take 8)) = rdW ((zs.drop 8).take 8)) :
    Calls Try.prog 49 #[.slice ao n cap] w fun e w' => ∃ a2 c2, e = .returned (.tuple #[.complex .f64 (rdW (zs.take 8)) (rdW ((zs.drop 8).take 8)), .slice a2 (n - 16) c2, .int .i64 0]) ∧ OwnI w' w.heap.size 5 .u8 a2 c2 (zs.drop 16) ∧ Below w.heap.size w w' := by
  have hle := hrd.le
  have hcut1 := hrd.head 8 (by omega)
  have hcut2 := hrd.cut 8 16 (by omega) (by omega)
  rw [if_neg (by omega)] at hcut2
  have hbA : ∀ z ∈ zs.take 8, 0 ≤ z ∧ z < 256 := fun z hz => hb z (List.mem_of_mem_take hz)
  have hbB := part_bd zs 8 8 hb
  have hl1 : (zs.take 8).length = 8 := by simp; omega
  have hl2 : ((zs.drop 8).take 8).length = 8 := by simp; omega
  go_enter Try.func49, Try.ntmps49
  go_wp2
  go_quiet ((first
    | (go_at_call_of 47 (Value.slice ao 8 cap); refine (readForm_w ao cap 8 (zs.take 8) _ ?_ hl1 (Nat.le_refl 8) hbA).mono ?_; exact hcut1.heap rfl; rintro e w' ⟨rfl, hw⟩; subst w'; exact ⟨rfl, _, rfl⟩)
    | (go_at_call 47; refine (readForm_w _ (cap - 8) 8 ((zs.drop 8).take 8) _ ?_ hl2 (Nat.le_refl 8) hbB).mono ?_; exact hcut2.heap rfl; rintro e w' ⟨rfl, hw⟩; subst w'; exact ⟨rfl, _, rfl⟩)))
  go_wp2_with (first
    | (go_at_call 64; refine (of_any _ _ _).mono ?_; rintro e w' ⟨rfl, hw⟩; subst w')
    | (go_at_call 42; refine (bits_any _ _ _).mono ?_; rintro e w' ⟨rfl, hw⟩; subst w')
    | (go_at_call 48; refine (rest_any ao cap n 16 zs _ ?_ hn h16 hlen).mono ?_; exact hrd.heap rfl; rintro e w2 ⟨ao2, cap2, rfl, ho2, hb2⟩))
  go_ret3
  exact ⟨_, _, rfl, ho2, ⟨hb2.os, hb2.tape, hb2.output, hb2.size, hb2.block⟩⟩

set_option maxHeartbeats 400000 in
theorem take_odd (ao : Option Addr) (cap n : Nat) (zs : List Int) (w : World) (hrd : RdI w .u8 ao cap zs) (hn : zs.length = n) (hb : ∀ z ∈ zs, 0 ≤ z ∧ z < 256) (h16 : 16 ≤ n) (hlen : n ≤ 140737488355328)
    (hbad : formN (rdW (zs.take 8)) ≠ rdW (zs.take 8) ∨ formN (rdW ((zs.drop 8).take 8)) ≠ rdW ((zs.drop 8).take 8)) :
    Calls Try.prog 49 #[.slice ao n cap] w fun e w' => e = .returned (.tuple #[.complex .f64 0 0, .slice none 0 0, .int .i64 21]) ∧ Below w.heap.size w w' := by
  have hle := hrd.le
  have hcut1 := hrd.head 8 (by omega)
  have hcut2 := hrd.cut 8 16 (by omega) (by omega)
  rw [if_neg (by omega)] at hcut2
  have hbA : ∀ z ∈ zs.take 8, 0 ≤ z ∧ z < 256 := fun z hz => hb z (List.mem_of_mem_take hz)
  have hbB := part_bd zs 8 8 hb
  have hl1 : (zs.take 8).length = 8 := by simp; omega
  have hl2 : ((zs.drop 8).take 8).length = 8 := by simp; omega
  by_cases h1 : formN (rdW (zs.take 8)) = rdW (zs.take 8)
  have h2 : ¬ formN (rdW ((zs.drop 8).take 8)) = rdW ((zs.drop 8).take 8) := by rcases hbad with h | h; exact absurd h1 h; exact h
  all_goals clear hbad
  all_goals go_enter Try.func49, Try.ntmps49
  all_goals go_wp2
  all_goals go_quiet ((first
    | (go_at_call_of 47 (Value.slice ao 8 cap); refine (readForm_w ao cap 8 (zs.take 8) _ ?_ hl1 (Nat.le_refl 8) hbA).mono ?_; exact hcut1.heap rfl; rintro e w' ⟨rfl, hw⟩; subst w'; exact ⟨rfl, _, rfl⟩)
    | (go_at_call 47; refine (readForm_w _ (cap - 8) 8 ((zs.drop 8).take 8) _ ?_ hl2 (Nat.le_refl 8) hbB).mono ?_; exact hcut2.heap rfl; rintro e w' ⟨rfl, hw⟩; subst w'; exact ⟨rfl, _, rfl⟩)))
  all_goals go_wp2_with (first
    | (go_at_call 64; refine (of_any _ _ _).mono ?_; rintro e w' ⟨rfl, hw⟩; subst w')
    | (go_at_call 42; refine (bits_any _ _ _).mono ?_; rintro e w' ⟨rfl, hw⟩; subst w')
    | (go_at_call 48; refine (rest_any ao cap n 16 zs _ ?_ hn h16 hlen).mono ?_; exact hrd.heap rfl; rintro e w2 ⟨ao2, cap2, rfl, ho2, hb2⟩))
  all_goals
    go_ret3
    exact ⟨rfl, ⟨rfl, rfl, rfl, Nat.le_refl _, fun _ _ => rfl⟩⟩

end Go.Proofs.Ytgeoeaadeemmcaa
