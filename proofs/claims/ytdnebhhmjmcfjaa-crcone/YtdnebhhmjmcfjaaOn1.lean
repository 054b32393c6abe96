/- The sum of three parts, wherever the slice of the parts was built. -/
import Derived.Test.YtdnebhhmjmcfjaaGr
import Derived.ChangeKeysEq
namespace Go.Proofs.Ytdnebhhmjmcfjaa
open Go.RowKit
set_option linter.unusedVariables false

/-- A slice of an array of two bytes. -/
theorem Rd8.two {w : World} {g x y : Nat} (h0 : w.cell? ⟨g, 0, none⟩ = some (.int .u8 (x : Int))) (h1 : w.cell? ⟨g, 1, none⟩ = some (.int .u8 (y : Int))) (hx : x < 256) (hy : y < 256) : Rd8 w (some ⟨g, 0, none⟩) 2 2 [x, y] := by
  refine ⟨⟨by simp [ci], by unfold maxLen; omega, fun h => (by cases h), fun _ => ⟨g, 0, rfl, World.block_lt_of_cell? w _ h0, fun t ht => ?_⟩⟩, rfl, ?_⟩
  · simp [ci] at ht
    have : t = 0 ∨ t = 1 := by omega
    rcases this with rfl | rfl
    · simpa [ci] using h0
    · simpa [ci] using h1
  · intro b hb
    simp at hb
    rcases hb with rfl | rfl <;> assumption

theorem cell_last (w : World) (cs : Array Value) (e : TypeId) (i : Nat) : (w.alloc (.cells cs e)).cell? ⟨w.heap.size, i, none⟩ = cs[i]? := by
  simp only [World.cell?, heap_alloc_new]
  rfl

theorem cell_second (w : World) (o : Obj) (cs : Array Value) (e : TypeId) (i : Nat) : ((w.alloc o).alloc (.cells cs e)).drew.cell? ⟨w.heap.size + 1, i, none⟩ = cs[i]? := by
  have h := cell_last (w.alloc o) cs e i
  rw [show (w.alloc o).heap.size = w.heap.size + 1 by simp] at h
  exact h

theorem cell_first (w : World) (o : Obj) (cs : Array Value) (e : TypeId) (i : Nat) : ((w.alloc (.cells cs e)).alloc o).drew.cell? ⟨w.heap.size, i, none⟩ = cs[i]? := by
  have h := cell_last w cs e i
  have hb : Below (w.alloc (.cells cs e)).heap.size (w.alloc (.cells cs e)) ((w.alloc (.cells cs e)).alloc o) := (Below.refl _ _).alloc (Nat.le_refl _) o
  rw [← h]
  exact hb.cell (p := ⟨w.heap.size, i, none⟩) (by simp)

theorem of3_last (w : World) (k : Nat) (hk : k = w.heap.size) {a0 a1 a2 : Option Addr} {n0 c0 n1 c1 n2 c2 : Nat} {b0 b1 b2 : List Nat} (h0 : Rd8 w a0 n0 c0 b0) (h1 : Rd8 w a1 n1 c1 b1) (h2 : Rd8 w a2 n2 c2 b2) :
    Calls Try.prog 13 #[.slice (some ⟨k, 0, none⟩) 3 3] (w.alloc (.cells #[.slice a0 n0 c0, .slice a1 n1 c1, .slice a2 n2 c2] 22)) fun e w' => e = .returned (.int .u16 (ofN (b0 ++ (b1 ++ b2)) : Nat)) ∧ w' = w.alloc (.cells #[.slice a0 n0 c0, .slice a1 n1 c1, .slice a2 n2 c2] 22) := by
  subst hk
  have := of_any (some ⟨w.heap.size, 0, none⟩) 3 3 [⟨a0, n0, c0, b0⟩, ⟨a1, n1, c1, b1⟩, ⟨a2, n2, c2, b2⟩] (w.alloc (.cells #[.slice a0 n0 c0, .slice a1 n1 c1, .slice a2 n2 c2] 22)) (RdS.built w 22 [.slice a0 n0 c0, .slice a1 n1 c1, .slice a2 n2 c2] (by simp [maxLen])) rfl
    (by intro p hp; simp at hp; rcases hp with rfl | rfl | rfl <;> first | exact h0.alloc _ | exact h1.alloc _ | exact h2.alloc _)
  simpa using this

theorem of3_first (w : World) (o : Obj) (k : Nat) (hk : k = w.heap.size) {a0 a1 a2 : Option Addr} {n0 c0 n1 c1 n2 c2 : Nat} {b0 b1 b2 : List Nat} (h0 : Rd8 w a0 n0 c0 b0) (h1 : Rd8 w a1 n1 c1 b1) (h2 : Rd8 w a2 n2 c2 b2) :
    Calls Try.prog 13 #[.slice (some ⟨k, 0, none⟩) 3 3] ((w.alloc (.cells #[.slice a0 n0 c0, .slice a1 n1 c1, .slice a2 n2 c2] 22)).alloc o) fun e w' => e = .returned (.int .u16 (ofN (b0 ++ (b1 ++ b2)) : Nat)) ∧ w' = (w.alloc (.cells #[.slice a0 n0 c0, .slice a1 n1 c1, .slice a2 n2 c2] 22)).alloc o := by
  subst hk
  have := of_any (some ⟨w.heap.size, 0, none⟩) 3 3 [⟨a0, n0, c0, b0⟩, ⟨a1, n1, c1, b1⟩, ⟨a2, n2, c2, b2⟩] ((w.alloc (.cells #[.slice a0 n0 c0, .slice a1 n1 c1, .slice a2 n2 c2] 22)).alloc o) ((RdS.built w 22 [.slice a0 n0 c0, .slice a1 n1 c1, .slice a2 n2 c2] (by simp [maxLen])).alloc o) rfl
    (by intro p hp; simp at hp; rcases hp with rfl | rfl | rfl <;> first | exact (h0.alloc _).alloc _ | exact (h1.alloc _).alloc _ | exact (h2.alloc _).alloc _)
  simpa using this

theorem of3_second (w : World) (o : Obj) (k : Nat) (hk : k = w.heap.size) {a0 a1 a2 : Option Addr} {n0 c0 n1 c1 n2 c2 : Nat} {b0 b1 b2 : List Nat} (h0 : Rd8 w a0 n0 c0 b0) (h1 : Rd8 w a1 n1 c1 b1) (h2 : Rd8 w a2 n2 c2 b2) :
    Calls Try.prog 13 #[.slice (some ⟨k + 1, 0, none⟩) 3 3] ((w.alloc o).alloc (.cells #[.slice a0 n0 c0, .slice a1 n1 c1, .slice a2 n2 c2] 22)) fun e w' => e = .returned (.int .u16 (ofN (b0 ++ (b1 ++ b2)) : Nat)) ∧ w' = (w.alloc o).alloc (.cells #[.slice a0 n0 c0, .slice a1 n1 c1, .slice a2 n2 c2] 22) :=
  of3_last (w.alloc o) (k + 1) (by rw [hk]; simp) (h0.alloc o) (h1.alloc o) (h2.alloc o)

/-- Two arrays of two bytes, compared. -/
theorem eq38 (w : World) (x y z t : Nat) : (Op.equalIn 10000 38 (.agg #[.int .u8 (x : Int), .int .u8 (y : Int)]) (.agg #[.int .u8 (z : Int), .int .u8 (t : Int)])).run Try.prog w = .ok (decide (x = z ∧ y = t)) w := by
  have pk : Try.prog.plainKey 5 = true := by kernel_rfl
  obtain ⟨i0, hi0, _⟩ := info_parts info5
  rw [run_equalIn_array (P := Try.prog) w 9999 #[.int .u8 (x : Int), .int .u8 (y : Int)] #[.int .u8 (z : Int), .int .u8 (t : Int)] Try.underlying38 hi0]
  have r2 : List.range 2 = [0, 1] := rfl
  have p0 : (part 5 #[Value.int .u8 (x : Int), .int .u8 (y : Int)] 0).run Try.prog w = .ok (.int .u8 (x : Int)) w := run_part_plain w pk rfl
  have p1 : (part 5 #[Value.int .u8 (x : Int), .int .u8 (y : Int)] 1).run Try.prog w = .ok (.int .u8 (y : Int)) w := run_part_plain w pk rfl
  have q0 : (part 5 #[Value.int .u8 (z : Int), .int .u8 (t : Int)] 0).run Try.prog w = .ok (.int .u8 (z : Int)) w := run_part_plain w pk rfl
  have q1 : (part 5 #[Value.int .u8 (z : Int), .int .u8 (t : Int)] 1).run Try.prog w = .ok (.int .u8 (t : Int)) w := run_part_plain w pk rfl
  have i0 := run_equalIn_int (P := Try.prog) w 9998 5 .u8 .u8 (x : Int) (z : Int) Try.underlying5
  have i1 := run_equalIn_int (P := Try.prog) w 9998 5 .u8 .u8 (y : Int) (t : Int) Try.underlying5
  rw [r2, cell5]
  simp only [Op.eqItems, Sem.run_bind, Nat.zero_mul, Nat.one_mul, p0, q0, Result.andThen_ok, i0]
  by_cases hxz : x = z
  · subst hxz
    simp only [beq_self_eq_true, Bool.not_true, Bool.false_eq_true, if_false, Sem.run_bind, p1, q1, Result.andThen_ok, i1, true_and]
    by_cases hyt : y = t
    · subst hyt
      simp
    · have hb : ((y : Int) == (t : Int)) = false := by simp; omega
      simp [hb, hyt]
  · have hb : ((x : Int) == (z : Int)) = false := by simp; omega
    simp [hb, hxz]

/-! The same behind a draw. -/
theorem of3_lastD (w : World) {a0 a1 a2 : Option Addr} {n0 c0 n1 c1 n2 c2 : Nat} {b0 b1 b2 : List Nat} (h0 : Rd8 w a0 n0 c0 b0) (h1 : Rd8 w a1 n1 c1 b1) (h2 : Rd8 w a2 n2 c2 b2) :
    Calls Try.prog 13 #[.slice (some ⟨w.heap.size, 0, none⟩) 3 3] (w.alloc (.cells #[.slice a0 n0 c0, .slice a1 n1 c1, .slice a2 n2 c2] 22)).drew fun e w' => e = .returned (.int .u16 (ofN (b0 ++ (b1 ++ b2)) : Nat)) ∧ w' = (w.alloc (.cells #[.slice a0 n0 c0, .slice a1 n1 c1, .slice a2 n2 c2] 22)).drew :=
  of3_last w.drew w.heap.size rfl (h0.heap rfl) (h1.heap rfl) (h2.heap rfl)

theorem of3_firstD (w : World) (o : Obj) {a0 a1 a2 : Option Addr} {n0 c0 n1 c1 n2 c2 : Nat} {b0 b1 b2 : List Nat} (h0 : Rd8 w a0 n0 c0 b0) (h1 : Rd8 w a1 n1 c1 b1) (h2 : Rd8 w a2 n2 c2 b2) :
    Calls Try.prog 13 #[.slice (some ⟨w.heap.size, 0, none⟩) 3 3] ((w.alloc (.cells #[.slice a0 n0 c0, .slice a1 n1 c1, .slice a2 n2 c2] 22)).alloc o).drew fun e w' => e = .returned (.int .u16 (ofN (b0 ++ (b1 ++ b2)) : Nat)) ∧ w' = ((w.alloc (.cells #[.slice a0 n0 c0, .slice a1 n1 c1, .slice a2 n2 c2] 22)).alloc o).drew :=
  of3_first w.drew o w.heap.size rfl (h0.heap rfl) (h1.heap rfl) (h2.heap rfl)

theorem of3_secondD (w : World) (o : Obj) {a0 a1 a2 : Option Addr} {n0 c0 n1 c1 n2 c2 : Nat} {b0 b1 b2 : List Nat} (h0 : Rd8 w a0 n0 c0 b0) (h1 : Rd8 w a1 n1 c1 b1) (h2 : Rd8 w a2 n2 c2 b2) :
    Calls Try.prog 13 #[.slice (some ⟨w.heap.size + 1, 0, none⟩) 3 3] ((w.alloc o).alloc (.cells #[.slice a0 n0 c0, .slice a1 n1 c1, .slice a2 n2 c2] 22)).drew fun e w' => e = .returned (.int .u16 (ofN (b0 ++ (b1 ++ b2)) : Nat)) ∧ w' = ((w.alloc o).alloc (.cells #[.slice a0 n0 c0, .slice a1 n1 c1, .slice a2 n2 c2] 22)).drew :=
  of3_second w.drew o w.heap.size rfl (h0.heap rfl) (h1.heap rfl) (h2.heap rfl)

end Go.Proofs.Ytdnebhhmjmcfjaa
