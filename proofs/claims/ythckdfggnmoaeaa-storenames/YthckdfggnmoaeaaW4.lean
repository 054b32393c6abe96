/- What takePut of package wal does with a put's bytes, walked. -/
import Derived.Test.YthckdfggnmoaeaaW3
import Derived.Deep.DeepCutAuto
import Derived.Deep.CutBlock
import Derived.BigRegion
namespace Go.Proofs.Ythckdfggnmoaeaa
open Go.RowKit
set_option linter.unusedVariables false

theorem forms_at (xs zs : List Int) : ∀ i (h : i < xs.length), ((formsN xs ++ zs).drop (3 * i)).take 3 = wrN 3 xs[i] := by
  induction xs with
  | nil => intro i h; simp at h
  | cons x r ih =>
    intro i h
    have e : formsN (x :: r) ++ zs = wrN 3 x ++ (formsN r ++ zs) := by simp [formsN]
    have l3 : (wrN 3 x).length = 3 := by simp
    rw [e]
    cases i with
    | zero => rw [Nat.mul_zero, List.drop_zero, List.take_append_of_le_length (by omega), List.take_of_length_le (by omega)]; rfl
    | succ i =>
      have e2 : (wrN 3 x ++ (formsN r ++ zs)).drop (3 * (i + 1)) = (formsN r ++ zs).drop (3 * i) := by
        rw [show 3 * (i + 1) = 3 + 3 * i by omega, ← List.drop_drop, List.drop_append_of_le_length (Nat.le_of_eq l3.symm), List.drop_of_length_le (Nat.le_of_eq l3), List.nil_append]
      rw [e2]
      simpa using ih i (by simpa using h)

theorem getN_forms (xs zs : List Int) (hz : ∀ z ∈ xs, 0 ≤ z ∧ z ≤ 16777215) : getN (formsN xs ++ zs) xs.length = xs := by
  apply List.ext_getElem
  · simp [getN]
  · intro i h1 h2
    have hi := hz xs[i] (List.getElem_mem _)
    simp only [getN, List.getElem_map, List.getElem_range]
    rw [forms_at xs zs i h2]
    exact rdN_wrN 3 _ hi.1 (by have : (256 : Int) ^ 3 = 16777216 := by decide
                               omega)

theorem get_forms (ao : Option Addr) (cap n m j : Nat) (xs zs : List Int) (w : World) (hrd : RdI w .u8 ao cap (formsN xs ++ zs)) (hm : xs.length = m) (hj : zs.length = j) (hn : n = 3 * m + j) (hx : ∀ z ∈ xs, 0 ≤ z ∧ z ≤ 16777215) (hb : ∀ z ∈ zs, 0 ≤ z ∧ z < 256) (hs : m ≤ 1000) (hlen : n ≤ 140737488355328) :
    Calls Try.prog 62 #[.slice ao n cap, .int .i64 (m : Int)] w fun e w' => ∃ a1 c1 a2 c2, e = .returned (.tuple #[.slice a1 m c1, .slice a2 j c2, .int .i64 0]) ∧
      OwnI w' w.heap.size 3 .i64 a1 c1 xs ∧ OwnI w' w.heap.size 5 .u8 a2 c2 zs ∧ Below w.heap.size w w' := by
  have hl := formsN_length xs
  refine (get_good ao cap n m (formsN xs ++ zs) w hrd (by rw [List.length_append, hl]; omega) ?_ hs (by omega) hlen).mono ?_
  · intro z hz
    rcases List.mem_append.1 hz with h | h
    · exact formsN_bd _ z h
    · exact hb z h
  · rintro e w' ⟨a1, c1, a2, c2, rfl, ho1, ho2, hbl⟩
    subst hm
    rw [getN_forms xs zs hx] at ho1
    rw [← hl, List.drop_left] at ho2
    exact ⟨a1, c1, a2, c2, by rw [show n - 3 * xs.length = j by omega], ho1, ho2, hbl⟩

/-- A put lies in a block. -/
structure PtAt (w : World) (g : Nat) (a b : Int) (x : Nat × Nat) : Prop where
  c0 : w.cell? ⟨g, 0, none⟩ = some (.int .i64 a)
  c1 : w.cell? ⟨g, 1, none⟩ = some (.int .i64 b)
  c2 : w.cell? ⟨g, 2, none⟩ = some (.complex .f64 x.1 x.2)
  fz : ∀ j, w.frozen? ⟨g, j, none⟩ = false
  lt : g < w.heap.size

/-- An empty put in a block. -/
abbrev ptZ : Obj := .cells #[.int .i64 0, .int .i64 0, .complex .f64 0 0] 34

theorem PtAt.new (w : World) : PtAt (w.alloc ptZ) w.heap.size 0 0 (0, 0) := by
  have h := heap_alloc_new w ptZ
  refine ⟨?_, ?_, ?_, fun j => frozen_of_row _ _ _ _ _ h, by simp⟩
  all_goals rw [cell_of_row _ _ _ _ _ _ h]; rfl

theorem PtAt.below {w w' : World} {g : Nat} {a b : Int} {x : Nat × Nat} (h : PtAt w g a b x) (hb : Below w.heap.size w w') : PtAt w' g a b x := by
  have hg := hb.block g h.lt
  exact ⟨(World.cell?_of_block (w := w) hg).trans h.c0, (World.cell?_of_block (w := w) hg).trans h.c1, (World.cell?_of_block (w := w) hg).trans h.c2, fun j => (World.frozen?_of_block (w := w) hg).trans (h.fz j), Nat.lt_of_lt_of_le h.lt hb.size⟩

/-- A put as a value. -/
abbrev putV (p : PutG) : Value := .agg #[.int .i64 (p.pg : Int), .int .i64 (p.ob : Int), .complex .f64 p.c.1 p.c.2]

/-- The put that is read of a put's bytes. -/
def PutG.can (p : PutG) : PutG := ⟨p.pg, p.ob, canO p.c⟩

set_option maxHeartbeats 800000 in
theorem takePut_ok (p : PutG) (ao : Option Addr) (cap n m : Nat) (zs : List Int) (w : World) (hrd : RdI w .u8 ao cap (putZ p ++ zs)) (hm : zs.length = m) (hn : n = 22 + m) (h1 : p.pg ≤ 5) (h2 : p.ob ≤ 3) (h3 : wordB p.c) (hb : ∀ z ∈ zs, 0 ≤ z ∧ z < 256) (hlen : n ≤ 140737488355328) :
    Calls Try.prog 76 #[.slice ao n cap] w fun e w' => ∃ a2 c2, e = .returned (.tuple #[putV p.can, .slice a2 m c2, .int .i64 0]) ∧ OwnI w' w.heap.size 5 .u8 a2 c2 zs ∧ Below w.heap.size w w' := by
  obtain ⟨pg, ob, x⟩ := p
  simp only at h1 h2 h3
  have hst := fun (ad : Addr) (re im : Nat) (W : World) => run_store Try.prog W ad (.complex .f64 re im) .plain rfl
  have hz : PtAt (w.alloc ptZ) w.heap.size 0 0 (0, 0) := PtAt.new w
  have hr : RdI (w.alloc ptZ) .u8 ao cap (formsN [(pg : Int), ob] ++ (valN x.1 x.2 ++ zs)) := by rw [← List.append_assoc]; exact hrd.alloc _
  have HW : Hid (wordB x) := h3
  have HB : Hid (∀ z ∈ zs, 0 ≤ z ∧ z < 256) := hb
  have HB2 : Hid (∀ z ∈ valN x.1 x.2 ++ zs, 0 ≤ z ∧ z < 256) := by
    intro z hz
    rcases List.mem_append.1 hz with h | h
    · exact valN_bd _ _ z h
    · exact hb z h
  have HL : Hid ((valN x.1 x.2 ++ zs).length = 16 + m) := by rw [Hid, List.length_append, valN_length, hm]
  have HN : Hid (n = 22 + m) := hn
  clear hb h3 hrd hn
  go_enter Try.func76, Try.ntmps76
  go_upto_region 5 with (first
    | (go_at_call 81; refine (take_val _ _ (16 + m) m x zs _ ho2.rd hm rfl HW.out HB.out (by have := HN.out; omega)).mono ?_; rintro e w2 ⟨a3, c3, rfl, ho3, hb3⟩; have hq := hq1.below hb3; have ho4 := ho1.below hb3; obtain ⟨b1, f1, rfl, -, hc⟩ := ho4.rd.at (t := 0) (by simp); have p0 := hc 0 (by simp); have p1 := hc 1 (by simp); have z0 := hq.c0; have z1 := hq.c1; have z2 := hq.c2; have y0 := hq.fz 0; have y1 := hq.fz 1; have y2 := hq.fz 2; simp only [List.getElem_cons_zero, List.getElem_cons_succ, Nat.add_zero] at p0 p1; have HS1 : Hid (w.heap.size < w1.heap.size) := hq1.lt; have HB3 : Hid (Below w.heap.size w w2) := below_step (below_alloc (hb2.mono (by simp))) hb3; clear hc hq hq1 ho4 ho1)
    | (go_at_call 62; refine (get_forms _ _ n 2 (16 + m) [(pg : Int), ob] (valN x.1 x.2 ++ zs) _ hr rfl HL.out (by have := HN.out; omega) ?_ HB2.out (by omega) hlen).mono ?_; (intro z hz; simp only [List.mem_cons, List.not_mem_nil, or_false] at hz; omega); rintro e w1 ⟨a1, c1, a2, c2, rfl, ho1, ho2, hb2⟩; have hq1 := hz.below hb2)
    | (fail))
  go_big_region
  go_wp2
  refine bodyPost_ret (by simp [results, Try.results76, go_sem, z0, z1, z2]; try rfl) rfl ?_
  refine ⟨_, _, rfl, ?_, ?_⟩
  · have h4 := (((ho3.other ⟨w.heap.size, 0, none⟩ (.int .i64 (pg : Int)) HS1.out).other ⟨w.heap.size, 1, none⟩ (.int .i64 (ob : Int)) HS1.out).other ⟨w.heap.size, 2, none⟩ (.complex .f64 (canO x).1 (canO x).2) HS1.out).mono (Nat.le_of_lt HS1.out)
    exact OwnS.keep h4 fun _ _ => rfl
  · exact (((HB3.out.setCell (Nat.le_refl _) _).setCell (Nat.le_refl _) _).setCell (Nat.le_refl _) _).drew

end Go.Proofs.Ythckdfggnmoaeaa
