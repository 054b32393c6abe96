/- What the functions of package pool do, walked: New, holder, room, fetch. -/
import Derived.Test.YthckdfggnmoaeaaP1
namespace Go.Proofs.Ythckdfggnmoaeaa
open Go.RowKit
set_option linter.unusedVariables false

theorem infoFr : (Try.prog.info? 90).map (fun i => (i.zero, i.size, i.bytes)) = some (some (.agg #[.bool false, .int .i64 0, .int .i64 0, .complex .f64 0 0, .complex .f64 0 0, .complex .f64 0 0, .complex .f64 0 0, .bool false, .int .i64 0, .bool false]), 10, 112) := by kernel_rfl

abbrev frZ : Array Value := #[.bool false, .int .i64 0, .int .i64 0, .complex .f64 0 0, .complex .f64 0 0, .complex .f64 0 0, .complex .f64 0 0, .bool false, .int .i64 0, .bool false]

theorem made_fr (n j : Nat) (hj : j < n * 10) : (madeCells frZ (n * 10))[j]? = some (frZ[j % 10]!) := by
  simp [madeCells, hj]

abbrev plW (w : World) (n g gl : Nat) : World := (w.alloc (.cells (madeCells frZ (n * 10)) 90)).alloc (.cells #[dp g, tp gl, .slice (some ⟨w.heap.size, 0, none⟩) n n, .int .i64 0] 77)

theorem frC_e (j : Nat) (v : Value) (h : (frC Fr.e)[j]? = some v) : frZ[j]! = v ∧ j < 10 := by
  match j, h with
  | 0, h | 1, h | 2, h | 3, h | 4, h | 5, h | 6, h | 7, h | 8, h | 9, h => cases h; exact ⟨rfl, by omega⟩
  | (j + 10), h => simp [frC] at h

theorem Pl.new (w : World) (n g gl : Nat) (h1 : 1 ≤ n) (h6 : n ≤ 6) : Pl (plW w n g gl) (w.heap.size + 1) w.heap.size g gl (List.replicate n Fr.e) 0 := by
  have hs : (w.alloc (.cells (madeCells frZ (n * 10)) 90)).heap.size = w.heap.size + 1 := by simp
  have h0 : (plW w n g gl).heap[w.heap.size]? = some (.cells (madeCells frZ (n * 10)) 90) := by
    rw [Below.heap_alloc _ _ _ (by omega)]; exact heap_alloc_new w _
  have h2 : (plW w n g gl).heap[w.heap.size + 1]? = some (.cells #[dp g, tp gl, .slice (some ⟨w.heap.size, 0, none⟩) n n, .int .i64 0] 77) := by
    have := heap_alloc_new (w.alloc (.cells (madeCells frZ (n * 10)) 90)) (.cells #[dp g, tp gl, .slice (some ⟨w.heap.size, 0, none⟩) n n, .int .i64 0] 77)
    rwa [hs] at this
  refine ⟨?_, ?_, ?_, ?_, fun j => frozen_of_row _ _ _ _ _ h2, fun j => frozen_of_row _ _ _ _ _ h0, by simp, by simp <;> omega, by omega, ⟨fun r hr => ?_, fun i r hr j v hv => ?_⟩, by simpa using h6, by simp; omega⟩
  · rw [cell_of_row _ _ _ _ _ _ h2]; rfl
  · rw [cell_of_row _ _ _ _ _ _ h2]; rfl
  · rw [cell_of_row _ _ _ _ _ _ h2]; simp
  · rw [cell_of_row _ _ _ _ _ _ h2]; rfl
  · simp only [List.map_replicate] at hr
    rw [(List.mem_replicate.1 hr).2]; rfl
  · simp only [List.map_replicate, List.getElem?_replicate] at hr
    split at hr
    · cases hr
      obtain ⟨e, hj⟩ := frC_e j v hv
      rw [cell_of_row _ _ _ _ _ _ h0, made_fr n _ (by omega), show (i * 10 + j) % 10 = j by omega, e]
    · cases hr

theorem pnew_any (n g gl : Nat) (h1 : 1 ≤ n) (h6 : n ≤ 6) (w : World) :
    Calls Try.prog 13 #[dp g, tp gl, .int .i64 (n : Int)] w fun e w' => e = .returned (tp (w.heap.size + 1)) ∧ Pl w' (w.heap.size + 1) w.heap.size g gl (List.replicate n Fr.e) 0 ∧ w'.heap.size = w.heap.size + 2 ∧ Below w.heap.size w w' := by
  obtain ⟨i0, hi, hz0, hz1, hz2⟩ := info_parts infoFr
  have hm : ∀ (W : World), (Instr.makeSlice 75 (.int .i64 (n : Int)) (.int .i64 (n : Int))).run Try.prog W = .ok (.slice (some ⟨W.heap.size, 0, none⟩) n n) (W.alloc (.cells (madeCells frZ (n * 10)) 90)) := by
    intro W
    have := run_make (P := Try.prog) W 75 90 i0 _ Try.underlying75 hi hz0 .i64 .i64 n n (by omega) (Int.le_refl _) (by rw [hz2]; omega) (by omega)
    rw [hz1] at this
    simp only [Int.toNat_natCast] at this
    exact this
  clear hi hz0 hz1 hz2
  have ha : (1 : Int) ≤ (n : Int) := by omega
  have hb : (n : Int) ≤ 6 := by omega
  go_enter Try.func13, Try.ntmps13
  go_wp2
  all_goals go_ret
  all_goals exact ⟨rfl, Pl.new w n g gl h1 h6, by simp, by go_grown⟩

/-- A frame with that page. -/
def Fr.has (x : Fr) (n : Int) : Bool := x.fl && (x.nm == n)

set_option maxHeartbeats 400000 in
theorem holder_none (gp gf g gl : Nat) (F : List Fr) (hd : Nat) (n : Int) (w : World) (h : Pl w gp gf g gl F hd) (hn : ∀ i (hi : i < F.length), F[i].has n = false) :
    Calls Try.prog 58 #[tp gp, .int .i64 n] w fun e w' => e = .returned (.pointer none) ∧ w' = w := by
  have HN : Hid (∀ i (hi : i < F.length), F[i].has n = false) := hn
  clear hn
  have h2 := h.c2
  have hle := h.le
  go_enter Try.func58, Try.ntmps58
  go_wp2
  go_loopw [12] (fun i wr => ∃ k : Nat, k ≤ F.length ∧ i = .int .i64 k ∧ wr = w) (fun i _ => F.length - (intOf i).toNat)
  case atStart => exact ⟨0, Nat.zero_le _, rfl, rfl⟩
  case round =>
    obtain ⟨k, hk, rfl, rfl⟩ := hrel
    by_cases hlt : k < F.length
    · have hno := HN.out k hlt
      have c0 := h.cell k hlt 0 _ rfl
      have c1 := h.cell k hlt 1 _ rfl
      simp only [Nat.add_zero] at c0
      unfold Fr.has at hno
      cases hf : F[k].fl
      · rw [hf] at c0
        clear hno
        go_wp2
        go_roundw
        case rel => exact ⟨k + 1, by omega, by go_num, by first | rfl | trivial⟩
        case measure => simp [intOf]; omega
      · rw [hf] at c0 hno
        simp only [Bool.true_and] at hno
        go_wp2
        go_roundw
        case rel => exact ⟨k + 1, by omega, by go_num, by first | rfl | trivial⟩
        case measure => simp [intOf]; omega
    · go_wp2
      go_ret
      exact ⟨rfl, rfl⟩

set_option maxHeartbeats 400000 in
theorem holder_some (gp gf g gl : Nat) (F : List Fr) (hd : Nat) (n : Int) (i : Nat) (hi : i < F.length) (w : World) (h : Pl w gp gf g gl F hd) (hb : ∀ j (hj : j < i), F[j].has n = false) (hy : F[i].has n = true) :
    Calls Try.prog 58 #[tp gp, .int .i64 n] w fun e w' => e = .returned (.pointer (some ⟨gf, i * 10, none⟩)) ∧ w' = w := by
  have HN : Hid (∀ j (hj : j < i), F[j].has n = false) := hb
  have HY : Hid (F[i].has n = true) := hy
  clear hb hy
  have h2 := h.c2
  have hle := h.le
  go_enter Try.func58, Try.ntmps58
  go_wp2
  go_loopw [12] (fun s wr => ∃ k : Nat, k ≤ i ∧ s = .int .i64 k ∧ wr = w) (fun s _ => F.length - (intOf s).toNat)
  case atStart => exact ⟨0, Nat.zero_le _, rfl, rfl⟩
  case round =>
    obtain ⟨k, hk, rfl, rfl⟩ := hrel
    have hlt : k < F.length := by omega
    have c0 := h.cell k hlt 0 _ rfl
    have c1 := h.cell k hlt 1 _ rfl
    simp only [Nat.add_zero] at c0
    by_cases he : k < i
    · have hno := HN.out k he
      unfold Fr.has at hno
      cases hf : F[k].fl
      · rw [hf] at c0
        clear hno
        go_wp2
        go_roundw
        case rel => exact ⟨k + 1, by omega, by go_num, by first | rfl | trivial⟩
        case measure => simp [intOf]; omega
      · rw [hf] at c0 hno
        simp only [Bool.true_and] at hno
        go_wp2
        go_roundw
        case rel => exact ⟨k + 1, by omega, by go_num, by first | rfl | trivial⟩
        case measure => simp [intOf]; omega
    · obtain rfl : k = i := by omega
      have hy := HY.out
      unfold Fr.has at hy
      simp only [Bool.and_eq_true] at hy
      obtain ⟨hy1, hy2⟩ := hy
      rw [hy1] at c0
      go_wp2
      go_ret
      exact ⟨rfl, rfl⟩

set_option maxHeartbeats 400000 in
theorem room_empty (gp gf g gl : Nat) (F : List Fr) (hd : Nat) (i : Nat) (hi : i < F.length) (w : World) (h : Pl w gp gf g gl F hd) (hb : ∀ j (hj : j < i), F[j].fl = true) (hy : F[i].fl = false) :
    Calls Try.prog 60 #[tp gp] w fun e w' => e = .returned (.pointer (some ⟨gf, i * 10, none⟩)) ∧ w' = w := by
  have HN : Hid (∀ j (hj : j < i), F[j].fl = true) := hb
  have HY : Hid (F[i].fl = false) := hy
  clear hb hy
  have h2 := h.c2
  have hle := h.le
  go_enter Try.func60, Try.ntmps60
  go_wp2
  go_loopw [10] (fun s wr => ∃ k : Nat, k ≤ i ∧ s = .int .i64 k ∧ wr = w) (fun s _ => F.length - (intOf s).toNat)
  case atStart => exact ⟨0, Nat.zero_le _, rfl, rfl⟩
  case round =>
    obtain ⟨k, hk, rfl, rfl⟩ := hrel
    have hlt : k < F.length := by omega
    have c0 := h.cell k hlt 0 _ rfl
    simp only [Nat.add_zero] at c0
    by_cases he : k < i
    · rw [HN.out k he] at c0
      go_wp2
      go_roundw
      case rel => exact ⟨k + 1, by omega, by go_num, by first | rfl | trivial⟩
      case measure => simp [intOf]; omega
    · obtain rfl : k = i := by omega
      rw [HY.out] at c0
      go_wp2
      go_ret
      exact ⟨rfl, rfl⟩

/-- The block of a zero page. -/
abbrev pgZ : Obj := pgO 0 zO zO zO zO

theorem below5 {B : Nat} {w w1 : World} (h : Below B w w1) {g : Nat} (hg : B ≤ g) (u0 u1 u2 u3 u4 : Value) : Below B w (((((w1.setCell ⟨g, 0, none⟩ u0).setCell ⟨g, 1, none⟩ u1).setCell ⟨g, 2, none⟩ u2).setCell ⟨g, 3, none⟩ u3).setCell ⟨g, 4, none⟩ u4) :=
  ((((h.setCell hg _).setCell hg _).setCell hg _).setCell hg _).setCell hg _

/-- A page that the drive has. -/
theorem fetch_bad (gp gf g gl : Nat) (V : Nat → Prop) (L : List Sec) (F : List Fr) (hd : Nat) (n : Int) (w : World) (h : St w gp gf g gl V L F hd) (hn : hasB L n = false) :
    Calls Try.prog 59 #[tp gp, .int .i64 n] w fun e w' => e = .returned (.tuple #[pgV 0 zO zO zO zO, .int .i64 51]) ∧ Below w.heap.size w w' := by
  have hz := h.below (below_box w pgZ)
  have h0 := hz.p.c0
  have hst := fun (ad : Addr) (re im : Nat) (W : World) => run_store Try.prog W ad (.complex .f64 re im) .plain rfl
  unfold pgV
  go_enter Try.func59, Try.ntmps59
  go_wp2_with (first
    | (go_at_call 69; refine (read_bad _ _ _ _ _ hz.d hn).mono ?_; rintro e w' ⟨rfl, hw⟩; subst w')
    | fail)
  go_returns
  refine ⟨rfl, ?_⟩
  go_grown

set_option maxHeartbeats 400000 in
theorem fetch_empty (gp gf g gl : Nat) (V : Nat → Prop) (L : List Sec) (F : List Fr) (hd : Nat) (n : Nat) (w : World) (h : St w gp gf g gl V L F hd) (hn : n < L.length) (hb : L[n].b = []) :
    Calls Try.prog 59 #[tp gp, .int .i64 (n : Int)] w fun e w' => e = .returned (.tuple #[pgV 0 zO zO zO zO, .int .i64 0]) ∧ Below w.heap.size w w' := by
  have hz := h.below (below_box w pgZ)
  have h0 := hz.p.c0
  have hst := fun (ad : Addr) (re im : Nat) (W : World) => run_store Try.prog W ad (.complex .f64 re im) .plain rfl
  have HB : Hid (L[n].b = []) := hb
  clear hb
  have hq := PgAt.new w 0 zO zO zO zO
  unfold pgV
  go_enter Try.func59, Try.ntmps59
  go_wp2_with (first
    | (go_at_call 69; refine (read_ok _ _ _ n _ hz.d hn).mono ?_; rintro e w1 ⟨ao1, n1, cap1, rfl, ho1, -, hb1⟩; rw [HB.out] at ho1; obtain rfl : n1 = 0 := ho1.len.symm; have hq1 := hq.below hb1 (by simp); have q0 := hq1.c0; have q1 := hq1.c1; have q2 := hq1.c2; have q3 := hq1.c3; have q4 := hq1.c4; have r0 := hq1.f0; have r1 := hq1.f1; have r2 := hq1.f2; have r3 := hq1.f3; have r4 := hq1.f4; clear hq1)
    | fail)
  refine bodyPost_ret (by simp [results, Try.results59, go_sem, q0, q1, q2, q3, q4]; try rfl) rfl ?_
  refine ⟨rfl, ?_⟩
  exact below5 (below_alloc (hb1.mono (by simp))) (Nat.le_refl _) _ _ _ _ _

set_option maxHeartbeats 400000 in
theorem fetch_page (gp gf g gl : Nat) (V : Nat → Prop) (L : List Sec) (F : List Fr) (hd : Nat) (n : Nat) (w : World) (h : St w gp gf g gl V L F hd) (hn : n < L.length) (l : Int) (x0 x1 x2 x3 : Nat × Nat) (hb : L[n].b = pageN l x0 x1 x2 x3) (hl : 0 ≤ l ∧ l ≤ 16777215) (h0 : wordB x0) (h1 : wordB x1) (h2 : wordB x2) (h3 : wordB x3) :
    Calls Try.prog 59 #[tp gp, .int .i64 (n : Int)] w fun e w' => e = .returned (.tuple #[pgV l (canO x0) (canO x1) (canO x2) (canO x3), .int .i64 0]) ∧ Below w.heap.size w w' := by
  have hz := h.below (below_box w pgZ)
  have hc0 := hz.p.c0
  have hst := fun (ad : Addr) (re im : Nat) (W : World) => run_store Try.prog W ad (.complex .f64 re im) .plain rfl
  have HB : Hid (L[n].b = pageN l x0 x1 x2 x3) := hb
  have HW : Hid (wordB x0 ∧ wordB x1 ∧ wordB x2 ∧ wordB x3) := ⟨h0, h1, h2, h3⟩
  have HL : Hid (0 ≤ l ∧ l ≤ 16777215) := hl
  clear hb h0 h1 h2 h3 hl
  have hq := PgAt.new w 0 zO zO zO zO
  unfold pgV
  go_enter Try.func59, Try.ntmps59
  go_wp2_with (first
    | (go_at_call 70; refine (read_back l x0 x1 x2 x3 _ _ _ ho1.rd HL.out HW.out.1 HW.out.2.1 HW.out.2.2.1 HW.out.2.2.2).mono ?_; unfold pgV; rintro e w2 ⟨rfl, hb2⟩; have hq2 := hq1.below hb2 hq1.lt; have q0 := hq2.c0; have q1 := hq2.c1; have q2 := hq2.c2; have q3 := hq2.c3; have q4 := hq2.c4; have r0 := hq2.f0; have r1 := hq2.f1; have r2 := hq2.f2; have r3 := hq2.f3; have r4 := hq2.f4; clear hq2)
    | (go_at_call 69; refine (read_ok _ _ _ n _ hz.d hn).mono ?_; rintro e w1 ⟨ao1, n1, cap1, rfl, ho1, -, hb1⟩; rw [HB.out] at ho1; obtain rfl : n1 = 69 := ho1.len.symm.trans (pageN_length _ _ _ _ _); have hq1 := hq.below hb1 (by simp))
    | fail)
  refine bodyPost_ret (by simp [results, Try.results59, go_sem, q0, q1, q2, q3, q4]; try rfl) rfl ?_
  refine ⟨rfl, ?_⟩
  exact below5 (below_step (below_alloc (hb1.mono (by simp))) hb2) (Nat.le_refl _) _ _ _ _ _

end Go.Proofs.Ythckdfggnmoaeaa
