/- What the functions of package sector do, walked: New, Loose, Sync, Crash. -/
import Derived.Test.YthckdfggnmoaeaaS1
namespace Go.Proofs.Ythckdfggnmoaeaa
open Go.RowKit
set_option linter.unusedVariables false

theorem info64 : (Try.prog.info? 95).map (fun i => (i.zero, i.size, i.bytes)) = some (some (.agg #[.slice none 0 0, .slice none 0 0, .bool false]), 3, 56) := by kernel_rfl

/-- How many sectors a new drive has. -/
def newN (many : Int) : Nat := (min (max many 0) 6).toNat

abbrev secZ : Array Value := #[.slice none 0 0, .slice none 0 0, .bool false]

theorem made_cell (n j : Nat) (hj : j < n * 3) : (madeCells secZ (n * 3))[j]? = some (secZ[j % 3]!) := by
  simp [madeCells, hj]

abbrev drvW (w : World) (n : Nat) : World := (w.alloc (.cells (madeCells secZ (n * 3)) 95)).alloc (.cells #[.slice (some ⟨w.heap.size, 0, none⟩) n n] 61)

theorem Drv.new (w : World) (n : Nat) (hn : n ≤ 6) (V : Nat → Prop) (hV : ¬ V w.heap.size) : Drv (drvW w n) w.heap.size V (List.replicate n Sec.e) := by
  have hs : (w.alloc (.cells (madeCells secZ (n * 3)) 95)).heap.size = w.heap.size + 1 := by simp
  have h0 : (drvW w n).heap[w.heap.size]? = some (.cells (madeCells secZ (n * 3)) 95) := by
    rw [Below.heap_alloc _ _ _ (by omega)]; exact heap_alloc_new w _
  have h1 : (drvW w n).heap[w.heap.size + 1]? = some (.cells #[.slice (some ⟨w.heap.size, 0, none⟩) n n] 61) := by
    have := heap_alloc_new (w.alloc (.cells (madeCells secZ (n * 3)) 95)) (.cells #[.slice (some ⟨w.heap.size, 0, none⟩) n n] 61)
    rwa [hs] at this
  have hc : ∀ j, j < n * 3 → (drvW w n).cell? ⟨w.heap.size, j, none⟩ = some (secZ[j % 3]!) := fun j hj => by
    rw [cell_of_row _ _ _ _ _ _ h0]; exact made_cell n j hj
  refine ⟨by simpa using hn, ?_, by simp, fun j => frozen_of_row _ _ _ _ _ h0, hV, fun i hi => ?_, fun i hi => ?_, fun i hi => ?_⟩
  · rw [cell_of_row _ _ _ _ _ _ h1]; simp
  · simp only [List.length_replicate] at hi
    refine ⟨none, 0, 0, ?_, ?_, In.none _ _, by omega⟩
    · rw [hc _ (by omega), show i * 3 % 3 = 0 by omega]; rfl
    · simpa using Rd8.empty _
  · simp only [List.length_replicate] at hi
    refine ⟨none, 0, 0, ?_, ?_, In.none _ _, by omega⟩
    · rw [hc _ (by omega), show (i * 3 + 1) % 3 = 1 by omega]; rfl
    · simpa using Rd8.empty _
  · simp only [List.length_replicate] at hi
    rw [hc _ (by omega), show (i * 3 + 2) % 3 = 2 by omega]; simp [secZ]

theorem snew_any (many : Int) (w : World) :
    Calls Try.prog 6 #[.int .i64 many] w fun e w' => e = .returned (dp w.heap.size) ∧ (∀ V : Nat → Prop, ¬ V w.heap.size → Drv w' w.heap.size V (List.replicate (newN many) Sec.e)) ∧ w'.heap.size = w.heap.size + 2 ∧ Below w.heap.size w w' := by
  obtain ⟨i0, hi, hz0, hz1, hz2⟩ := info_parts info64
  have hmk : ∀ (n : Nat) (W : World), n ≤ 6 → (Instr.makeSlice 59 (.int .i64 (n : Int)) (.int .i64 (n : Int))).run Try.prog W = .ok (.slice (some ⟨W.heap.size, 0, none⟩) n n) (W.alloc (.cells (madeCells secZ (n * 3)) 95)) := by
    intro n W h
    have := run_make (P := Try.prog) W 59 95 i0 _ Try.underlying59 hi hz0 .i64 .i64 n n (by omega) (Int.le_refl _) (by rw [hz2]; omega) (by omega)
    rw [hz1] at this
    simp only [Int.toNat_natCast] at this
    exact this
  have HM : Hid (∀ (n : Nat) (W : World), n ≤ 6 → (Instr.makeSlice 59 (.int .i64 (n : Int)) (.int .i64 (n : Int))).run Try.prog W = .ok (.slice (some ⟨W.heap.size, 0, none⟩) n n) (W.alloc (.cells (madeCells secZ (n * 3)) 95))) := hmk
  clear hmk
  by_cases h0 : many < 0
  · have hm : ∀ W : World, (Instr.makeSlice 59 (.int .i64 0) (.int .i64 0)).run Try.prog W = .ok (.slice (some ⟨W.heap.size, 0, none⟩) 0 0) (W.alloc (.cells (madeCells secZ (0 * 3)) 95)) := fun W => HM.out 0 W (by omega)
    go_enter Try.func6, Try.ntmps6
    go_wp2
    all_goals go_ret
    all_goals exact ⟨rfl, fun V hV => by have e : newN many = 0 := (by unfold newN; omega); rw [e]; exact Drv.new w 0 (by omega) V hV, by simp, by go_grown⟩
  · by_cases h6 : many ≤ 6
    · obtain ⟨n, rfl⟩ : ∃ n : Nat, many = n := ⟨many.toNat, by omega⟩
      have hn : n ≤ 6 := by omega
      have hm := fun W => HM.out n W hn
      go_enter Try.func6, Try.ntmps6
      go_wp2
      all_goals go_ret
      all_goals exact ⟨rfl, fun V hV => by have e : newN n = n := (by unfold newN; omega); rw [e]; exact Drv.new w n hn V hV, by simp, by go_grown⟩
    · have hm : ∀ W : World, (Instr.makeSlice 59 (.int .i64 6) (.int .i64 6)).run Try.prog W = .ok (.slice (some ⟨W.heap.size, 0, none⟩) 6 6) (W.alloc (.cells (madeCells secZ (6 * 3)) 95)) := fun W => HM.out 6 W (by omega)
      go_enter Try.func6, Try.ntmps6
      go_wp2
      all_goals go_ret
      all_goals exact ⟨rfl, fun V hV => by have e : newN many = 6 := (by unfold newN; omega); rw [e]; exact Drv.new w 6 (by omega) V hV, by simp, by go_grown⟩

/-- The sectors, the first k of them turned. -/
def upTo (f : Nat → Sec → Sec) (k : Nat) (L : List Sec) : List Sec := L.mapIdx fun i x => if i < k then f i x else x

theorem upTo_length (f : Nat → Sec → Sec) (k : Nat) (L : List Sec) : (upTo f k L).length = L.length := by simp [upTo]
theorem upTo_zero (f : Nat → Sec → Sec) (L : List Sec) : upTo f 0 L = L := by
  unfold upTo
  apply List.ext_getElem (by simp)
  intro i h1 h2
  simp
theorem upTo_all (f : Nat → Sec → Sec) (k : Nat) (L : List Sec) (h : L.length ≤ k) : upTo f k L = L.mapIdx f := by
  unfold upTo
  apply List.ext_getElem (by simp)
  intro i h1 h2
  simp at h1
  simp
  omega
theorem upTo_at (f : Nat → Sec → Sec) (k : Nat) (L : List Sec) (h : k < (upTo f k L).length) : (upTo f k L)[k] = L[k]'(by simpa [upTo] using h) := by simp [upTo]
theorem upTo_succ (f : Nat → Sec → Sec) (k : Nat) (L : List Sec) (h : k < L.length) : (upTo f k L).set k (f k L[k]) = upTo f (k + 1) L := by
  apply List.ext_getElem (by simp [upTo])
  intro i h1 h2
  rw [List.getElem_set]
  by_cases e : k = i
  · subst e; simp [upTo]
  · simp [upTo, e]
    have : i < k ↔ i < k + 1 := by omega
    simp [this]

/-- A sector's bit is there. -/
def kbit (keep : Int) (i : Nat) : Bool := bits BinOp.and IntKind.i64 (keep / 2 ^ i) 1 == 1

def fate (keep : Int) (i : Nat) (x : Sec) : Sec := if kbit keep i = true then x.settle else x.revert

theorem crash1_t (i : Nat) (keep : Int) (c : Nat) (w : World) (hc : w.cell? ⟨c, 0, none⟩ = some (.int .i64 keep)) (hi : i < 6) (hk : kbit keep i = true) :
    Calls Try.prog 44 #[.int .i64 (i : Int), .pointer (some ⟨c, 0, none⟩)] w fun e w' => e = .returned (.func (.func 45) #[] #[]) ∧ w' = w := by
  unfold kbit at hk
  go_enter Try.func44, Try.ntmps44
  go_wp2
  go_ret
  exact ⟨rfl, rfl⟩

theorem crash1_f (i : Nat) (keep : Int) (c : Nat) (w : World) (hc : w.cell? ⟨c, 0, none⟩ = some (.int .i64 keep)) (hi : i < 6) (hk : kbit keep i = false) :
    Calls Try.prog 44 #[.int .i64 (i : Int), .pointer (some ⟨c, 0, none⟩)] w fun e w' => e = .returned (.func (.func 46) #[] #[]) ∧ w' = w := by
  unfold kbit at hk
  go_enter Try.func44, Try.ntmps44
  go_wp2
  go_ret
  exact ⟨rfl, rfl⟩

set_option maxHeartbeats 800000 in
theorem scrash_any (g : Nat) (V : Nat → Prop) (L : List Sec) (keep : Int) (w : World) (h : Drv w g V L) :
    Calls Try.prog 27 #[dp g, .int .i64 keep] w fun e w' => e = .returned (.tuple #[]) ∧ Drv w' g V (L.mapIdx (fate keep)) ∧ Off g w w' := by
  have hle := h.le
  have hlt0 := h.lt
  have hmf : ∀ (fn : Fn) (first cap : Array Value) (w : World), (Instr.makeFunc fn first cap).run Try.prog w = .ok (.func fn first cap) w := fun _ _ _ _ => rfl
  have hD0 : Drv (w.alloc (.cells #[.int .i64 keep] 3)) g V L := h.below ((Below.refl _ _).alloc (Nat.le_refl _) _)
  have hp := hD0.pc
  go_enter Try.func27, Try.ntmps27
  go_wp2
  go_loopw [13] (fun i wr => ∃ k : Nat, k ≤ L.length ∧ i = .int .i64 k ∧ Drv wr g V (upTo (fate keep) k L) ∧ Off g (w.alloc (.cells #[.int .i64 keep] 3)) wr) (fun i _ => L.length - (intOf i).toNat)
  case atStart => exact ⟨0, Nat.zero_le _, rfl, by rw [upTo_zero]; exact hD0, Off.refl _ _⟩
  case round =>
    obtain ⟨k, hk, rfl, hD, hO⟩ := hrel
    have hp2 := hD.pc
    simp only [upTo_length] at hp2
    clear hp
    have hc : wr.cell? ⟨w.heap.size, 0, none⟩ = some (.int .i64 keep) := by
      rw [World.cell?_of_block (w := w.alloc (.cells #[.int .i64 keep] 3)) (hO.block w.heap.size (by simp) (by omega))]
      rw [cell_of_row _ _ _ _ _ _ (heap_alloc_new w _)]; rfl
    by_cases hlt : k < L.length
    · cases hb : kbit keep k
      · go_wp2_with (first
          | (go_at_call 44; refine (crash1_f k keep _ _ hc (by omega) hb).mono ?_; rintro e w' ⟨rfl, hw⟩; subst w')
          | (go_at_call 46; refine (revert_any g V _ k _ hD (by rw [upTo_length]; exact hlt)).mono ?_; rintro e w2 ⟨rfl, hD2, hO2, hS2⟩))
        rw [upTo_at, show L[k].revert = fate keep k L[k] by simp [fate, hb], upTo_succ _ k L hlt] at hD2
        go_roundw
        case rel => exact ⟨k + 1, by omega, by go_num, hD2, hO.trans hO2⟩
        case measure => simp [intOf]; omega
      · go_wp2_with (first
          | (go_at_call 44; refine (crash1_t k keep _ _ hc (by omega) hb).mono ?_; rintro e w' ⟨rfl, hw⟩; subst w')
          | (go_at_call 45; refine (settle_any g V _ k _ hD (by rw [upTo_length]; exact hlt)).mono ?_; rintro e w2 ⟨rfl, hD2, hO2, hS2⟩))
        rw [upTo_at, show L[k].settle = fate keep k L[k] by simp [fate, hb], upTo_succ _ k L hlt] at hD2
        go_roundw
        case rel => exact ⟨k + 1, by omega, by go_num, hD2, hO.trans hO2⟩
        case measure => simp [intOf]; omega
    · go_wp2
      go_end0
      exact ⟨rfl, by rw [← upTo_all _ k L (by omega)]; exact hD, (Off.of_below ((Below.refl _ _).alloc (Nat.le_refl _) _)).trans hO⟩

theorem RdI.one2 (w : World) (o : Obj) (e : TypeId) (k : IntKind) (z : Int) : RdI ((w.alloc o).alloc (.cells #[.int k z] e)) k (some ⟨w.heap.size + 1, 0, none⟩) 1 [z] := by
  have := RdI.one (w.alloc o) e k z
  simpa using this

/-- The first k sectors that are loose. -/
def looseK (L : List Sec) (k : Nat) : List Int := ((List.range k).filter fun i => (L[i]?.map Sec.l).getD false).map fun i : Nat => (i : Int)

theorem looseK_length (L : List Sec) (k : Nat) : (looseK L k).length ≤ k := by
  unfold looseK
  rw [List.length_map]
  exact Nat.le_trans (List.length_filter_le _ _) (by simp)
theorem looseK_t (L : List Sec) (k : Nat) (h : k < L.length) (hl : L[k].l = true) : looseK L (k + 1) = looseK L k ++ [(k : Int)] := by
  simp [looseK, List.range_succ, List.filter_append, h, hl]
theorem looseK_f (L : List Sec) (k : Nat) (h : k < L.length) (hl : L[k].l = false) : looseK L (k + 1) = looseK L k := by
  simp [looseK, List.range_succ, List.filter_append, h, hl]

end Go.Proofs.Ythckdfggnmoaeaa
