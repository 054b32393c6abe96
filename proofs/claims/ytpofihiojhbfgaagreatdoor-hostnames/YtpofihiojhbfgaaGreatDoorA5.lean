/- Facts on slices of bytes, on what of memory is kept, and on a drive in memory. No walk. What the functions of package sector do, walked: the small ones. What the functions of package sector do, walked: New, Loose, Sync, Crash. What an append leaves: which block it may have written, and where its result begins. A tape in memory: where its parts lie, and what of it stays. No walk. What the functions of package tape do, walked. What the functions of package tape do, walked: Append, Drop, Cut, Crash. -/
import Derived.Test.YtpofihiojhbfgaaGreatDoorA4
import Derived.Laws.Rows
import Derived.Lib.SlBytesConst
import Derived.Handy
import Derived.Deep.RegionHeldLaw
import Derived.BigQuiet
import Derived.Laws.CopyOwn
namespace Go.Proofs.YtpofihiojhbfgaaGreatDoor
open Go.RowKit
set_option linter.unusedVariables false
set_option maxRecDepth 8000

/-! ### What is kept -/

structure Kept (V : Nat → Prop) (w w' : World) : Prop where
  size : w.heap.size ≤ w'.heap.size
  block : ∀ k, k < w.heap.size → V k → w'.heap[k]? = w.heap[k]?

theorem Kept.of_below {V : Nat → Prop} {a b : World} (h : Below a.heap.size a b) : Kept V a b := ⟨h.size, fun i hi _ => h.block i hi⟩
theorem Kept.mono {V U : Nat → Prop} {a b : World} (h : Kept V a b) (hv : ∀ k, U k → V k) : Kept U a b := ⟨h.size, fun i hi k => h.block i hi (hv i k)⟩

def In (w : World) (V : Nat → Prop) (ao : Option Addr) : Prop := ∀ a, ao = some a → V a.block ∧ a.block < w.heap.size

theorem In.none (w : World) (V : Nat → Prop) : In w V Option.none := fun a h => by cases h
theorem In.mono {w w' : World} {V U : Nat → Prop} {ao : Option Addr} (h : In w V ao) (hs : w.heap.size ≤ w'.heap.size) (hv : ∀ k, k < w.heap.size → V k → U k) : In w' U ao :=
  fun a e => ⟨hv _ (h a e).2 (h a e).1, Nat.lt_of_lt_of_le (h a e).2 hs⟩

theorem RdS.kept {w w' : World} {V : Nat → Prop} {ao : Option Addr} {cap : Nat} {xs : List Value} (h : RdS w ao cap xs) (hi : In w V ao) (hk : Kept V w w') : RdS w' ao cap xs := by
  refine ⟨h.le, h.mx, h.nil, fun hx => ?_⟩
  obtain ⟨b, off, e, hlt, hc⟩ := h.cell hx
  obtain ⟨hv, hl⟩ := hi _ e
  exact ⟨b, off, e, Nat.lt_of_lt_of_le hlt hk.size, fun t ht => (World.cell?_of_block (w := w) (hk.block b hl hv)).trans (hc t ht)⟩

theorem Rd8.kept {w w' : World} {V : Nat → Prop} {ao : Option Addr} {n cap : Nat} {bs : List Nat} (h : Rd8 w ao n cap bs) (hi : In w V ao) (hk : Kept V w w') : Rd8 w' ao n cap bs := ⟨RdS.kept h.rd hi hk, h.len, h.byte⟩

theorem OwnS.inn {w : World} {base : Nat} {e : TypeId} {ao : Option Addr} {cap : Nat} {xs : List Value} (h : OwnS w base e ao cap xs) : In w (fun k => base ≤ k) ao := by
  intro a ha
  obtain ⟨_, h2⟩ := h
  rcases h2 with ⟨hv, _⟩ | ⟨g, cp, cur, hv, hg, hh, _⟩
  · simp only [Value.slice.injEq] at hv; rw [hv.1] at ha; cases ha
  · simp only [Value.slice.injEq] at hv
    rw [hv.1] at ha
    cases ha
    exact ⟨hg, (Array.getElem?_eq_some_iff.1 hh).1⟩

theorem Own8.inn {w : World} {base : Nat} {ao : Option Addr} {n cap : Nat} {bs : List Nat} (h : Own8 w base ao n cap bs) : In w (fun k => base ≤ k) ao := OwnS.inn h.own

/-! ### A drive -/

structure Sec where
  b : List Nat
  s : List Nat
  l : Bool

abbrev Sec.e : Sec := ⟨[], [], false⟩

structure Drv (w : World) (g : Nat) (V : Nat → Prop) (L : List Sec) : Prop where
  le : L.length ≤ 6
  pc : w.cell? ⟨g + 1, 0, none⟩ = some (.slice (some ⟨g, 0, none⟩) L.length L.length)
  lt : g + 1 < w.heap.size
  fz : ∀ j, w.frozen? ⟨g, j, none⟩ = false
  vg : ¬ V g
  cb : ∀ i (h : i < L.length), ∃ ao n cap, w.cell? ⟨g, i * 3, none⟩ = some (.slice ao n cap) ∧ Rd8 w ao n cap L[i].b ∧ In w V ao ∧ n ≤ 100
  cs : ∀ i (h : i < L.length), ∃ ao n cap, w.cell? ⟨g, i * 3 + 1, none⟩ = some (.slice ao n cap) ∧ Rd8 w ao n cap L[i].s ∧ In w V ao ∧ n ≤ 100
  cl : ∀ i (h : i < L.length), w.cell? ⟨g, i * 3 + 2, none⟩ = some (.bool L[i].l)

theorem Drv.kept {w w' : World} {g : Nat} {V : Nat → Prop} {L : List Sec} (h : Drv w g V L) (hk : Kept (fun k => V k ∨ k = g ∨ k = g + 1) w w') : Drv w' g V L := by
  have hlt := h.lt
  have hg : w'.heap[g]? = w.heap[g]? := hk.block g (by omega) (.inr (.inl rfl))
  have hg1 : w'.heap[g + 1]? = w.heap[g + 1]? := hk.block (g + 1) hlt (.inr (.inr rfl))
  have hV : Kept V w w' := hk.mono fun k hk => .inl hk
  refine ⟨h.le, (World.cell?_of_block (w := w) hg1).trans h.pc, Nat.lt_of_lt_of_le hlt hk.size, fun j => (World.frozen?_of_block (w := w) hg).trans (h.fz j), h.vg, fun i hi => ?_, fun i hi => ?_, fun i hi => (World.cell?_of_block (w := w) hg).trans (h.cl i hi)⟩
  · obtain ⟨ao, n, cap, h1, h2, h3, h4⟩ := h.cb i hi
    exact ⟨ao, n, cap, (World.cell?_of_block (w := w) hg).trans h1, h2.kept h3 hV, h3.mono hk.size fun _ _ h => h, h4⟩
  · obtain ⟨ao, n, cap, h1, h2, h3, h4⟩ := h.cs i hi
    exact ⟨ao, n, cap, (World.cell?_of_block (w := w) hg).trans h1, h2.kept h3 hV, h3.mono hk.size fun _ _ h => h, h4⟩

theorem Drv.below {w w' : World} {g : Nat} {V : Nat → Prop} {L : List Sec} (h : Drv w g V L) (hb : Below w.heap.size w w') : Drv w' g V L := h.kept (Kept.of_below hb)

theorem Drv.mono {w : World} {g : Nat} {V U : Nat → Prop} {L : List Sec} (h : Drv w g V L) (hv : ∀ k, k < w.heap.size → V k → U k) (hg : ¬ U g) : Drv w g U L :=
  ⟨h.le, h.pc, h.lt, h.fz, hg, fun i hi => by obtain ⟨ao, n, cap, h1, h2, h3, h4⟩ := h.cb i hi; exact ⟨ao, n, cap, h1, h2, h3.mono (Nat.le_refl _) hv, h4⟩,
    fun i hi => by obtain ⟨ao, n, cap, h1, h2, h3, h4⟩ := h.cs i hi; exact ⟨ao, n, cap, h1, h2, h3.mono (Nat.le_refl _) hv, h4⟩, h.cl⟩

section
variable {w : World} {g : Nat} {V : Nat → Prop} {L : List Sec}

theorem put_other (w : World) (g i j : Nat) (u : Value) (hne : j ≠ i) : (w.setCell ⟨g, i, none⟩ u).cell? ⟨g, j, none⟩ = w.cell? ⟨g, j, none⟩ :=
  World.cell?_setCell_other _ _ _ _ (by intro e; simp only [Addr.mk.injEq] at e; omega)

end

end Go.Proofs.YtpofihiojhbfgaaGreatDoor

namespace Go.Proofs.YtpofihiojhbfgaaGreatDoor
open Go.RowKit
set_option linter.unusedVariables false
set_option maxRecDepth 8000

set_option maxHeartbeats 400000 in
theorem scopied_any (ao : Option Addr) (n cap : Nat) (bs : List Nat) (w : World) (h : Rd8 w ao n cap bs) (hn : n ≤ 140737488355328) :
    Calls Tryz.prog 169 #[.slice ao n cap] w fun e w' => ∃ ao' cap', e = .returned (.slice ao' n cap') ∧ Own8 w' w.heap.size ao' n cap' bs ∧ Below w.heap.size w w' := by
  have hl := h.len
  go_enter Tryz.func169, Tryz.ntmps169
  go_wp2_with (at_builtin; refine wpList_append_rdI _ rfl _ _ 31 rfl w.heap.size 5 .u8 (.int .u8 0) 1 Tryz.underlying31 info5 rfl rfl rfl (OwnI.nil _ _ _ _) h.rd rfl (by rw [ci_length]; omega) (by omega) (by unfold maxLen; omega) (Nat.le_refl _) ?_; intro ao2 cap2 w1 ho1 hb1)
  go_ret
  exact ⟨_, _, rfl, ⟨ho1, hl, h.byte⟩, hb1⟩

abbrev dp (g : Nat) : Value := .pointer (some ⟨g + 1, 0, none⟩)

def hasB (L : List Sec) (i : Int) : Bool := decide (0 ≤ i) && decide (i < (L.length : Int))

theorem has_any (g : Nat) (V : Nat → Prop) (L : List Sec) (i : Int) (w : World) (h : Drv w g V L) :
    Calls Tryz.prog 168 #[dp g, .int .i64 i] w fun e w' => e = .returned (.bool (hasB L i)) ∧ w' = w := by
  have hp := h.pc
  cases hd : decide (0 ≤ i)
  all_goals
    have h' := hd
    simp only [decide_eq_true_eq, decide_eq_false_iff_not] at h'
    go_enter Tryz.func168, Tryz.ntmps168
    go_wp2
    go_ret
    exact ⟨ret_bool (by simp only [hasB, hd, Bool.true_and, Bool.false_and]), rfl⟩

theorem hasB_t {L : List Sec} {i : Nat} (h : i < L.length) : hasB L (i : Int) = true := by simp [hasB]; omega

theorem read_ok (g : Nat) (V : Nat → Prop) (L : List Sec) (i : Nat) (w : World) (h : Drv w g V L) (hi : i < L.length) :
    Calls Tryz.prog 136 #[dp g, .int .i64 (i : Int)] w fun e w' => ∃ ao n cap, e = .returned (.tuple #[.slice ao n cap, .int .i64 0]) ∧ Own8 w' w.heap.size ao n cap L[i].b ∧ n ≤ 100 ∧ Below w.heap.size w w' := by
  have hp := h.pc
  have hh := hasB_t hi
  have hlt := h.lt
  have hle := h.le
  obtain ⟨ao, n, cap, h1, h2, h3, h4⟩ := h.cb i hi
  go_enter Tryz.func136, Tryz.ntmps136
  go_wp2_with (first
    | (go_at_call 168; refine (has_any g V L _ _ h).mono ?_; rintro e w' ⟨rfl, hw⟩; subst w')
    | (go_at_call 169; refine (scopied_any _ _ _ _ _ h2 (by omega)).mono ?_; rintro e w1 ⟨ao1, cap1, rfl, ho1, hb1⟩))
  go_ret2
  exact ⟨_, _, _, rfl, ho1, h4, hb1⟩

end Go.Proofs.YtpofihiojhbfgaaGreatDoor

namespace Go.Proofs.YtpofihiojhbfgaaGreatDoor
open Go.RowKit
set_option linter.unusedVariables false
set_option maxRecDepth 8000

theorem info64 : (Tryz.prog.info? 251).map (fun i => (i.zero, i.size, i.bytes)) = some (some (.agg #[.slice none 0 0, .slice none 0 0, .bool false]), 3, 56) := by kernel_rfl

def newN (many : Int) : Nat := (min (max many 0) 6).toNat

abbrev secZ : Array Value := #[.slice none 0 0, .slice none 0 0, .bool false]

theorem made_cell (n j : Nat) (hj : j < n * 3) : (madeCells secZ (n * 3))[j]? = some (secZ[j % 3]!) := by
  simp [madeCells, hj]

abbrev drvW (w : World) (n : Nat) : World := (w.alloc (.cells (madeCells secZ (n * 3)) 251)).alloc (.cells #[.slice (some ⟨w.heap.size, 0, none⟩) n n] 89)

theorem Drv.new (w : World) (n : Nat) (hn : n ≤ 6) (V : Nat → Prop) (hV : ¬ V w.heap.size) : Drv (drvW w n) w.heap.size V (List.replicate n Sec.e) := by
  have hs : (w.alloc (.cells (madeCells secZ (n * 3)) 251)).heap.size = w.heap.size + 1 := by simp
  have h0 : (drvW w n).heap[w.heap.size]? = some (.cells (madeCells secZ (n * 3)) 251) := by
    rw [Below.heap_alloc _ _ _ (by omega)]; exact heap_alloc_new w _
  have h1 : (drvW w n).heap[w.heap.size + 1]? = some (.cells #[.slice (some ⟨w.heap.size, 0, none⟩) n n] 89) := by
    have := heap_alloc_new (w.alloc (.cells (madeCells secZ (n * 3)) 251)) (.cells #[.slice (some ⟨w.heap.size, 0, none⟩) n n] 89)
    rwa [hs] at this
  have hc : ∀ j, j < n * 3 → (drvW w n).cell? ⟨w.heap.size, j, none⟩ = some (secZ[j % 3]!) := fun j hj => by
    rw [cell_of_row _ _ _ _ _ _ h0]; exact made_cell n j hj
  refine ⟨by simpa using hn, ?_, by simp, fun j => frozen_of_row _ _ _ _ _ h0, hV, fun i hi => ?_, fun i hi => ?_, fun i hi => ?_⟩
  · rw [cell_of_row _ _ _ _ _ _ h1]; simp
  · simp only [List.length_replicate] at hi
    refine ⟨none, 0, 0, ?_, ?_, In.none _ _, by omega⟩
    · rw [hc _ (by omega), show i * 3 % 3 = 0 by omega]; rfl
    · simpa using Rd8.empty _
  · simp only [List.length_replicate] at hi
    refine ⟨none, 0, 0, ?_, ?_, In.none _ _, by omega⟩
    · rw [hc _ (by omega), show (i * 3 + 1) % 3 = 1 by omega]; rfl
    · simpa using Rd8.empty _
  · simp only [List.length_replicate] at hi
    rw [hc _ (by omega), show (i * 3 + 2) % 3 = 2 by omega]; simp [secZ]

theorem snew_any (many : Int) (w : World) :
    Calls Tryz.prog 11 #[.int .i64 many] w fun e w' => e = .returned (dp w.heap.size) ∧ (∀ V : Nat → Prop, ¬ V w.heap.size → Drv w' w.heap.size V (List.replicate (newN many) Sec.e)) ∧ w'.heap.size = w.heap.size + 2 ∧ Below w.heap.size w w' := by
  obtain ⟨i0, hi, hz0, hz1, hz2⟩ := info_parts info64
  have hmk : ∀ (n : Nat) (W : World), n ≤ 6 → (Instr.makeSlice 87 (.int .i64 (n : Int)) (.int .i64 (n : Int))).run Tryz.prog W = .ok (.slice (some ⟨W.heap.size, 0, none⟩) n n) (W.alloc (.cells (madeCells secZ (n * 3)) 251)) := by
    intro n W h
    have := run_make (P := Tryz.prog) W 87 251 i0 _ Tryz.underlying87 hi hz0 .i64 .i64 n n (by omega) (Int.le_refl _) (by rw [hz2]; omega) (by omega)
    rw [hz1] at this
    simp only [Int.toNat_natCast] at this
    exact this
  have HM : Hid (∀ (n : Nat) (W : World), n ≤ 6 → (Instr.makeSlice 87 (.int .i64 (n : Int)) (.int .i64 (n : Int))).run Tryz.prog W = .ok (.slice (some ⟨W.heap.size, 0, none⟩) n n) (W.alloc (.cells (madeCells secZ (n * 3)) 251))) := hmk
  clear hmk
  by_cases h0 : many < 0
  · have hm : ∀ W : World, (Instr.makeSlice 87 (.int .i64 0) (.int .i64 0)).run Tryz.prog W = .ok (.slice (some ⟨W.heap.size, 0, none⟩) 0 0) (W.alloc (.cells (madeCells secZ (0 * 3)) 251)) := fun W => HM.out 0 W (by omega)
    go_enter Tryz.func11, Tryz.ntmps11
    go_wp2
    all_goals go_ret
    all_goals exact ⟨rfl, fun V hV => by have e : newN many = 0 := (by unfold newN; omega); rw [e]; exact Drv.new w 0 (by omega) V hV, by simp, by go_grown⟩
  · by_cases h6 : many ≤ 6
    · obtain ⟨n, rfl⟩ : ∃ n : Nat, many = n := ⟨many.toNat, by omega⟩
      have hn : n ≤ 6 := by omega
      have hm := fun W => HM.out n W hn
      go_enter Tryz.func11, Tryz.ntmps11
      go_wp2
      all_goals go_ret
      all_goals exact ⟨rfl, fun V hV => by have e : newN n = n := (by unfold newN; omega); rw [e]; exact Drv.new w n hn V hV, by simp, by go_grown⟩
    · have hm : ∀ W : World, (Instr.makeSlice 87 (.int .i64 6) (.int .i64 6)).run Tryz.prog W = .ok (.slice (some ⟨W.heap.size, 0, none⟩) 6 6) (W.alloc (.cells (madeCells secZ (6 * 3)) 251)) := fun W => HM.out 6 W (by omega)
      go_enter Tryz.func11, Tryz.ntmps11
      go_wp2
      all_goals go_ret
      all_goals exact ⟨rfl, fun V hV => by have e : newN many = 6 := (by unfold newN; omega); rw [e]; exact Drv.new w 6 (by omega) V hV, by simp, by go_grown⟩

end Go.Proofs.YtpofihiojhbfgaaGreatDoor

namespace Go.Proofs.YtpofihiojhbfgaaGreatDoor
open Go.RowKit
set_option linter.unusedVariables false
set_option maxRecDepth 8000

theorem run_append_g {P : Program} {w : World} (base : Nat) (t ty e : TypeId) (z : Value) (bytes : Nat) (ht : P.underlying t = some (.slice e))
    (hinfo : (P.info? e).map (fun i => (i.zero, i.size, i.bytes)) = some (some z, 1, bytes)) (hzs : z.cells.size = 1)
    {ao : Option Addr} {cap : Nat} {xs : List Value} (hown : OwnS w base e ao cap xs) {ao' : Option Addr} {cap' : Nat} {ys : List Value} (hrd : RdS w ao' cap' ys)
    (h1 : ∀ u ∈ ys, u.oneCell' = true) (hbytes : (xs.length + ys.length) * bytes ≤ 140737488355328) (h63 : xs.length + ys.length ≤ maxLen) (hbase : base ≤ w.heap.size) :
    ∃ ao2 cap2 w', (Builtin.append_ #[t, t] ty #[.slice ao xs.length cap, .slice ao' ys.length cap']).run P w = .ok (.slice ao2 (xs.length + ys.length) cap2) w' ∧
      OwnS w' base e ao2 cap2 (xs ++ ys) ∧ w.grownBy w' (Value.ownBlock (.slice ao xs.length cap)) := by
  obtain ⟨i0, hi, hz0, hz1, hz2⟩ := info_parts hinfo
  have fin : ∀ v' w', w'.ownsRow base e 1 v' (xs.length + ys.length) (xs ++ ys) → ∃ ao2 cap2, v' = .slice ao2 (xs.length + ys.length) cap2 ∧ OwnS w' base e ao2 cap2 (xs ++ ys) := by
    intro v' w' h
    obtain ⟨h1, h2⟩ := h
    have hlen : (xs ++ ys).length = xs.length + ys.length := by simp
    rcases h2 with ⟨hv, hn⟩ | ⟨g, cp, cur, hv, r⟩
    · exact ⟨none, 0, by rw [hv, hn], by unfold OwnS World.ownsRow; rw [hlen]; exact ⟨by simp, .inl ⟨by rw [hn], hn⟩⟩⟩
    · exact ⟨some ⟨g, 0, none⟩, cp, hv, by unfold OwnS World.ownsRow; rw [hlen]; exact ⟨by simp, .inr ⟨g, cp, cur, rfl, r⟩⟩⟩
  by_cases hy : ys = []
  · subst hy
    cases ao' with
    | none =>
      have hc := hrd.nil rfl
      subst hc
      have hrun := run_append_owned_none (P := P) (w := w) base t ty e i0 1 ht hi _ xs.length xs hown
      refine ⟨ao, cap, w, by simpa using hrun, by simpa using hown, ⟨rfl, rfl, rfl, Nat.le_refl _, fun _ _ _ => rfl⟩⟩
    | some ad =>
      obtain ⟨v', w', hr, h2, h3, _⟩ := run_append_own (P := P) w base t ty e i0 z 1 bytes ht hi hz0 hz1 hz2 hzs (by decide) _ _ _ hown ad 0 cap' [] (by simp) (by intro j u h; simp at h) (by simp) h63 hbytes hbase
      obtain ⟨ao2, cap2, rfl, ho⟩ := fin v' w' h2
      exact ⟨ao2, cap2, w', hr, ho, h3⟩
  · obtain ⟨b, off, rfl, _, hc⟩ := hrd.cell hy
    obtain ⟨v', w', hr, h2, h3, _⟩ := run_append_own (P := P) w base t ty e i0 z 1 bytes ht hi hz0 hz1 hz2 hzs (by decide) _ _ _ hown ⟨b, off, none⟩ ys.length cap' ys (by simp) (by
      intro j u h
      obtain ⟨hj, rfl⟩ := List.getElem?_eq_some_iff.1 h
      rw [Addr.add_lit]
      exact hc j hj) h1 h63 hbytes hbase
    obtain ⟨ao2, cap2, rfl, ho⟩ := fin v' w' h2
    exact ⟨ao2, cap2, w', hr, ho, h3⟩

theorem run_append_where {P : Program} {w : World} (base : Nat) (t ty e : TypeId) (z : Value) (bytes : Nat) (ht : P.underlying t = some (.slice e))
    (hinfo : (P.info? e).map (fun i => (i.zero, i.size, i.bytes)) = some (some z, 1, bytes)) (hzs : z.cells.size = 1)
    {ao : Option Addr} {cap : Nat} {xs : List Value} (hown : OwnS w base e ao cap xs) {ao' : Option Addr} {cap' : Nat} {ys : List Value} (hrd : RdS w ao' cap' ys) (hy : ys ≠ [])
    (h1 : ∀ u ∈ ys, u.oneCell' = true) (hbytes : (xs.length + ys.length) * bytes ≤ 140737488355328) (h63 : xs.length + ys.length ≤ maxLen) (hbase : base ≤ w.heap.size) :
    ∃ ao2 cap2 w', (Builtin.append_ #[t, t] ty #[.slice ao xs.length cap, .slice ao' ys.length cap']).run P w = .ok (.slice ao2 (xs.length + ys.length) cap2) w' ∧
      OwnS w' base e ao2 cap2 (xs ++ ys) ∧ w.grownBy w' (Value.ownBlock (.slice ao xs.length cap)) ∧ (ao2 = ao ∨ ao2 = some ⟨w.heap.size, 0, none⟩) := by
  obtain ⟨ao2, cap2, w', hr, h2, h3⟩ := run_append_g (P := P) base t ty e z bytes ht hinfo hzs hown hrd h1 hbytes h63 hbase
  refine ⟨ao2, cap2, w', hr, h2, h3, ?_⟩
  obtain ⟨i, hi, hz0, hz1, hz2⟩ := info_parts hinfo
  obtain ⟨b, off, rfl, _, hc⟩ := hrd.cell hy
  have hm : 0 < ys.length := List.length_pos_iff.2 hy
  have h63' := h63
  simp only [maxLen] at h63'
  have hnews : ∀ j u, ys[j]? = some u → w.cell? ((⟨b, off, none⟩ : Addr).add j) = some u := by
    intro j u h
    obtain ⟨hj, rfl⟩ := List.getElem?_eq_some_iff.1 h
    rw [Addr.add_lit]
    exact hc j hj
  have hown' := hown
  obtain ⟨q1, q2⟩ := hown'
  rcases q2 with ⟨hv, hn⟩ | ⟨g, cp, cur, hv, hg, hh, hle, hmx, hsz, htk⟩
  · have hx : xs = [] := List.eq_nil_of_length_eq_zero hn
    subst hx
    simp only [List.length_nil, Value.slice.injEq, true_and] at hv
    obtain ⟨rfl, rfl⟩ := hv
    have hr2 := run_append_nil (P := P) w t ty e i z ht hi hz0 ⟨b, off, none⟩ ys.length cap' ys (by rw [hz1]; simp) hnews (by omega) (by simp at h63'; omega) (by rw [hz2]; simp at hbytes; omega)
    simp only [List.length_nil] at hr
    rw [hr2] at hr
    simp only [Result.ok.injEq, Value.slice.injEq] at hr
    exact .inr hr.1.1.symm
  · simp only [Value.slice.injEq] at hv
    obtain ⟨rfl, _, rfl⟩ := hv
    by_cases hroom : xs.length + ys.length ≤ cap
    · have hr2 := run_append_room (P := P) w t ty e i ht hi g xs.length cap cur hh ⟨b, off, none⟩ ys.length cap' ys (by rw [hz1]; simp) hnews h1 hroom (by rw [hz1]; omega)
      rw [hr2] at hr
      simp only [Result.ok.injEq, Value.slice.injEq] at hr
      exact .inl hr.1.1.symm
    · have holds : ∀ j u, xs[j]? = some u → w.cell? ((⟨g, 0, none⟩ : Addr).add j) = some u := by
        have := World.ownsRow.cells hown (g := g) rfl
        exact this
      have hr2 := run_append_grow (P := P) w t ty e i z ht hi hz0 ⟨g, 0, none⟩ xs.length cap xs (by rw [hz1]; simp) holds ⟨b, off, none⟩ ys.length cap' ys (by rw [hz1]; simp) hnews (by omega) (by omega) (growslice_fits (by omega) (by rw [hz2]; exact hbytes))
      rw [hr2] at hr
      simp only [Result.ok.injEq, Value.slice.injEq] at hr
      exact .inr hr.1.1.symm

theorem run_append_at {P : Program} {w : World} (base : Nat) (t ty e : TypeId) (z : Value) (bytes : Nat) (ht : P.underlying t = some (.slice e))
    (hinfo : (P.info? e).map (fun i => (i.zero, i.size, i.bytes)) = some (some z, 1, bytes)) (hzs : z.cells.size = 1)
    {ao : Option Addr} {cap : Nat} {xs : List Value} (hown : OwnS w base e ao cap xs) {ao' : Option Addr} {cap' : Nat} {ys : List Value} (hrd : RdS w ao' cap' ys)
    (h1 : ∀ u ∈ ys, u.oneCell' = true) (hbytes : (xs.length + ys.length) * bytes ≤ 140737488355328) (h63 : xs.length + ys.length ≤ maxLen) (hbase : base ≤ w.heap.size) :
    ∃ ao2 cap2 w', (Builtin.append_ #[t, t] ty #[.slice ao xs.length cap, .slice ao' ys.length cap']).run P w = .ok (.slice ao2 (xs.length + ys.length) cap2) w' ∧
      OwnS w' base e ao2 cap2 (xs ++ ys) ∧ w.grownBy w' (Value.ownBlock (.slice ao xs.length cap)) ∧ (ao2 = ao ∨ ao2 = some ⟨w.heap.size, 0, none⟩) := by
  by_cases hy : ys = []
  · subst hy
    obtain ⟨i, hi, hz0, hz1, hz2⟩ := info_parts hinfo
    obtain ⟨ao2, cap2, w', hr, h2, h3⟩ := run_append_g (P := P) base t ty e z bytes ht hinfo hzs hown hrd h1 hbytes h63 hbase
    refine ⟨ao2, cap2, w', hr, h2, h3, .inl ?_⟩
    cases ao' with
    | none =>
      have hc := hrd.nil rfl
      subst hc
      have hrun := run_append_owned_none (P := P) (w := w) base t ty e i 1 ht hi _ xs.length xs hown
      simp only [List.length_nil] at hr
      rw [hrun] at hr
      simp only [Result.ok.injEq, Value.slice.injEq] at hr
      exact hr.1.1.symm
    | some ad =>
      have hown' := hown
      obtain ⟨q1, q2⟩ := hown'
      rcases q2 with ⟨hv, hn⟩ | ⟨g, cp, cur, hv, hg, hh, hle, hmx, hsz, htk⟩
      · have hx : xs = [] := List.eq_nil_of_length_eq_zero hn
        subst hx
        simp only [List.length_nil, Value.slice.injEq, true_and] at hv
        obtain ⟨rfl, rfl⟩ := hv
        obtain ⟨v', w2, hr2, _, _, hq⟩ := run_append_own (P := P) w base t ty e i z 1 bytes ht hi hz0 hz1 hz2 hzs (by decide) _ _ _ hown ad 0 cap' [] (by simp) (by intro j u h; simp at h) (by simp) h63 hbytes hbase
        have hv := hq.2 ⟨rfl, rfl⟩
        subst hv
        simp only [List.length_nil] at hr hr2
        rw [hr2] at hr
        simp only [Result.ok.injEq, Value.slice.injEq] at hr
        exact hr.1.1.symm
      · simp only [Value.slice.injEq] at hv
        obtain ⟨rfl, _, rfl⟩ := hv
        have hr2 := run_append_room (P := P) w t ty e i ht hi g xs.length cap cur hh ad 0 cap' [] (by simp) (by intro j u h; simp at h) h1 (by simpa using hle) (by rw [hz1]; simp only [List.length_nil]; omega)
        simp only [List.length_nil] at hr
        rw [hr2] at hr
        simp only [Result.ok.injEq, Value.slice.injEq] at hr
        exact hr.1.1.symm
  · exact run_append_where base t ty e z bytes ht hinfo hzs hown hrd hy h1 hbytes h63 hbase

theorem wpList_append_at {P : Program} (w : World) {ops : Array Oper} {rest : List Oper} {o : Oper} {a : Act} {Q : Exit → Act → World → Prop} (hgd : o.guard = none) (s x : Operand) (t : TypeId)
    (ho : o.op = .call { callee := .builtin .append, args := #[s, x], argTypes := #[t, t] })
    (base : Nat) (e : TypeId) (k : IntKind) (z : Value) (bytes : Nat) (ht : P.underlying t = some (.slice e))
    (hinfo : (P.info? e).map (fun i => (i.zero, i.size, i.bytes)) = some (some z, 1, bytes)) (hzs : z.cells.size = 1)
    {ao : Option Addr} {cap n : Nat} {xs : List Int} {ao' : Option Addr} {cap' m : Nat} {ys : List Int}
    (hs : a.eval s = .slice ao n cap) (hx : a.eval x = .slice ao' m cap') (hown : OwnI w base e k ao cap xs) (hrd : RdI w k ao' cap' ys) (hn : xs.length = n) (hm : ys.length = m)
    (hbytes : (n + m) * bytes ≤ 140737488355328) (h63 : n + m ≤ maxLen) (hbase : base ≤ w.heap.size)
    (h : ∀ ao2 cap2 w', OwnI w' base e k ao2 cap2 (xs ++ ys) → w.grownBy w' (Value.ownBlock (.slice ao n cap)) → (ao2 = ao ∨ ao2 = some ⟨w.heap.size, 0, none⟩) → wpList P ops Q rest (a.put o.dst (.slice ao2 (n + m) cap2)) w') : wpList P ops Q (o :: rest) a w := by
  subst hn hm
  refine wpList_plain hgd fun _ hK => ?_
  obtain ⟨ao2, cap2, w', hr, h2, h3, h4⟩ := run_append_at (P := P) base t o.type e z bytes ht hinfo hzs hown hrd (ints_one _ _) (by simpa using hbytes) (by simpa using h63) hbase
  simp only [List.length_map] at hr h3
  unfold Oper.wp execOp
  simp only [ho, resolve, invoke, builtin, Sem.run_bind, Sem.run_pure, Result.andThen_ok, List.map_toArray, List.map_cons, List.map_nil, hs, hx, hr]
  exact hK _ _ (h ao2 cap2 w' (by unfold OwnI; rw [List.map_append]; exact h2) h3 h4)

end Go.Proofs.YtpofihiojhbfgaaGreatDoor

namespace Go.Proofs.YtpofihiojhbfgaaGreatDoor
open Go.RowKit
set_option linter.unusedVariables false
set_option maxRecDepth 8000

structure Off2 (g : Nat) (ao : Option Addr) (w w' : World) : Prop where
  os : w'.os = w.os
  tape : w'.tape = w.tape
  output : w'.output = w.output
  size : w.heap.size ≤ w'.heap.size
  block : ∀ k, k < w.heap.size → k ≠ g → (∀ a, ao = some a → a.block ≠ k) → w'.heap[k]? = w.heap[k]?

def Nw (w : World) (ao ao' : Option Addr) : Prop := ∀ a, ao' = some a → (∃ c, ao = some c ∧ c.block = a.block) ∨ w.heap.size ≤ a.block

theorem Nw.refl (w : World) (ao : Option Addr) : Nw w ao ao := fun a h => .inl ⟨a, h, rfl⟩
theorem Nw.trans {w w1 : World} {a b c : Option Addr} (h : Nw w a b) (k : Nw w1 b c) (hs : w.heap.size ≤ w1.heap.size) : Nw w a c := by
  intro x hx
  rcases k x hx with ⟨y, hy, e⟩ | hy
  · rcases h y hy with ⟨z, hz, e2⟩ | hz
    · exact .inl ⟨z, hz, e2.trans e⟩
    · exact .inr (by omega)
  · exact .inr (by omega)

theorem Off2.refl (g : Nat) (ao : Option Addr) (w : World) : Off2 g ao w w := ⟨rfl, rfl, rfl, Nat.le_refl _, fun _ _ _ _ => rfl⟩
theorem Off2.trans {g : Nat} {a b : Option Addr} {w w1 w2 : World} (h : Off2 g a w w1) (k : Off2 g b w1 w2) (hn : Nw w a b) : Off2 g a w w2 :=
  ⟨k.os.trans h.os, k.tape.trans h.tape, k.output.trans h.output, Nat.le_trans h.size k.size, fun i hi hg ha => (k.block i (Nat.lt_of_lt_of_le hi h.size) hg (fun x hx => by
    rcases hn x hx with ⟨y, hy, e⟩ | hy
    · have := ha y hy; omega
    · omega)).trans (h.block i hi hg ha)⟩
theorem Off2.of_below {g : Nat} {w w' : World} (ao : Option Addr) (h : Below w.heap.size w w') : Off2 g ao w w' := ⟨h.os, h.tape, h.output, h.size, fun k hk _ _ => h.block k hk⟩
theorem Off2.of_grown {w w' : World} (g : Nat) {ao : Option Addr} {n cap : Nat} (h : w.grownBy w' (Value.ownBlock (.slice ao n cap))) : Off2 g ao w w' :=
  ⟨h.os, h.tape, h.output, h.size, fun k hk _ ha => h.block k hk (by
    cases ao with
    | none => simp [Value.ownBlock]
    | some a => simp [Value.ownBlock]; exact fun e => ha a rfl e.symm)⟩
theorem Off2.setCell {g : Nat} {ao : Option Addr} {a w : World} (h : Off2 g ao a w) {p : Addr} (hp : p.block = g) (u : Value) : Off2 g ao a (w.setCell p u) :=
  h.trans (b := ao) ⟨rfl, rfl, rfl, by simp [World.setCell], fun k _ hne _ => Below.heap_setCell _ _ _ _ (by omega)⟩ (Nw.refl _ _)
theorem Off2.below {g B : Nat} {ao : Option Addr} {a b : World} (h : Off2 g ao a b) (hB : B ≤ g) (ho : ∀ x, ao = some x → B ≤ x.block) (hs : B ≤ a.heap.size) : Below B a b :=
  ⟨h.os, h.tape, h.output, h.size, fun k hk => h.block k (by omega) (by omega) (fun x hx => by have := ho x hx; omega)⟩

theorem OwnS.keep {w w' : World} {base : Nat} {e : TypeId} {ao : Option Addr} {cap : Nat} {xs : List Value} (h : OwnS w base e ao cap xs) (hb : ∀ a, ao = some a → w'.heap[a.block]? = w.heap[a.block]?) : OwnS w' base e ao cap xs := by
  obtain ⟨h1, h2⟩ := h
  refine ⟨h1, ?_⟩
  rcases h2 with h2 | ⟨g, cp, cur, hv, hg, hh, r⟩
  · exact .inl h2
  · refine .inr ⟨g, cp, cur, hv, hg, ?_, r⟩
    simp only [Value.slice.injEq] at hv
    rw [hb _ hv.1]; exact hh
theorem Own8.keep {w w' : World} {base : Nat} {ao : Option Addr} {n cap : Nat} {bs : List Nat} (h : Own8 w base ao n cap bs) (hb : ∀ a, ao = some a → w'.heap[a.block]? = w.heap[a.block]?) : Own8 w' base ao n cap bs := ⟨OwnS.keep h.own hb, h.len, h.byte⟩
theorem Own8.ge {w : World} {base : Nat} {ao : Option Addr} {n cap : Nat} {bs : List Nat} (h : Own8 w base ao n cap bs) : ∀ a, ao = some a → base ≤ a.block := fun a ha => (h.inn a ha).1
theorem Own8.lt {w : World} {base : Nat} {ao : Option Addr} {n cap : Nat} {bs : List Nat} (h : Own8 w base ao n cap bs) : ∀ a, ao = some a → a.block < w.heap.size := fun a ha => (h.inn a ha).2

theorem OwnS.take {w : World} {base : Nat} {e : TypeId} {ao : Option Addr} {cap : Nat} {xs : List Value} (h : OwnS w base e ao cap xs) (k : Nat) (hk : k ≤ xs.length) : OwnS w base e ao cap (xs.take k) := by
  obtain ⟨h1, h2⟩ := h
  have hl : (xs.take k).length = k := by simp; omega
  unfold OwnS World.ownsRow
  rw [hl]
  refine ⟨by omega, ?_⟩
  rcases h2 with ⟨hv, hn⟩ | ⟨g, cp, cur, hv, hg, hh, hle, hmx, hsz, htk⟩
  · simp only [Value.slice.injEq] at hv
    have : k = 0 := by omega
    exact .inl ⟨by rw [hv.1, hv.2.2, this], this⟩
  · simp only [Value.slice.injEq] at hv
    refine .inr ⟨g, cp, cur, by rw [hv.1, hv.2.2], hg, hh, by omega, hmx, hsz, ?_⟩
    rw [← htk, List.take_take, Nat.mul_one, Nat.mul_one, Nat.min_eq_left hk]
theorem Own8.take {w : World} {base : Nat} {ao : Option Addr} {n cap : Nat} {bs : List Nat} (h : Own8 w base ao n cap bs) (k : Nat) (hk : k ≤ n) : Own8 w base ao k cap (bs.take k) := by
  have hl := h.len
  refine ⟨?_, by simp; omega, fun b hb => h.byte b (List.mem_of_mem_take hb)⟩
  have := OwnS.take h.own k (by simp [ci]; omega)
  rw [← List.map_take, ci_take] at this
  exact this

structure Hd (w : World) (g : Nat) (v : Value) (s r : Nat) : Prop where
  c0 : w.cell? ⟨g, 0, none⟩ = some v
  c1 : w.cell? ⟨g, 1, none⟩ = some (.int .i64 (s : Int))
  c2 : w.cell? ⟨g, 2, none⟩ = some (.int .i64 (r : Int))
  fz : ∀ j, w.frozen? ⟨g, j, none⟩ = false
  lt : g < w.heap.size

section
variable {w w' : World} {g : Nat} {v : Value} {s r : Nat}
theorem Hd.keep (h : Hd w g v s r) (hg : w'.heap[g]? = w.heap[g]?) (hs : w.heap.size ≤ w'.heap.size) : Hd w' g v s r :=
  ⟨(World.cell?_of_block (w := w) hg).trans h.c0, (World.cell?_of_block (w := w) hg).trans h.c1, (World.cell?_of_block (w := w) hg).trans h.c2, fun j => (World.frozen?_of_block (w := w) hg).trans (h.fz j), Nat.lt_of_lt_of_le h.lt hs⟩
theorem Hd.put0 (h : Hd w g v s r) (u : Value) : Hd (w.setCell ⟨g, 0, none⟩ u) g u s r :=
  ⟨World.cell?_setCell_same _ _ _ h.c0, by rw [put_other _ _ _ _ _ (by omega)]; exact h.c1, by rw [put_other _ _ _ _ _ (by omega)]; exact h.c2, fun j => by rw [World.frozen?_setCell]; exact h.fz j, by simpa [World.setCell] using h.lt⟩
theorem Hd.put1 (h : Hd w g v s r) (k : Nat) : Hd (w.setCell ⟨g, 1, none⟩ (.int .i64 (k : Int))) g v k r :=
  ⟨by rw [put_other _ _ _ _ _ (by omega)]; exact h.c0, World.cell?_setCell_same _ _ _ h.c1, by rw [put_other _ _ _ _ _ (by omega)]; exact h.c2, fun j => by rw [World.frozen?_setCell]; exact h.fz j, by simpa [World.setCell] using h.lt⟩
end

structure Tp (w : World) (B g : Nat) (ao : Option Addr) (n cap : Nat) (bs : List Nat) (s r : Nat) : Prop where
  hd : Hd w g (.slice ao n cap) s r
  own : Own8 w B ao n cap bs
  bg : B ≤ g
  ne : ∀ a, ao = some a → a.block ≠ g
  le : n ≤ 20000
  sl : s ≤ n
  rl : r ≤ 20000

section
variable {w w' : World} {B g : Nat} {ao : Option Addr} {n cap : Nat} {bs : List Nat} {s r : Nat}
theorem Tp.keep (h : Tp w B g ao n cap bs s r) (hs : w.heap.size ≤ w'.heap.size) (hg : w'.heap[g]? = w.heap[g]?) (ha : ∀ a, ao = some a → w'.heap[a.block]? = w.heap[a.block]?) : Tp w' B g ao n cap bs s r :=
  ⟨h.hd.keep hg hs, h.own.keep ha, h.bg, h.ne, h.le, h.sl, h.rl⟩
theorem Tp.below (h : Tp w B g ao n cap bs s r) (hb : Below w.heap.size w w') : Tp w' B g ao n cap bs s r :=
  h.keep hb.size (hb.block g h.hd.lt) fun a ha => hb.block _ (h.own.lt a ha)
theorem Tp.other (h : Tp w B g ao n cap bs s r) (p : Addr) (u : Value) (h1 : p.block ≠ g) (h2 : ∀ a, ao = some a → a.block ≠ p.block) : Tp (w.setCell p u) B g ao n cap bs s r :=
  h.keep (by simp [World.setCell]) (Below.heap_setCell _ _ _ _ (fun e => h1 e.symm)) fun a ha => Below.heap_setCell _ _ _ _ (h2 a ha)
theorem Tp.belowB (h : Tp w B g ao n cap bs s r) {w'' : World} (hb : Off2 g ao w w'') : Below B w w'' :=
  hb.below h.bg h.own.ge (by have := h.hd.lt; have := h.bg; omega)
theorem Tp.put0 (h : Hd w g (.slice ao n cap) s r) {ao2 : Option Addr} {n2 cap2 : Nat} {bs2 : List Nat} (ho : Own8 w B ao2 n2 cap2 bs2) (bg : B ≤ g) (ne : ∀ a, ao2 = some a → a.block ≠ g) (le : n2 ≤ 20000) (sl : s ≤ n2) (rl : r ≤ 20000) :
    Tp (w.setCell ⟨g, 0, none⟩ (.slice ao2 n2 cap2)) B g ao2 n2 cap2 bs2 s r :=
  ⟨h.put0 _, ho.keep fun a ha => Below.heap_setCell _ _ _ _ (ne a ha), bg, ne, le, sl, rl⟩
theorem Tp.put1 (h : Tp w B g ao n cap bs s r) (k : Nat) (hk : k ≤ n) : Tp (w.setCell ⟨g, 1, none⟩ (.int .i64 (k : Int))) B g ao n cap bs k r :=
  ⟨h.hd.put1 k, h.own.keep fun a ha => Below.heap_setCell _ _ _ _ (h.ne a ha), h.bg, h.ne, h.le, hk, h.rl⟩
theorem Tp.put01 (h : Hd w g (.slice ao n cap) s r) {ao2 : Option Addr} {n2 cap2 k : Nat} {bs2 : List Nat} (ho : Own8 w B ao2 n2 cap2 bs2) (bg : B ≤ g) (ne : ∀ a, ao2 = some a → a.block ≠ g) (le : n2 ≤ 20000) (sl : k ≤ n2) (rl : r ≤ 20000) :
    Tp ((w.setCell ⟨g, 0, none⟩ (.slice ao2 n2 cap2)).setCell ⟨g, 1, none⟩ (.int .i64 (k : Int))) B g ao2 n2 cap2 bs2 k r :=
  ⟨(h.put0 _).put1 k, (ho.keep fun a ha => Below.heap_setCell _ _ _ _ (ne a ha)).keep fun a ha => Below.heap_setCell _ _ _ _ (ne a ha), bg, ne, le, sl, rl⟩
end

theorem Tp.new (w : World) (B r : Nat) (hB : B ≤ w.heap.size) (hr : r ≤ 20000) : Tp (w.alloc (.cells #[.slice none 0 0, .int .i64 0, .int .i64 (r : Int)] 86)) B w.heap.size none 0 0 [] 0 r := by
  have h := heap_alloc_new w (.cells #[.slice none 0 0, .int .i64 0, .int .i64 (r : Int)] 86)
  refine ⟨⟨?_, ?_, ?_, fun j => frozen_of_row _ _ _ _ _ h, by simp⟩, ⟨OwnI.nil _ _ _ _, rfl, by simp⟩, hB, fun a ha => (by cases ha), by omega, by omega, hr⟩
  all_goals rw [cell_of_row _ _ _ _ _ _ h]; rfl

end Go.Proofs.YtpofihiojhbfgaaGreatDoor

namespace Go.Proofs.YtpofihiojhbfgaaGreatDoor
open Go.RowKit
set_option linter.unusedVariables false
set_option maxRecDepth 8000

abbrev tp (g : Nat) : Value := .pointer (some ⟨g, 0, none⟩)

def bnd (room : Int) : Nat := (min (max room 0) 20000).toNat
theorem bnd_le (room : Int) : bnd room ≤ 20000 := by unfold bnd; omega

theorem bounded_any (room : Int) (w : World) : Calls Tryz.prog 31 #[.int .i64 room] w fun e w' => e = .returned (.int .i64 (bnd room : Int)) ∧ w' = w := by
  by_cases h0 : room < 0
  · go_enter Tryz.func31, Tryz.ntmps31
    go_wp2
    all_goals go_ret
    all_goals exact ⟨ret_int (by unfold bnd; omega), rfl⟩
  · by_cases h1 : room ≤ 20000
    · go_enter Tryz.func31, Tryz.ntmps31
      go_wp2
      all_goals go_ret
      all_goals exact ⟨ret_int (by unfold bnd; omega), rfl⟩
    · go_enter Tryz.func31, Tryz.ntmps31
      go_wp2
      all_goals go_ret
      all_goals exact ⟨ret_int (by unfold bnd; omega), rfl⟩

theorem new_any (room : Int) (w : World) :
    Calls Tryz.prog 10 #[.int .i64 room] w fun e w' => e = .returned (tp w.heap.size) ∧ (∀ B, B ≤ w.heap.size → Tp w' B w.heap.size none 0 0 [] 0 (bnd room)) ∧ w'.heap.size = w.heap.size + 1 ∧ Below w.heap.size w w' := by
  go_enter Tryz.func10, Tryz.ntmps10
  go_wp2_with (go_at_call 31; refine (bounded_any room w).mono ?_; rintro e w' ⟨rfl, hw⟩; subst w')
  go_ret
  exact ⟨rfl, fun B hB => Tp.new w B _ hB (bnd_le _), by simp, by go_grown⟩

theorem cells_of_own {w : World} {base : Nat} {g n : Nat} {zs : List Int} (h : OwnI w base 5 .u8 (some ⟨g, 0, none⟩) n zs) (hn : zs.length = n) : w.heap[g]? = some (.cells (zs.map (Value.int .u8)).toArray 5 (0, 0)) := by
  obtain ⟨h1, h2⟩ := h
  rcases h2 with ⟨hv, _⟩ | ⟨g', cp, cur, hv, hg, hh, hle, hmx, hsz, htk⟩
  · simp at hv
  · simp only [Value.slice.injEq, Option.some.injEq, Addr.mk.injEq] at hv
    obtain ⟨⟨rfl, _⟩, _, rfl⟩ := hv
    rw [hh]
    have : cur.toList = zs.map (Value.int .u8) := by
      rw [← htk]
      rw [List.take_of_length_le]
      simp; omega
    rw [← this]

set_option maxHeartbeats 400000 in
theorem tcopied_any (ao : Option Addr) (n cap : Nat) (bs : List Nat) (w : World) (h : Rd8 w ao n cap bs) (hn : n ≤ 20000) :
    Calls Tryz.prog 92 #[.slice ao n cap] w fun e w' => ∃ ao' cap', e = .returned (.slice ao' n cap') ∧ Own8 w' w.heap.size ao' n cap' bs ∧ Below w.heap.size w w' := by
  have hl := h.len
  obtain ⟨X, hX⟩ : ∃ X : List Value, X = (ci bs).map (Value.int .u8) := ⟨_, rfl⟩
  have hXl : X.length = n := by rw [hX]; simp [ci]; exact hl
  obtain ⟨Z, hZ⟩ : ∃ Z : List Value, Z = (List.replicate n (0 : Int)).map (Value.int .u8) := ⟨_, rfl⟩
  have hZl : Z.length = n := by rw [hZ]; simp
  have HZ : Hid (Z = (List.replicate n (0 : Int)).map (Value.int .u8)) := hZ
  have HX : Hid (X = (ci bs).map (Value.int .u8)) := hX
  clear hX hZ
  have hsz : (Tryz.prog.info? 5).map (·.size) = some 1 := by kernel_rfl
  have hmn : X.length = Nat.min n n := by rw [hXl]; exact (Nat.min_self n).symm
  have HP : Hid (∀ w1 : World, Below w.heap.size w w1 → 0 < X.length → ∃ ad, ao = some ad ∧ ∀ j v, X[j]? = some v → w1.cell? (ad.add j) = some v) := by
    intro w1 hb1 hp
    obtain ⟨b, off, e, _, hc⟩ := RdS.cell (h.below hb1).rd (by rw [← HX.out]; intro e; rw [e] at hp; simp at hp)
    refine ⟨_, e, fun j v hj => ?_⟩
    obtain ⟨hj1, rfl⟩ := List.getElem?_eq_some_iff.1 hj
    rw [Addr.add_lit]
    rw [hc j (by rw [← HX.out]; exact hj1)]
    simp only [HX.out]
  have HO : Hid (∀ v ∈ X, v.oneCell' = true) := by rw [HX.out]; exact ints_one _ _
  go_enter Tryz.func92, Tryz.ntmps92
  go_wp2_with (first
    | (at_make; refine wpList_makeNI _ rfl _ _ 31 rfl w.heap.size 5 .u8 1 Tryz.underlying31 info5 n rfl rfl rfl rfl (by omega) (by unfold maxLen; omega) (Nat.le_refl _) ?_; intro g w1 hg1 ho1 hb1)
    | (refine wpList_copy_splice rfl _ _ 31 31 rfl 5 Tryz.underlying31 hsz _ _ _ _ _ _ rfl rfl g 0 Z 5 (by rw [HZ.out]; exact cells_of_own ho1 (by simp)) X hmn (fun hp => ⟨rfl, HP.out _ hb1 hp⟩) (by omega) HO.out w.heap.size w hb1 hg1 ?_; intro w2 HG hb2))
  go_ret
  refine ⟨_, _, rfl, ⟨?_, hl, h.byte⟩, hb2⟩
  have hh := HG.out
  have e1 : splice Z 0 X = X := by
    simp [splice]; omega
  rw [e1] at hh
  unfold OwnI OwnS
  rw [← HX.out]
  exact ⟨by simp, .inr ⟨g, n, X.toArray, by rw [hXl], hg1, hh, by omega, by unfold maxLen; omega, by simp [hXl], by simp⟩⟩

theorem sync_any (B g : Nat) (ao : Option Addr) (n cap : Nat) (bs : List Nat) (s r : Nat) (w : World) (h : Tp w B g ao n cap bs s r) : Calls Tryz.prog 104 #[tp g] w fun e w' => e = .returned (.tuple #[]) ∧ Tp w' B g ao n cap bs n r ∧ Off2 g ao w w' ∧ w'.heap.size = w.heap.size := by
  have h0 := h.hd.c0
  have h1 := h.hd.c1
  have hf := h.hd.fz 1
  go_enter Tryz.func104, Tryz.ntmps104
  go_wp2
  go_end0
  exact ⟨rfl, h.put1 n (Nat.le_refl _), (Off2.refl g ao w).setCell rfl _, by simp [World.setCell]⟩

theorem safe_any (B g : Nat) (ao : Option Addr) (n cap : Nat) (bs : List Nat) (s r : Nat) (w : World) (h : Tp w B g ao n cap bs s r) : Calls Tryz.prog 68 #[tp g] w fun e w' => e = .returned (.int .i64 (s : Int)) ∧ w' = w := by
  have h1 := h.hd.c1
  go_enter Tryz.func68, Tryz.ntmps68
  go_wp2
  go_ret
  exact ⟨rfl, rfl⟩

theorem bytes_any (B g : Nat) (ao : Option Addr) (n cap : Nat) (bs : List Nat) (s r : Nat) (w : World) (h : Tp w B g ao n cap bs s r) : Calls Tryz.prog 51 #[tp g] w fun e w' => ∃ ao' cap', e = .returned (.slice ao' n cap') ∧ Own8 w' w.heap.size ao' n cap' bs ∧ Below w.heap.size w w' := by
  have h0 := h.hd.c0
  go_enter Tryz.func51, Tryz.ntmps51
  go_wp2_with (go_at_call 92; refine (tcopied_any ao n cap bs w h.own.rd h.le).mono ?_; rintro e w1 ⟨ao1, cap1, rfl, ho1, hb1⟩)
  go_ret
  exact ⟨_, _, rfl, ho1, hb1⟩

end Go.Proofs.YtpofihiojhbfgaaGreatDoor

namespace Go.Proofs.YtpofihiojhbfgaaGreatDoor
open Go.RowKit
set_option linter.unusedVariables false
set_option maxRecDepth 8000

theorem Off2.undrew {g j : Nat} {ao : Option Addr} {w w' : World} (h : Off2 g ao (w.drewN j) w') : Off2 g ao w w' := ⟨h.os, h.tape, h.output, h.size, h.block⟩
theorem Own8.drewN {w : World} {base : Nat} {ao : Option Addr} {n cap : Nat} {bs : List Nat} (h : Own8 w base ao n cap bs) (j : Nat) : Own8 (w.drewN j) base ao n cap bs := h.keep fun _ _ => rfl
theorem ne_own {ao ao2 : Option Addr} {g : Nat} {w : World} (ne : ∀ a, ao = some a → a.block ≠ g) (hlt : g < w.heap.size) (h : Nw w ao ao2) : ∀ a, ao2 = some a → a.block ≠ g := by
  intro a ha
  rcases h a ha with ⟨c, hc, e⟩ | hc
  · have := ne c hc; omega
  · omega
theorem nw_at {w : World} {ao ao2 : Option Addr} (h : ao2 = ao ∨ ao2 = some ⟨w.heap.size, 0, none⟩) : Nw w ao ao2 := by
  rcases h with rfl | rfl
  · exact Nw.refl _ _
  · intro a ha; cases ha; exact .inr (Nat.le_refl _)

def cutN (k : Int) (n : Nat) : Nat := (min (max k 0) (n : Int)).toNat
theorem cutN_le (k : Int) (n : Nat) : cutN k n ≤ n := by unfold cutN; omega

def Led (w w' : World) (B g : Nat) (ao : Option Addr) (n : Nat) (bs : List Nat) (s r : Nat) : Prop := ∃ ao2 cap2, Tp w' B g ao2 n cap2 bs s r ∧ Off2 g ao w w' ∧ Nw w ao ao2

set_option maxHeartbeats 800000 in
theorem append_ok (B g : Nat) (ao : Option Addr) (n cap : Nat) (bs : List Nat) (s r : Nat) (w : World) (hT : Tp w B g ao n cap bs s r) (ax : Option Addr) (m cx : Nat) (ys : List Nat) (hr : Rd8 w ax m cx ys) (hfit : m = 0 ∨ n + m ≤ r) :
    Calls Tryz.prog 200 #[tp g, .slice ax m cx] w fun e w' => e = .returned (.int .i64 0) ∧ Led w w' B g ao (n + m) (bs ++ ys) s r := by
  have h0 := hT.hd.c0
  have h2 := hT.hd.c2
  have hle := hT.le
  have hrl := hT.rl
  have hbg := hT.bg
  have hlt := hT.hd.lt
  have hl := hT.own.len
  have hly := hr.len
  have fin : ∀ (j : Nat) (ao2 : Option Addr) (cap2 : Nat) (w1 : World), OwnI w1 B 5 .u8 ao2 cap2 (ci bs ++ ci ys) → (w.drewN j).grownBy w1 (Value.ownBlock (.slice ao n cap)) → (ao2 = ao ∨ ao2 = some ⟨(w.drewN j).heap.size, 0, none⟩) →
      Hd w1 g (.slice ao n cap) s r ∧ Tp (w1.setCell ⟨g, 0, none⟩ (.slice ao2 (n + m) cap2)) B g ao2 (n + m) cap2 (bs ++ ys) s r ∧ Off2 g ao w (w1.setCell ⟨g, 0, none⟩ (.slice ao2 (n + m) cap2)) ∧ Nw w ao ao2 := by
    intro j ao2 cap2 w1 ho hG hW
    have hO : Off2 g ao w w1 := (Off2.of_grown g hG).undrew
    have hN : Nw w ao ao2 := nw_at hW
    have hH : Hd w1 g (.slice ao n cap) s r := hT.hd.keep (hG.block g hlt (by
      cases ao with
      | none => simp [Value.ownBlock]
      | some a => have := hT.ne a rfl; simp [Value.ownBlock]; omega)) hG.size
    refine ⟨hH, Tp.put0 hH ⟨by rw [ci_append]; exact ho, by simp; omega, ?_⟩ hT.bg (ne_own hT.ne hlt hN) (by omega) (by have := hT.sl; omega) hT.rl, hO.setCell rfl _, hN⟩
    intro b hb
    rcases List.mem_append.1 hb with hb | hb
    · exact hT.own.byte b hb
    · exact hr.byte b hb
  have HF : Hid (∀ (j : Nat) (ao2 : Option Addr) (cap2 : Nat) (w1 : World), OwnI w1 B 5 .u8 ao2 cap2 (ci bs ++ ci ys) → (w.drewN j).grownBy w1 (Value.ownBlock (.slice ao n cap)) → (ao2 = ao ∨ ao2 = some ⟨(w.drewN j).heap.size, 0, none⟩) →
      Hd w1 g (.slice ao n cap) s r ∧ Tp (w1.setCell ⟨g, 0, none⟩ (.slice ao2 (n + m) cap2)) B g ao2 (n + m) cap2 (bs ++ ys) s r ∧ Off2 g ao w (w1.setCell ⟨g, 0, none⟩ (.slice ao2 (n + m) cap2)) ∧ Nw w ao ao2) := fin
  clear fin
  have hw1 : IntKind.i64.wrap ((r : Int) - (n : Int)) = (r : Int) - (n : Int) := by rw [IntKind.wrap_i64]; omega
  by_cases hm : m = 0
  · subst hm
    go_enter Tryz.func200, Tryz.ntmps200
    go_wp2
    go_quiet (fail)
    go_wp2_with (at_builtin; refine wpList_append_at _ rfl _ _ 31 rfl B 5 .u8 (.int .u8 0) 1 Tryz.underlying31 info5 rfl rfl rfl (hT.own.drewN _).own (hr.heap (w' := w.drewN _) rfl).rd (by rw [ci_length]; exact hl) (by rw [ci_length]; exact hly) (by omega) (by unfold maxLen; omega) (by simp; omega) ?_; intro ao2 cap2 w1 ho1 hG1 hW1; obtain ⟨hH1, hT1, hO, hN⟩ := HF.out _ ao2 cap2 w1 ho1 hG1 hW1; have hq0 := hH1.c0; have hqf := hH1.fz 0)
    go_ret
    exact ⟨rfl, ao2, cap2, hT1, hO, hN⟩
  · have hp : 0 < m := by omega
    have hf : n + m ≤ r := by omega
    have hd1 : decide ((m : Int) > 0) = true := by simp; omega
    have hd2 : decide ((m : Int) > (r : Int) - (n : Int)) = false := by simp; omega
    clear hfit
    go_enter Tryz.func200, Tryz.ntmps200
    go_wp2
    go_quiet (fail)
    go_wp2_with (at_builtin; refine wpList_append_at _ rfl _ _ 31 rfl B 5 .u8 (.int .u8 0) 1 Tryz.underlying31 info5 rfl rfl rfl (hT.own.drewN _).own (hr.heap (w' := w.drewN _) rfl).rd (by rw [ci_length]; exact hl) (by rw [ci_length]; exact hly) (by omega) (by unfold maxLen; omega) (by simp; omega) ?_; intro ao2 cap2 w1 ho1 hG1 hW1; obtain ⟨hH1, hT1, hO, hN⟩ := HF.out _ ao2 cap2 w1 ho1 hG1 hW1; have hq0 := hH1.c0; have hqf := hH1.fz 0)
    go_ret
    exact ⟨rfl, ao2, cap2, hT1, hO, hN⟩

set_option maxHeartbeats 800000 in
theorem cut_at (B g : Nat) (ao : Option Addr) (n cap : Nat) (bs : List Nat) (s r : Nat) (w : World) (hT : Tp w B g ao n cap bs s r) (k : Int) (L S : Nat) (T : List Nat) (hL : cutN k n = L) (hS : min s L = S) (hX : bs.take L = T) : Calls Tryz.prog 52 #[tp g, .int .i64 k] w fun e w' => e = .returned (.tuple #[]) ∧ Tp w' B g ao L cap T S r ∧ Off2 g ao w w' ∧ w'.heap.size = w.heap.size := by
  have h0 := hT.hd.c0
  have h1 := hT.hd.c1
  have hqf := hT.hd.fz 0
  have hqf1 := hT.hd.fz 1
  have hsl := hT.sl
  have hle := hT.le
  have hl := hT.own.len
  have hcap := hT.own.rd.rd.le
  rw [ci_length, hl] at hcap
  have hmx := hT.own.rd.rd.mx
  unfold maxLen at hmx
  have hLn := cutN_le k n
  rw [hL] at hLn
  have HF : Hid (∀ X : Int, X = (S : Int) → Tp ((w.setCell ⟨g, 0, none⟩ (.slice ao L cap)).setCell ⟨g, 1, none⟩ (.int .i64 X)) B g ao L cap T S r) := by
    intro X hX2
    subst hX2 hX
    exact Tp.put01 hT.hd (hT.own.take _ hLn) hT.bg hT.ne (by omega) (by omega) hT.rl
  have HS : Hid (min s L = S) := hS
  unfold cutN at hL
  clear hX hS
  by_cases hk0 : k < 0
  · obtain rfl : L = 0 := by omega
    clear hL
    go_enter Tryz.func52, Tryz.ntmps52
    go_wp2
    all_goals go_end0
    all_goals
      refine ⟨rfl, HF.out _ ?_, ((Off2.refl g ao w).setCell (p := ⟨g, 0, none⟩) rfl _).setCell (p := ⟨g, 1, none⟩) rfl _, by simp [World.setCell]⟩
      have := HS.out
      omega
  · obtain ⟨j, rfl⟩ : ∃ j : Nat, k = j := ⟨k.toNat, by omega⟩
    by_cases hj : j ≤ n
    · obtain rfl : L = j := by omega
      clear hL
      by_cases hs : s ≤ L
      · go_enter Tryz.func52, Tryz.ntmps52
        go_wp2
        all_goals go_end0
        all_goals
          refine ⟨rfl, HF.out _ ?_, ((Off2.refl g ao w).setCell (p := ⟨g, 0, none⟩) rfl _).setCell (p := ⟨g, 1, none⟩) rfl _, by simp [World.setCell]⟩
          have := HS.out
          omega
      · go_enter Tryz.func52, Tryz.ntmps52
        go_wp2
        all_goals go_end0
        all_goals
          refine ⟨rfl, HF.out _ ?_, ((Off2.refl g ao w).setCell (p := ⟨g, 0, none⟩) rfl _).setCell (p := ⟨g, 1, none⟩) rfl _, by simp [World.setCell]⟩
          have := HS.out
          omega
    · obtain rfl : L = n := by omega
      clear hL
      go_enter Tryz.func52, Tryz.ntmps52
      go_wp2
      all_goals go_end0
      all_goals
        refine ⟨rfl, HF.out _ ?_, ((Off2.refl g ao w).setCell (p := ⟨g, 0, none⟩) rfl _).setCell (p := ⟨g, 1, none⟩) rfl _, by simp [World.setCell]⟩
        have := HS.out
        omega

end Go.Proofs.YtpofihiojhbfgaaGreatDoor
