/- A table in memory: its 48 masks, what a store leaves of them; masks of four bits. No walk. What the short functions of package table do, walked. What Drop, Clear, Free, Alone and Holders of package table do, walked. Grant, Drop and Clear of any numbers; the chapter's example, walked. -/
import Derived.Test.YtpofihiojhbfgaaGreatDoorProg
import Derived.Test.YtpofihiojhbfgaaGreatDoorSl
import Derived.Laws.Rows
import Derived.Handy
import Derived.BigQuiet
import Derived.Deep.RegionHeldLaw
import Derived.Deep.DeepCutAuto
import Derived.Deep.CutBlock
import Derived.Laws.StructEq
namespace Go.Proofs.YtpofihiojhbfgaaGreatDoor.Tab
open Go.RowKit
set_option linter.unusedVariables false
set_option maxRecDepth 8000

theorem info3 : (Tryz.prog.info? 3).map (fun i => (i.zero, i.size, i.bytes)) = some (some (.int .i64 0), 1, 8) := by kernel_rfl

theorem put_other (w : World) (g i j : Nat) (u : Value) (hne : j ≠ i) : (w.setCell ⟨g, i, none⟩ u).cell? ⟨g, j, none⟩ = w.cell? ⟨g, j, none⟩ :=
  World.cell?_setCell_other _ _ _ _ (by intro e; simp only [Addr.mk.injEq] at e; omega)

structure Off (g : Nat) (w w' : World) : Prop where
  os : w'.os = w.os
  tape : w'.tape = w.tape
  output : w'.output = w.output
  size : w.heap.size ≤ w'.heap.size
  block : ∀ k, k < w.heap.size → k ≠ g → w'.heap[k]? = w.heap[k]?

theorem Off.refl (g : Nat) (w : World) : Off g w w := ⟨rfl, rfl, rfl, Nat.le_refl _, fun _ _ _ => rfl⟩
theorem Off.trans {g : Nat} {a b c : World} (h : Off g a b) (k : Off g b c) : Off g a c :=
  ⟨k.os.trans h.os, k.tape.trans h.tape, k.output.trans h.output, Nat.le_trans h.size k.size, fun i hi hne => (k.block i (Nat.lt_of_lt_of_le hi h.size) hne).trans (h.block i hi hne)⟩
theorem Off.of_below {g : Nat} {a b : World} (h : Below a.heap.size a b) : Off g a b := ⟨h.os, h.tape, h.output, h.size, fun i hi _ => h.block i hi⟩
theorem Off.setCell {g : Nat} {a w : World} (h : Off g a w) {p : Addr} (hp : p.block = g) (u : Value) : Off g a (w.setCell p u) :=
  h.trans ⟨rfl, rfl, rfl, by simp [World.setCell], fun k _ hne => Below.heap_setCell _ _ _ _ (by omega)⟩
theorem Off.set {g : Nat} {a w : World} (h : Off g a w) (i : Nat) (u : Value) : Off g a (w.setCell ⟨g, i, none⟩ u) := h.setCell rfl u
theorem Off.below {g B : Nat} {a b : World} (h : Off g a b) (hB : B ≤ g) (hs : B ≤ a.heap.size) : Below B a b := ⟨h.os, h.tape, h.output, h.size, fun k hk => h.block k (by omega) (by omega)⟩

/-! ### Masks -/

theorem or16 : ∀ a < 16, ∀ b < 16, bits .or .i64 ((a : Nat) : Int) ((b : Nat) : Int) = ((a ||| b : Nat) : Int) ∧ a ||| b < 16 := by decide +kernel
theorem and16 : ∀ a < 16, ∀ b < 16, bits .and .i64 ((a : Nat) : Int) ((b : Nat) : Int) = ((a &&& b : Nat) : Int) ∧ a &&& b < 16 := by decide +kernel
def sub (a b : Nat) : Nat := a ^^^ (a &&& b)
theorem not16 : ∀ a < 16, ∀ b < 16, bits .andNot .i64 ((a : Nat) : Int) ((b : Nat) : Int) = ((sub a b : Nat) : Int) ∧ sub a b < 16 := by decide +kernel
theorem bor {a b : Nat} (ha : a < 16) (hb : b < 16) : bits .or .i64 ((a : Nat) : Int) ((b : Nat) : Int) = ((a ||| b : Nat) : Int) := (or16 a ha b hb).1
theorem band {a b : Nat} (ha : a < 16) (hb : b < 16) : bits .and .i64 ((a : Nat) : Int) ((b : Nat) : Int) = ((a &&& b : Nat) : Int) := (and16 a ha b hb).1
theorem bnot {a b : Nat} (ha : a < 16) (hb : b < 16) : bits .andNot .i64 ((a : Nat) : Int) ((b : Nat) : Int) = ((sub a b : Nat) : Int) := (not16 a ha b hb).1
theorem lor {a b : Nat} (ha : a < 16) (hb : b < 16) : a ||| b < 16 := (or16 a ha b hb).2
theorem lsub {a b : Nat} (ha : a < 16) (hb : b < 16) : sub a b < 16 := (not16 a ha b hb).2

/-! ### A table -/

def put (T : Nat → Nat) (i v : Nat) : Nat → Nat := fun j => if j = i then v else T j

structure Tb (w : World) (g : Nat) (T : Nat → Nat) : Prop where
  cell : ∀ i, i < 48 → w.cell? ⟨g, i, none⟩ = some (.int .i64 ((T i : Nat) : Int))
  fz : ∀ j, w.frozen? ⟨g, j, none⟩ = false
  lt : g < w.heap.size
  le : ∀ i, T i < 16

section
variable {w w' : World} {g : Nat} {T : Nat → Nat}
theorem Tb.keep (h : Tb w g T) (hs : w.heap.size ≤ w'.heap.size) (hg : w'.heap[g]? = w.heap[g]?) : Tb w' g T :=
  ⟨fun i hi => (World.cell?_of_block (w := w) (w' := w') (a := ⟨g, i, none⟩) hg).trans (h.cell i hi), fun j => (World.frozen?_of_block (w := w) hg).trans (h.fz j), Nat.lt_of_lt_of_le h.lt hs, h.le⟩
theorem Tb.below (h : Tb w g T) (hb : Below w.heap.size w w') : Tb w' g T := h.keep hb.size (hb.block g h.lt)
theorem Tb.put (h : Tb w g T) {i v : Nat} (hi : i < 48) (hv : v < 16) : Tb (w.setCell ⟨g, i, none⟩ (.int .i64 ((v : Nat) : Int))) g (put T i v) := by
  refine ⟨fun j hj => ?_, fun j => by rw [World.frozen?_setCell]; exact h.fz j, by simp [World.setCell]; exact h.lt, fun j => ?_⟩
  · unfold Tab.put
    by_cases e : j = i
    · subst e
      rw [if_pos rfl]
      exact World.cell?_setCell_same _ _ _ (h.cell j hj)
    · rw [if_neg e, put_other _ _ _ _ _ e]
      exact h.cell j hj
  · unfold Tab.put
    split
    · exact hv
    · exact h.le j
end

def cp (T : Nat → Nat) (c p : Nat) : Nat := T (c * 12 + p * 2)
def ow (T : Nat → Nat) (c p : Nat) : Nat := T (c * 12 + p * 2 + 1)

def orr (f : Nat → Nat) (c : Nat) : Nat → Nat
  | 0 => 0
  | k + 1 => if k = c then orr f c k else orr f c k ||| f k

theorem orr_lt (f : Nat → Nat) (c : Nat) (hf : ∀ d, f d < 16) : ∀ k, orr f c k < 16
  | 0 => by show 0 < 16; decide
  | k + 1 => by
    unfold orr
    split
    · exact orr_lt f c hf k
    · exact lor (orr_lt f c hf k) (hf k)

theorem orr_eq (f : Nat → Nat) {c k : Nat} (h : k = c) : orr f c (k + 1) = orr f c k := by simp [orr, h]
theorem orr_ne (f : Nat → Nat) {c k : Nat} (h : k ≠ c) : orr f c (k + 1) = orr f c k ||| f k := by simp [orr, h]

def oc (T : Nat → Nat) (c p : Nat) : Nat := orr (fun d => cp T d p) c 4
def oo (T : Nat → Nat) (c p : Nat) : Nat := orr (fun d => ow T d p) c 4

def clB (c : Int) : Bool := decide (0 ≤ c) && decide (c < 4)
def plB (c p : Int) : Bool := clB c && decide (0 ≤ p) && decide (p < 6)
def maB (m : Int) : Bool := decide (0 ≤ m) && decide (m ≤ 15)

theorem tb16 : ∀ m < 16, ∀ o < 4, (bits .and .i64 ((m : Nat) : Int) ((2 : Int) ^ o) != 0) = m.testBit o := by decide +kernel

def wm (T : Nat → Nat) (wr : Bool) (k p : Nat) : Nat := if wr then cp T k p else ow T k p

def hol (T : Nat → Nat) (c p o : Nat) (wr : Bool) : Nat → List Int
  | 0 => []
  | k + 1 => if (k != c && (wm T wr k p).testBit o) = true then hol T c p o wr k ++ [(k : Int)] else hol T c p o wr k

theorem hol_len (T : Nat → Nat) (c p o : Nat) (wr : Bool) : ∀ k, (hol T c p o wr k).length ≤ k
  | 0 => by simp [hol]
  | k + 1 => by
    have := hol_len T c p o wr k
    unfold hol
    split
    · simp; omega
    · omega

end Go.Proofs.YtpofihiojhbfgaaGreatDoor.Tab

namespace Go.Proofs.YtpofihiojhbfgaaGreatDoor.Tab
open Go.RowKit
set_option linter.unusedVariables false
set_option maxRecDepth 8000

abbrev tp (g : Nat) : Value := .pointer (some ⟨g, 0, none⟩)

theorem ret_int {a b : Int} (h : a = b) : Ending.returned (.int .i64 a) = .returned (.int .i64 b) := by rw [h]
theorem ret_bool {a b : Bool} (h : a = b) : Ending.returned (.bool a) = .returned (.bool b) := by rw [h]

theorem client_any (c : Int) (w : World) : Calls Tryz.prog 103 #[.int .i64 c] w fun e w' => e = .returned (.bool (clB c)) ∧ w' = w := by
  cases hd : decide (0 ≤ c)
  all_goals
    have h' := hd
    simp only [decide_eq_true_eq, decide_eq_false_iff_not] at h'
    go_enter Tryz.func103, Tryz.ntmps103
    go_wp2
    go_ret
    exact ⟨ret_bool (by simp only [clB, hd, Bool.true_and, Bool.false_and]), rfl⟩

theorem mask_any (c : Int) (w : World) : Calls Tryz.prog 157 #[.int .i64 c] w fun e w' => e = .returned (.bool (maB c)) ∧ w' = w := by
  cases hd : decide (0 ≤ c)
  all_goals
    have h' := hd
    simp only [decide_eq_true_eq, decide_eq_false_iff_not] at h'
    go_enter Tryz.func157, Tryz.ntmps157
    go_wp2
    go_ret
    exact ⟨ret_bool (by simp only [maB, hd, Bool.true_and, Bool.false_and]), rfl⟩

theorem place_any (c p : Int) (w : World) : Calls Tryz.prog 64 #[.int .i64 c, .int .i64 p] w fun e w' => e = .returned (.bool (plB c p)) ∧ w' = w := by
  cases hc : clB c <;> cases hd : decide (0 ≤ p)
  all_goals
    have h' := hd
    simp only [decide_eq_true_eq, decide_eq_false_iff_not] at h'
    go_enter Tryz.func64, Tryz.ntmps64
    go_wp2_with (go_at_call 103; refine (client_any c _).mono ?_; rw [hc]; rintro e w1 ⟨rfl, hw⟩; subst w1)
    go_ret
    exact ⟨ret_bool (by simp only [plB, hc, hd, Bool.true_and, Bool.false_and]), rfl⟩

theorem new_any (w : World) : Calls Tryz.prog 58 #[] w fun e w' => e = .returned (tp w.heap.size) ∧ Tb w' w.heap.size (fun _ => 0) ∧ Below w.heap.size w w' := by
  go_enter Tryz.func58, Tryz.ntmps58
  go_wp2
  go_ret
  refine ⟨rfl, ?_, by go_grown⟩
  have h := heap_alloc_new w (.cells (Array.replicate 48 (.int .i64 0)) 143)
  refine ⟨fun i hi => ?_, fun j => frozen_of_row _ _ _ _ _ h, by simp, fun _ => by decide⟩
  refine (cell_of_row _ _ _ _ _ _ h).trans ?_
  simp [hi]

theorem nat_of_pl {c p : Int} (h : plB c p = true) : ∃ k l : Nat, k < 4 ∧ l < 6 ∧ c = k ∧ p = l := by
  simp only [plB, clB, Bool.and_eq_true, decide_eq_true_eq] at h
  exact ⟨c.toNat, p.toNat, by omega, by omega, by omega, by omega⟩
theorem nat_of_ma {m : Int} (h : maB m = true) : ∃ k : Nat, k < 16 ∧ m = k := by
  simp only [maB, Bool.and_eq_true, decide_eq_true_eq] at h
  exact ⟨m.toNat, by omega, by omega⟩
theorem pl_nat {c p : Nat} (h : c < 4) (k : p < 6) : plB c p = true := by simp [plB, clB]; omega
theorem ma_nat {m : Nat} (h : m < 16) : maB m = true := by simp [maB]; omega

def cpI (T : Nat → Nat) (c p : Int) : Nat := if plB c p then cp T c.toNat p.toNat else 0
def owI (T : Nat → Nat) (c p : Int) : Nat := if plB c p then ow T c.toNat p.toNat else 0

theorem copies_any (w : World) (g : Nat) (T : Nat → Nat) (H : Tb w g T) (c p : Int) : Calls Tryz.prog 158 #[tp g, .int .i64 c, .int .i64 p] w fun e w' => e = .returned (.int .i64 (cpI T c p : Nat)) ∧ w' = w := by
  cases h1 : plB c p
  · go_enter Tryz.func158, Tryz.ntmps158
    go_wp2_with (go_at_call 64; refine (place_any c p _).mono ?_; rw [h1]; rintro e w1 ⟨rfl, hw⟩; subst w1)
    go_ret
    exact ⟨ret_int (by simp [cpI, h1]), rfl⟩
  · obtain ⟨k, l, hk, hl, rfl, rfl⟩ := nat_of_pl h1
    have h2 := H.cell (k * 12 + l * 2) (by omega)
    go_enter Tryz.func158, Tryz.ntmps158
    go_wp2_with (go_at_call 64; refine (place_any k l _).mono ?_; rw [h1]; rintro e w1 ⟨rfl, hw⟩; subst w1)
    go_ret
    exact ⟨ret_int (by simp [cpI, h1, cp]), rfl⟩

theorem own_any (w : World) (g : Nat) (T : Nat → Nat) (H : Tb w g T) (c p : Int) : Calls Tryz.prog 34 #[tp g, .int .i64 c, .int .i64 p] w fun e w' => e = .returned (.int .i64 (owI T c p : Nat)) ∧ w' = w := by
  cases h1 : plB c p
  · go_enter Tryz.func34, Tryz.ntmps34
    go_wp2_with (go_at_call 64; refine (place_any c p _).mono ?_; rw [h1]; rintro e w1 ⟨rfl, hw⟩; subst w1)
    go_ret
    exact ⟨ret_int (by simp [owI, h1]), rfl⟩
  · obtain ⟨k, l, hk, hl, rfl, rfl⟩ := nat_of_pl h1
    have h2 := H.cell (k * 12 + l * 2 + 1) (by omega)
    go_enter Tryz.func34, Tryz.ntmps34
    go_wp2_with (go_at_call 64; refine (place_any k l _).mono ?_; rw [h1]; rintro e w1 ⟨rfl, hw⟩; subst w1)
    go_ret
    exact ⟨ret_int (by simp [owI, h1, ow]), rfl⟩

structure C2 (w : World) (b : Nat) (x y : Nat) : Prop where
  blk : w.heap[b]? = some (.cells #[.int .i64 ((x : Nat) : Int), .int .i64 ((y : Nat) : Int)] 139 (0, 0))

section
variable {w w' : World} {b x y : Nat}
theorem C2.c0 (h : C2 w b x y) : w.cell? ⟨b, 0, none⟩ = some (.int .i64 (x : Int)) := by rw [cell_of_row _ _ _ _ _ _ h.blk]; rfl
theorem C2.c1 (h : C2 w b x y) : w.cell? ⟨b, 1, none⟩ = some (.int .i64 (y : Int)) := by rw [cell_of_row _ _ _ _ _ _ h.blk]; rfl
theorem C2.fz (h : C2 w b x y) (j : Nat) : w.frozen? ⟨b, j, none⟩ = false := frozen_of_row _ _ _ _ _ h.blk
theorem C2.keep (h : C2 w b x y) (hb : w'.heap[b]? = w.heap[b]?) : C2 w' b x y := ⟨hb.trans h.blk⟩
theorem C2.put0 (h : C2 w b x y) (u : Nat) : C2 (w.setCell ⟨b, 0, none⟩ (.int .i64 (u : Int))) b u y := ⟨by rw [heap_setCell_same w b 0 _ 139 _ h.blk]; rfl⟩
theorem C2.put1 (h : C2 w b x y) (u : Nat) : C2 (w.setCell ⟨b, 1, none⟩ (.int .i64 (u : Int))) b x u := ⟨by rw [heap_setCell_same w b 1 _ 139 _ h.blk]; rfl⟩
end

theorem below_set {B : Nat} {w w' : World} (h : Below B w w') {p : Addr} (hp : B ≤ p.block) (u : Value) : Below B w (w'.setCell p u) :=
  h.trans ⟨rfl, rfl, rfl, by simp [World.setCell], fun k hk => Below.heap_setCell _ _ _ _ (by omega)⟩

set_option maxHeartbeats 800000 in
theorem others_in (w : World) (g : Nat) (T : Nat → Nat) (H : Tb w g T) (c p : Nat) (hc : c < 4) (hp : p < 6) : Calls Tryz.prog 205 #[tp g, .int .i64 (c : Int), .int .i64 (p : Int)] w fun e w' => e = .returned (.agg #[.int .i64 (oc T c p : Nat), .int .i64 (oo T c p : Nat)]) ∧ Below w.heap.size w w' := by
  have hlt := H.lt
  go_enter Tryz.func205, Tryz.ntmps205
  go_wp2
  go_loopw [9] (fun i wr => ∃ k : Nat, k ≤ 4 ∧ i = .int .i64 k ∧ C2 wr w.heap.size 0 0 ∧ C2 wr (w.heap.size + 1) (orr (fun d => cp T d p) c k) (orr (fun d => ow T d p) c k) ∧ Below w.heap.size w wr) (fun i _ => 4 - (intOf i).toNat)
  case atStart =>
    refine ⟨0, by omega, rfl, ?_, ?_, by go_grown⟩
    · exact ⟨(((Below.refl _ _).alloc (Nat.le_refl _) _).block _ (by simp)).trans (heap_alloc_new w (.cells #[.int .i64 0, .int .i64 0] 139))⟩
    · have h2 := heap_alloc_new (w.alloc (.cells #[.int .i64 0, .int .i64 0] 139)) (.cells #[.int .i64 0, .int .i64 0] 139)
      rw [show (w.alloc (.cells #[.int .i64 0, .int .i64 0] 139)).heap.size = w.heap.size + 1 from by simp] at h2
      exact ⟨h2⟩
  case round =>
    obtain ⟨k, hk, rfl, hA, hC, hbel⟩ := hrel
    rename World => wr
    by_cases hlt4 : k < 4
    · have HT := H.below hbel
      by_cases hkc : k = c
      · have e1 : ((k : Int) != (c : Int)) = false := by simp; omega
        have HK : Hid (k = c) := hkc
        clear hkc
        go_wp2
        go_roundw
        case rel =>
          have := HK.out
          exact ⟨k + 1, by omega, by go_num, hA, by rw [orr_eq _ this, orr_eq _ this]; exact hC, hbel⟩
        case measure => simp [intOf]; omega
      · have e1 : ((k : Int) != (c : Int)) = true := by simp; omega
        have HK : Hid (k ≠ c) := hkc
        clear hkc
        obtain ⟨X, hX⟩ : ∃ X, orr (fun d => cp T d p) c k = X := ⟨_, rfl⟩
        obtain ⟨Y, hY⟩ : ∃ Y, orr (fun d => ow T d p) c k = Y := ⟨_, rfl⟩
        have hXl : X < 16 := by rw [← hX]; exact orr_lt _ _ (fun d => H.le _) _
        have hYl : Y < 16 := by rw [← hY]; exact orr_lt _ _ (fun d => H.le _) _
        rw [hX, hY] at hC
        have HXY : Hid (orr (fun d => cp T d p) c k = X ∧ orr (fun d => ow T d p) c k = Y) := ⟨hX, hY⟩
        clear hX hY
        have t0 := HT.cell (k * 12 + p * 2) (by omega)
        have t1 := HT.cell (k * 12 + p * 2 + 1) (by omega)
        have c0 := hC.c0
        have c1 := hC.c1
        have f0 := hC.fz 0
        have f1 := hC.fz 1
        have b0 := bor hXl (H.le (k * 12 + p * 2))
        have b1 := bor hYl (H.le (k * 12 + p * 2 + 1))
        go_upto_region 6 with fail
        go_big_region
        go_wp2
        have hC6 : C2 ((wr.setCell ⟨w.heap.size + 1, 0, none⟩ (.int .i64 ((X ||| T (k * 12 + p * 2) : Nat) : Int))).drew) (w.heap.size + 1) (X ||| T (k * 12 + p * 2)) Y := ⟨(hC.put0 _).blk⟩
        have hA6 : C2 ((wr.setCell ⟨w.heap.size + 1, 0, none⟩ (.int .i64 ((X ||| T (k * 12 + p * 2) : Nat) : Int))).drew) w.heap.size 0 0 := hA.keep (Below.heap_setCell _ _ _ _ (by simp))
        have hB6 : Below w.heap.size w ((wr.setCell ⟨w.heap.size + 1, 0, none⟩ (.int .i64 ((X ||| T (k * 12 + p * 2) : Nat) : Int))).drew) := by
          have := below_set hbel (p := ⟨w.heap.size + 1, 0, none⟩) (Nat.le_succ _) (.int .i64 ((X ||| T (k * 12 + p * 2) : Nat) : Int))
          exact ⟨this.os, this.tape, this.output, this.size, this.block⟩
        generalize ((wr.setCell ⟨w.heap.size + 1, 0, none⟩ (.int .i64 ((X ||| T (k * 12 + p * 2) : Nat) : Int))).drew) = W6 at *
        clear t0 t1 c0 c1 f0 f1
        have t1 := (H.below hB6).cell (k * 12 + p * 2 + 1) (by omega)
        have c1 := hC6.c1
        have f1 := hC6.fz 1
        go_big_region
        go_wp2
        go_roundw
        case rel =>
          have e2 := HK.out
          obtain ⟨eX, eY⟩ := HXY.out
          refine ⟨k + 1, by omega, by go_num, hA6.keep (Below.heap_setCell _ _ _ _ (by simp)), ?_, ?_⟩
          · rw [orr_ne _ e2, orr_ne _ e2, eX, eY]
            exact ⟨(hC6.put1 _).blk⟩
          · have := below_set hB6 (p := ⟨w.heap.size + 1, 1, none⟩) (Nat.le_succ _) (.int .i64 ((Y ||| T (k * 12 + p * 2 + 1) : Nat) : Int))
            exact ⟨this.os, this.tape, this.output, this.size, this.block⟩
        case measure => simp [intOf]; omega
    · obtain rfl : k = 4 := by omega
      have a0 := hA.c0
      have a1 := hA.c1
      have f0 := hA.fz 0
      have f1 := hA.fz 1
      have c0 := hC.c0
      have c1 := hC.c1
      go_wp2
      have hF : C2 ((wr.setCell ⟨w.heap.size, 0, none⟩ (.int .i64 ((orr (fun d => cp T d p) c 4 : Nat) : Int))).setCell ⟨w.heap.size, 1, none⟩ (.int .i64 ((orr (fun d => ow T d p) c 4 : Nat) : Int))) w.heap.size (oc T c p) (oo T c p) := (hA.put0 _).put1 _
      have hB : Below w.heap.size w ((wr.setCell ⟨w.heap.size, 0, none⟩ (.int .i64 ((orr (fun d => cp T d p) c 4 : Nat) : Int))).setCell ⟨w.heap.size, 1, none⟩ (.int .i64 ((orr (fun d => ow T d p) c 4 : Nat) : Int))) := below_set (below_set hbel (Nat.le_refl _) _) (Nat.le_refl _) _
      generalize ((wr.setCell ⟨w.heap.size, 0, none⟩ (.int .i64 ((orr (fun d => cp T d p) c 4 : Nat) : Int))).setCell ⟨w.heap.size, 1, none⟩ (.int .i64 ((orr (fun d => ow T d p) c 4 : Nat) : Int))) = W9 at *
      have e0 := hF.c0
      have e1 := hF.c1
      refine bodyPost_ret (by simp [results, Tryz.results205, go_sem, e0, e1]; try rfl) rfl ?_
      exact ⟨rfl, hB⟩

def grB (T : Nat → Nat) (c p a b : Nat) : Bool := (oo T c p &&& (a ||| b) == 0) && (oc T c p &&& b == 0)
def grT (T : Nat → Nat) (c p a b : Nat) : Nat → Nat := put (put T (c * 12 + p * 2) (cp T c p ||| (a ||| b))) (c * 12 + p * 2 + 1) (ow T c p ||| b)
def argB (c p a b : Int) : Bool := plB c p && maB a && maB b

theorem arg_no {c p a b : Int} (h : argB c p a b = false) : plB c p = false ∨ (plB c p = true ∧ maB a = false) ∨ (plB c p = true ∧ maB a = true ∧ maB b = false) := by
  unfold argB at h
  cases h1 : plB c p <;> cases h2 : maB a <;> cases h3 : maB b <;> simp_all

theorem grant_no (g : Nat) (w : World) (c p a b : Int) (h : argB c p a b = false) : Calls Tryz.prog 191 #[tp g, .int .i64 c, .int .i64 p, .int .i64 a, .int .i64 b] w fun e w' => e = .returned (.bool false) ∧ w' = w := by
  rcases arg_no h with h1 | ⟨h1, h2⟩ | ⟨h1, h2, h3⟩
  · clear h
    go_enter Tryz.func191, Tryz.ntmps191
    go_wp2_with (first
      | (go_at_call 64; refine (place_any c p _).mono ?_; rw [h1]; rintro e w1 ⟨rfl, hw⟩; subst w1))
    go_ret
    exact ⟨rfl, rfl⟩
  · clear h
    go_enter Tryz.func191, Tryz.ntmps191
    go_wp2_with (first
      | (go_at_call 64; refine (place_any c p _).mono ?_; rw [h1]; rintro e w1 ⟨rfl, hw⟩; subst w1)
      | (go_at_call 157; with_reducible refine (mask_any a _).mono ?_; rw [h2]; rintro e w1 ⟨rfl, hw⟩; subst w1))
    go_ret
    exact ⟨rfl, rfl⟩
  · clear h
    go_enter Tryz.func191, Tryz.ntmps191
    go_wp2_with (first
      | (go_at_call 64; refine (place_any c p _).mono ?_; rw [h1]; rintro e w1 ⟨rfl, hw⟩; subst w1)
      | (go_at_call 157; with_reducible refine (mask_any a _).mono ?_; rw [h2]; rintro e w1 ⟨rfl, hw⟩; subst w1)
      | (go_at_call 157; with_reducible refine (mask_any b _).mono ?_; rw [h3]; rintro e w1 ⟨rfl, hw⟩; subst w1))
    go_ret
    exact ⟨rfl, rfl⟩

set_option maxHeartbeats 800000 in
theorem grant_in (w : World) (g : Nat) (T : Nat → Nat) (H : Tb w g T) (c p a b : Nat) (hc : c < 4) (hp : p < 6) (ha : a < 16) (hb : b < 16) :
    Calls Tryz.prog 191 #[tp g, .int .i64 (c : Int), .int .i64 (p : Int), .int .i64 (a : Int), .int .i64 (b : Int)] w fun e w' => e = .returned (.bool (grB T c p a b)) ∧ Tb w' g (if grB T c p a b then grT T c p a b else T) ∧ Off g w w' := by
  have h1 := pl_nat hc hp
  have h2 := ma_nat ha
  have h3 := ma_nat hb
  have hlt := H.lt
  have g1 := bor ha hb
  have hab := lor ha hb
  obtain ⟨X, hX⟩ : ∃ X, oc T c p = X := ⟨_, rfl⟩
  obtain ⟨Y, hY⟩ : ∃ Y, oo T c p = Y := ⟨_, rfl⟩
  have hXl : X < 16 := by rw [← hX]; exact orr_lt _ _ (fun d => H.le _) _
  have hYl : Y < 16 := by rw [← hY]; exact orr_lt _ _ (fun d => H.le _) _
  have g2 := band hYl hab
  have g3 := band hXl hb
  have HO := others_in w g T H c p hc hp
  rw [hX, hY] at HO
  have hgr : grB T c p a b = ((Y &&& (a ||| b) == 0) && (X &&& b == 0)) := by unfold grB; rw [hX, hY]
  rw [hgr]
  clear hX hY
  cases q1 : (Y &&& (a ||| b) == 0)
  · have q2 : (((Y &&& (a ||| b) : Nat) : Int) != 0) = true := by simp at q1; simp; omega
    clear hgr q1
    go_enter Tryz.func191, Tryz.ntmps191
    go_wp2_with (first
      | (go_at_call 205; refine HO.mono ?_; rintro e w2 ⟨rfl, hb2⟩; have hs2 := hb2.size)
      | (go_at_call 64; refine (place_any c p _).mono ?_; rw [h1]; rintro e w1 ⟨rfl, hw⟩; subst w1)
      | (go_at_call 157; with_reducible refine (mask_any a _).mono ?_; rw [h2]; rintro e w1 ⟨rfl, hw⟩; subst w1)
      | (go_at_call 157; with_reducible refine (mask_any b _).mono ?_; rw [h3]; rintro e w1 ⟨rfl, hw⟩; subst w1))
    go_ret
    refine ⟨rfl, ?_, ?_⟩
    · exact H.below (by go_grown)
    · exact Off.of_below (by go_grown)
  · have q2 : (((Y &&& (a ||| b) : Nat) : Int) != 0) = false := by simp at q1; simp; omega
    clear q1
    cases q3 : (X &&& b == 0)
    · have q4 : (((X &&& b : Nat) : Int) != 0) = true := by simp at q3; simp; omega
      clear hgr q3
      go_enter Tryz.func191, Tryz.ntmps191
      go_wp2_with (first
        | (go_at_call 205; refine HO.mono ?_; rintro e w2 ⟨rfl, hb2⟩; have hs2 := hb2.size)
        | (go_at_call 64; refine (place_any c p _).mono ?_; rw [h1]; rintro e w1 ⟨rfl, hw⟩; subst w1)
        | (go_at_call 157; with_reducible refine (mask_any a _).mono ?_; rw [h2]; rintro e w1 ⟨rfl, hw⟩; subst w1)
        | (go_at_call 157; with_reducible refine (mask_any b _).mono ?_; rw [h3]; rintro e w1 ⟨rfl, hw⟩; subst w1))
      go_ret
      refine ⟨rfl, ?_, ?_⟩
      · exact H.below (by go_grown)
      · exact Off.of_below (by go_grown)
    · have q4 : (((X &&& b : Nat) : Int) != 0) = false := by simp at q3; simp; omega
      clear hgr q3
      have g4 := bor (H.le (c * 12 + p * 2)) hab
      have g5 := bor (H.le (c * 12 + p * 2 + 1)) hb
      go_enter Tryz.func191, Tryz.ntmps191
      go_upto_region 6 with (first
        | (go_at_call 205; refine HO.mono ?_; rintro e w2 ⟨rfl, hb2⟩; have hs2 := hb2.size)
        | (go_at_call 64; refine (place_any c p _).mono ?_; rw [h1]; rintro e w1 ⟨rfl, hw⟩; subst w1)
        | (go_at_call 157; with_reducible refine (mask_any a _).mono ?_; rw [h2]; rintro e w1 ⟨rfl, hw⟩; subst w1)
        | (go_at_call 157; with_reducible refine (mask_any b _).mono ?_; rw [h3]; rintro e w1 ⟨rfl, hw⟩; subst w1))
      have hB3 : Below w.heap.size w (w2.alloc (.cells #[.int .i64 (X : Int), .int .i64 (Y : Int)] 139)) := by go_grown
      generalize (w2.alloc (.cells #[.int .i64 (X : Int), .int .i64 (Y : Int)] 139)) = W3 at *
      have H3 := H.below hB3
      have t0 := H3.cell (c * 12 + p * 2) (by omega)
      have t1 := H3.cell (c * 12 + p * 2 + 1) (by omega)
      have f0 := H3.fz (c * 12 + p * 2)
      have f1 := H3.fz (c * 12 + p * 2 + 1)
      go_wp2
      go_ret
      refine ⟨rfl, ?_, ?_⟩
      · exact (H3.put (by omega) (lor (H.le _) hab)).put (by omega) (lor (H.le _) hb)
      · exact ((Off.of_below hB3).set _ _).set _ _

end Go.Proofs.YtpofihiojhbfgaaGreatDoor.Tab

namespace Go.Proofs.YtpofihiojhbfgaaGreatDoor.Tab
open Go.RowKit
set_option linter.unusedVariables false
set_option maxRecDepth 8000

def drT (T : Nat → Nat) (c p a b : Nat) : Nat → Nat := put (put T (c * 12 + p * 2) (sub (cp T c p) a)) (c * 12 + p * 2 + 1) (sub (ow T c p) (a ||| b))

theorem drop_no (g : Nat) (w : World) (c p a b : Int) (h : argB c p a b = false) : Calls Tryz.prog 124 #[tp g, .int .i64 c, .int .i64 p, .int .i64 a, .int .i64 b] w fun e w' => e = .returned (.tuple #[]) ∧ w' = w := by
  rcases arg_no h with h1 | ⟨h1, h2⟩ | ⟨h1, h2, h3⟩
  · clear h
    go_enter Tryz.func124, Tryz.ntmps124
    go_wp2_with (first
      | (go_at_call 64; refine (place_any c p _).mono ?_; rw [h1]; rintro e w1 ⟨rfl, hw⟩; subst w1))
    refine bodyPost_ret (results_none rfl _ _ _) rfl ?_
    exact ⟨rfl, rfl⟩
  · clear h
    go_enter Tryz.func124, Tryz.ntmps124
    go_wp2_with (first
      | (go_at_call 64; refine (place_any c p _).mono ?_; rw [h1]; rintro e w1 ⟨rfl, hw⟩; subst w1)
      | (go_at_call 157; with_reducible refine (mask_any a _).mono ?_; rw [h2]; rintro e w1 ⟨rfl, hw⟩; subst w1))
    refine bodyPost_ret (results_none rfl _ _ _) rfl ?_
    exact ⟨rfl, rfl⟩
  · clear h
    go_enter Tryz.func124, Tryz.ntmps124
    go_wp2_with (first
      | (go_at_call 64; refine (place_any c p _).mono ?_; rw [h1]; rintro e w1 ⟨rfl, hw⟩; subst w1)
      | (go_at_call 157; with_reducible refine (mask_any a _).mono ?_; rw [h2]; rintro e w1 ⟨rfl, hw⟩; subst w1)
      | (go_at_call 157; with_reducible refine (mask_any b _).mono ?_; rw [h3]; rintro e w1 ⟨rfl, hw⟩; subst w1))
    refine bodyPost_ret (results_none rfl _ _ _) rfl ?_
    exact ⟨rfl, rfl⟩

theorem drop_in (w : World) (g : Nat) (T : Nat → Nat) (H : Tb w g T) (c p a b : Nat) (hc : c < 4) (hp : p < 6) (ha : a < 16) (hb : b < 16) :
    Calls Tryz.prog 124 #[tp g, .int .i64 (c : Int), .int .i64 (p : Int), .int .i64 (a : Int), .int .i64 (b : Int)] w fun e w' => e = .returned (.tuple #[]) ∧ Tb w' g (drT T c p a b) ∧ Off g w w' := by
  have h1 := pl_nat hc hp
  have h2 := ma_nat ha
  have h3 := ma_nat hb
  have g1 := bor ha hb
  have hab := lor ha hb
  have g4 := bnot (H.le (c * 12 + p * 2)) ha
  have g5 := bnot (H.le (c * 12 + p * 2 + 1)) hab
  have t0 := H.cell (c * 12 + p * 2) (by omega)
  have t1 := H.cell (c * 12 + p * 2 + 1) (by omega)
  have f0 := H.fz (c * 12 + p * 2)
  have f1 := H.fz (c * 12 + p * 2 + 1)
  go_enter Tryz.func124, Tryz.ntmps124
  go_wp2_with (first
    | (go_at_call 64; refine (place_any c p _).mono ?_; rw [h1]; rintro e w1 ⟨rfl, hw⟩; subst w1)
    | (go_at_call 157; with_reducible refine (mask_any a _).mono ?_; rw [h2]; rintro e w1 ⟨rfl, hw⟩; subst w1)
    | (go_at_call 157; with_reducible refine (mask_any b _).mono ?_; rw [h3]; rintro e w1 ⟨rfl, hw⟩; subst w1))
  go_end0
  refine ⟨rfl, ?_, ?_⟩
  · exact (H.put (by omega) (lsub (H.le _) ha)).put (by omega) (lsub (H.le _) hab)
  · exact ((Off.refl g w).set _ _).set _ _

def frI (T : Nat → Nat) (c p : Int) : Nat := if plB c p then sub 15 (oo T c.toNat p.toNat) else 0

theorem free_any (w : World) (g : Nat) (T : Nat → Nat) (H : Tb w g T) (c p : Int) : Calls Tryz.prog 203 #[tp g, .int .i64 c, .int .i64 p] w fun e w' => e = .returned (.int .i64 (frI T c p : Nat)) ∧ Below w.heap.size w w' := by
  cases h1 : plB c p
  · go_enter Tryz.func203, Tryz.ntmps203
    go_wp2_with (go_at_call 64; refine (place_any c p _).mono ?_; rw [h1]; rintro e w1 ⟨rfl, hw⟩; subst w1)
    go_ret
    exact ⟨ret_int (by simp [frI, h1]), Below.refl _ _⟩
  · obtain ⟨k, l, hk, hl, rfl, rfl⟩ := nat_of_pl h1
    have e0 : frI T k l = sub 15 (oo T k l) := by simp [frI, h1]
    rw [e0]
    have HO := others_in w g T H k l hk hl
    have hYl : oo T k l < 16 := orr_lt _ _ (fun d => H.le _) _
    obtain ⟨X, hX⟩ : ∃ X, oc T k l = X := ⟨_, rfl⟩
    obtain ⟨Y, hY⟩ : ∃ Y, oo T k l = Y := ⟨_, rfl⟩
    rw [hX, hY] at HO
    rw [hY] at hYl
    rw [hY]
    have q : bits .andNot .i64 15 (Y : Int) = ((sub 15 Y : Nat) : Int) := bnot (a := 15) (by omega) hYl
    clear hX hY e0
    have hf : ∀ W : World, (Instr.field 139 (.agg #[.int .i64 (X : Int), .int .i64 (Y : Int)]) 1).run Tryz.prog W = .ok (.int .i64 (Y : Int)) W := fun W => rfl
    go_enter Tryz.func203, Tryz.ntmps203
    go_wp2_with (first
      | (go_at_call 205; refine HO.mono ?_; rintro e w2 ⟨rfl, hb2⟩; have hs2 := hb2.size)
      | (go_at_call 64; refine (place_any k l _).mono ?_; rw [h1]; rintro e w1 ⟨rfl, hw⟩; subst w1))
    go_ret
    exact ⟨rfl, by go_grown⟩

theorem eq57 (w : World) (x y : Nat) : (Op.equalIn 10000 139 (.agg #[.int .i64 (x : Int), .int .i64 (y : Int)]) (.agg #[.int .i64 0, .int .i64 0])).run Tryz.prog w = .ok (x == 0 && y == 0) w := by
  cases x <;> cases y <;> kernel_rfl

def alI (T : Nat → Nat) (c p : Int) : Bool := plB c p && (oc T c.toNat p.toNat == 0 && oo T c.toNat p.toNat == 0)

theorem alone_any (w : World) (g : Nat) (T : Nat → Nat) (H : Tb w g T) (c p : Int) : Calls Tryz.prog 201 #[tp g, .int .i64 c, .int .i64 p] w fun e w' => e = .returned (.bool (alI T c p)) ∧ Below w.heap.size w w' := by
  cases h1 : plB c p
  · go_enter Tryz.func201, Tryz.ntmps201
    go_wp2_with (go_at_call 64; refine (place_any c p _).mono ?_; rw [h1]; rintro e w1 ⟨rfl, hw⟩; subst w1)
    go_ret
    exact ⟨ret_bool (by simp [alI, h1]), Below.refl _ _⟩
  · obtain ⟨k, l, hk, hl, rfl, rfl⟩ := nat_of_pl h1
    have e0 : alI T k l = (oc T k l == 0 && oo T k l == 0) := by simp [alI, h1]
    rw [e0]
    have HO := others_in w g T H k l hk hl
    obtain ⟨X, hX⟩ : ∃ X, oc T k l = X := ⟨_, rfl⟩
    obtain ⟨Y, hY⟩ : ∃ Y, oo T k l = Y := ⟨_, rfl⟩
    rw [hX, hY] at HO
    rw [hX, hY]
    clear hX hY e0
    have q := fun W => eq57 W X Y
    go_enter Tryz.func201, Tryz.ntmps201
    go_wp2_with (first
      | (go_at_call 205; refine HO.mono ?_; rintro e w2 ⟨rfl, hb2⟩; have hs2 := hb2.size)
      | (go_at_call 64; refine (place_any k l _).mono ?_; rw [h1]; rintro e w1 ⟨rfl, hw⟩; subst w1))
    go_ret
    exact ⟨rfl, hb2⟩

def hoI (T : Nat → Nat) (c p o : Int) (wr : Bool) : List Int := if plB c p = true ∧ 0 ≤ o ∧ o < 4 then hol T c.toNat p.toNat o.toNat wr 4 else []

theorem hoI_len (T : Nat → Nat) (c p o : Int) (wr : Bool) : (hoI T c p o wr).length ≤ 4 := by
  unfold hoI
  split
  · exact hol_len _ _ _ _ _ _
  · simp

theorem hol_no {T : Nat → Nat} {c p o : Nat} {wr : Bool} {k : Nat} (h : (k != c && (wm T wr k p).testBit o) = false) : hol T c p o wr (k + 1) = hol T c p o wr k := by
  rw [hol, h]; rfl
theorem hol_yes {T : Nat → Nat} {c p o : Nat} {wr : Bool} {k : Nat} (h : (k != c && (wm T wr k p).testBit o) = true) : hol T c p o wr (k + 1) = hol T c p o wr k ++ [(k : Int)] := by
  rw [hol, h]; rfl

set_option maxHeartbeats 1600000 in
theorem holders_any (w : World) (g : Nat) (T : Nat → Nat) (H : Tb w g T) (c p o : Int) (wr : Bool) : Calls Tryz.prog 178 #[tp g, .int .i64 c, .int .i64 p, .int .i64 o, .bool wr] w fun e w' => ∃ ao n cap, e = .returned (.slice ao n cap) ∧ OwnI w' w.heap.size 3 .i64 ao cap (hoI T c p o wr) ∧ (hoI T c p o wr).length = n ∧ Below w.heap.size w w' := by
  by_cases hh : plB c p = true ∧ 0 ≤ o ∧ o < 4
  · obtain ⟨h1, h2, h3⟩ := hh
    have e0 : hoI T c p o wr = hol T c.toNat p.toNat o.toNat wr 4 := by unfold hoI; rw [if_pos ⟨h1, h2, h3⟩]
    rw [e0]
    clear e0
    obtain ⟨k, l, hk, hl, rfl, rfl⟩ := nat_of_pl h1
    obtain ⟨q, rfl⟩ : ∃ q : Nat, o = q := ⟨o.toNat, by omega⟩
    simp only [Int.toNat_natCast]
    have hq : q < 4 := by omega
    have hsh : IntKind.i64.wrap ((2 : Int) ^ q) = (2 : Int) ^ q := by
      match q, hq with
      | 0, _ | 1, _ | 2, _ | 3, _ => rfl
    go_enter Tryz.func178, Tryz.ntmps178
    go_wp2_with (go_at_call 64; refine (place_any k l _).mono ?_; rw [h1]; rintro e w1 ⟨rfl, hw⟩; subst w1)
    go_loopw [11, 26] (fun v i wq => ∃ (t : Nat) (ao : Option Addr) (n cap : Nat), t ≤ 4 ∧ i = .int .i64 t ∧ v = .slice ao n cap ∧ Hid (OwnI wq w.heap.size 3 .i64 ao cap (hol T k l q wr t) ∧ (hol T k l q wr t).length = n) ∧ Below w.heap.size w wq) (fun _ i _ => 4 - (intOf i).toNat)
    case atStart => exact ⟨0, none, 0, 0, by omega, rfl, rfl, ⟨by simpa [hol] using OwnI.nil _ _ _ _, rfl⟩, by go_grown⟩
    case round =>
      obtain ⟨t, ao, n, cap, ht, rfl, rfl, HI, hbel⟩ := hrel
      rename World => wq
      by_cases hlt : t < 4
      · have HT := H.below hbel
        have t0 := HT.cell (t * 12 + l * 2) (by omega)
        have t1 := HT.cell (t * 12 + l * 2 + 1) (by omega)
        have hn4 := hol_len T k l q wr t
        have hn := HI.out.2
        rw [hn] at hn4
        have b0 := tb16 (T (t * 12 + l * 2)) (H.le _) q hq
        have b1 := tb16 (T (t * 12 + l * 2 + 1)) (H.le _) q hq
        clear hn
        by_cases hkc : t = k
        · have e1 : ((t : Int) != (k : Int)) = false := by simp; omega
          have HK : Hid (t = k) := hkc
          clear hkc
          cases wr
          all_goals
            go_wp2
            go_roundw
            case rel => exact ⟨t + 1, ao, n, cap, by omega, by go_num, rfl, by rw [hol_no (by simp [HK.out])]; exact HI.out, hbel⟩
            case measure => simp [intOf]; omega
        · have e1 : ((t : Int) != (k : Int)) = true := by simp; omega
          have e2 : (t != k) = true := by simp; omega
          have HK : Hid ((t != k) = true) := e2
          clear hkc e2
          cases wr
          · cases hb : (T (t * 12 + l * 2 + 1)).testBit q
            · rw [hb] at b1
              have HB : Hid ((T (t * 12 + l * 2 + 1)).testBit q = false) := hb
              clear hb
              go_wp2
              go_roundw
              case rel => exact ⟨t + 1, ao, n, cap, by omega, by go_num, rfl, by rw [hol_no (by simp only [wm, ow, Bool.false_eq_true, if_false]; rw [HB.out]; simp)]; exact HI.out, hbel⟩
              case measure => simp [intOf]; omega
            · rw [hb] at b1
              have HB : Hid ((T (t * 12 + l * 2 + 1)).testBit q = true) := hb
              clear hb
              go_wp2_with (at_builtin; refine wpList_append_rdI _ rfl _ _ 135 rfl w.heap.size 3 .i64 (.int .i64 0) 8 Tryz.underlying135 info3 rfl rfl rfl (HI.out.1.alloc _) (RdI.built _ 3 .i64 #[.int .i64 (t : Int)] 1 [(t : Int)] rfl rfl (by simp [maxLen])) HI.out.2 rfl (by omega) (by unfold maxLen; omega) (by have := hbel.size; simp; omega) ?_; intro ao2 cap2 w3 ho3 hb3)
              go_roundw
              case rel => exact ⟨t + 1, ao2, n + 1, cap2, by omega, by go_num, rfl, by rw [hol_yes (by simp only [wm, ow, Bool.false_eq_true, if_false]; rw [HB.out, HK.out]; rfl)]; exact ⟨ho3, by simp [HI.out.2]⟩, hbel.trans (((Below.refl _ _).alloc hbel.size _).trans hb3)⟩
              case measure => simp [intOf]; omega
          · cases hb : (T (t * 12 + l * 2)).testBit q
            · rw [hb] at b0
              have HB : Hid ((T (t * 12 + l * 2)).testBit q = false) := hb
              clear hb
              go_wp2
              go_roundw
              case rel => exact ⟨t + 1, ao, n, cap, by omega, by go_num, rfl, by rw [hol_no (by simp only [wm, cp, if_true]; rw [HB.out]; simp)]; exact HI.out, hbel⟩
              case measure => simp [intOf]; omega
            · rw [hb] at b0
              have HB : Hid ((T (t * 12 + l * 2)).testBit q = true) := hb
              clear hb
              go_wp2_with (at_builtin; refine wpList_append_rdI _ rfl _ _ 135 rfl w.heap.size 3 .i64 (.int .i64 0) 8 Tryz.underlying135 info3 rfl rfl rfl (HI.out.1.alloc _) (RdI.built _ 3 .i64 #[.int .i64 (t : Int)] 1 [(t : Int)] rfl rfl (by simp [maxLen])) HI.out.2 rfl (by omega) (by unfold maxLen; omega) (by have := hbel.size; simp; omega) ?_; intro ao2 cap2 w3 ho3 hb3)
              go_roundw
              case rel => exact ⟨t + 1, ao2, n + 1, cap2, by omega, by go_num, rfl, by rw [hol_yes (by simp only [wm, cp, if_true]; rw [HB.out, HK.out]; rfl)]; exact ⟨ho3, by simp [HI.out.2]⟩, hbel.trans (((Below.refl _ _).alloc hbel.size _).trans hb3)⟩
              case measure => simp [intOf]; omega
      · obtain rfl : t = 4 := by omega
        go_wp2
        go_ret
        exact ⟨ao, n, cap, rfl, HI.out.1, HI.out.2, hbel⟩
  · have e0 : hoI T c p o wr = [] := by unfold hoI; rw [if_neg hh]
    rw [e0]
    cases h1 : plB c p
    · clear hh
      go_enter Tryz.func178, Tryz.ntmps178
      go_wp2_with (go_at_call 64; refine (place_any c p _).mono ?_; rw [h1]; rintro e w1 ⟨rfl, hw⟩; subst w1)
      go_ret
      exact ⟨none, 0, 0, rfl, OwnI.nil _ _ _ _, rfl, Below.refl _ _⟩
    · have ho : ¬ (0 ≤ o ∧ o < 4) := fun h => hh ⟨h1, h⟩
      clear hh
      by_cases h2 : o < 0
      · clear ho
        go_enter Tryz.func178, Tryz.ntmps178
        go_wp2_with (go_at_call 64; refine (place_any c p _).mono ?_; rw [h1]; rintro e w1 ⟨rfl, hw⟩; subst w1)
        go_ret
        exact ⟨none, 0, 0, rfl, OwnI.nil _ _ _ _, rfl, Below.refl _ _⟩
      · have h3 : 4 ≤ o := by omega
        clear ho
        go_enter Tryz.func178, Tryz.ntmps178
        go_wp2_with (go_at_call 64; refine (place_any c p _).mono ?_; rw [h1]; rintro e w1 ⟨rfl, hw⟩; subst w1)
        go_ret
        exact ⟨none, 0, 0, rfl, OwnI.nil _ _ _ _, rfl, Below.refl _ _⟩

end Go.Proofs.YtpofihiojhbfgaaGreatDoor.Tab

namespace Go.Proofs.YtpofihiojhbfgaaGreatDoor.Tab
open Go.RowKit
set_option linter.unusedVariables false
set_option maxRecDepth 8000

def gOk (T : Nat → Nat) (c p a b : Int) : Bool := argB c p a b && grB T c.toNat p.toNat a.toNat b.toNat
def gT (T : Nat → Nat) (c p a b : Int) : Nat → Nat := if gOk T c p a b = true then grT T c.toNat p.toNat a.toNat b.toNat else T
def dT (T : Nat → Nat) (c p a b : Int) : Nat → Nat := if argB c p a b = true then drT T c.toNat p.toNat a.toNat b.toNat else T
theorem arg_yes {c p a b : Int} (h : argB c p a b = true) : ∃ k l x y : Nat, k < 4 ∧ l < 6 ∧ x < 16 ∧ y < 16 ∧ c = k ∧ p = l ∧ a = x ∧ b = y := by
  unfold argB at h
  simp only [Bool.and_eq_true] at h
  obtain ⟨k, l, h1, h2, e1, e2⟩ := nat_of_pl h.1.1
  obtain ⟨x, h3, e3⟩ := nat_of_ma h.1.2
  obtain ⟨y, h4, e4⟩ := nat_of_ma h.2
  exact ⟨k, l, x, y, h1, h2, h3, h4, e1, e2, e3, e4⟩

section
variable (w : World) (g : Nat) (T : Nat → Nat) (H : Tb w g T)

theorem grant_any (H : Tb w g T) (c p a b : Int) (B : Bool) (hB : gOk T c p a b = B) : Calls Tryz.prog 191 #[tp g, .int .i64 c, .int .i64 p, .int .i64 a, .int .i64 b] w fun e w' => e = .returned (.bool B) ∧ Tb w' g (gT T c p a b) ∧ Off g w w' := by
  subst hB
  cases h : argB c p a b
  · refine (grant_no g w c p a b h).mono ?_
    rintro e w' ⟨rfl, rfl⟩
    have e1 : gOk T c p a b = false := by simp [gOk, h]
    exact ⟨by rw [e1], by rw [gT, e1]; exact H, Off.refl _ _⟩
  · obtain ⟨k, l, x, y, h1, h2, h3, h4, rfl, rfl, rfl, rfl⟩ := arg_yes h
    refine (grant_in w g T H k l x y h1 h2 h3 h4).mono ?_
    rintro e w' ⟨rfl, h5, h6⟩
    have e1 : gOk T k l x y = grB T k l x y := by simp [gOk, h]
    exact ⟨by rw [e1], by rw [gT, e1]; exact h5, h6⟩

theorem drop_any (H : Tb w g T) (c p a b : Int) : Calls Tryz.prog 124 #[tp g, .int .i64 c, .int .i64 p, .int .i64 a, .int .i64 b] w fun e w' => e = .returned (.tuple #[]) ∧ Tb w' g (dT T c p a b) ∧ Off g w w' := by
  cases h : argB c p a b
  · refine (drop_no g w c p a b h).mono ?_
    rintro e w' ⟨rfl, rfl⟩
    exact ⟨rfl, by rw [dT, h]; exact H, Off.refl _ _⟩
  · obtain ⟨k, l, x, y, h1, h2, h3, h4, rfl, rfl, rfl, rfl⟩ := arg_yes h
    refine (drop_in w g T H k l x y h1 h2 h3 h4).mono ?_
    rintro e w' ⟨rfl, h5, h6⟩
    exact ⟨rfl, by rw [dT, h]; exact h5, h6⟩

theorem own_is (H : Tb w g T) (c p : Int) (n : Int) (hn : ((owI T c p : Nat) : Int) = n) : Calls Tryz.prog 34 #[tp g, .int .i64 c, .int .i64 p] w fun e w' => e = .returned (.int .i64 n) ∧ w' = w := by
  subst hn; exact own_any w g T H c p
theorem copies_is (H : Tb w g T) (c p : Int) (n : Int) (hn : ((cpI T c p : Nat) : Int) = n) : Calls Tryz.prog 158 #[tp g, .int .i64 c, .int .i64 p] w fun e w' => e = .returned (.int .i64 n) ∧ w' = w := by
  subst hn; exact copies_any w g T H c p
end

end Go.Proofs.YtpofihiojhbfgaaGreatDoor.Tab
