/- What the functions of package crc do, walked: the sum of one byte more. What the functions of package crc do, walked: a copy, a mask's length, the sum of some parts. Facts on slices of bytes, on what of memory is kept, and on a drive in memory. No walk. What an append leaves: which block it may have written, and where its result begins. -/
import Derived.Test.YtemldmjpanmdbaaGreatDoorA2
import Derived.Test.YtemldmjpanmdbaaGreatDoorSl
import Derived.Test.YtemldmjpanmdbaaGreatDoorCm
import Derived.WalkKit
import Derived.ScopeJumps
import Derived.Laws.MathBits
import Derived.Laws.Rows
import Derived.Lib.SlBytesConst
import Derived.Deep.RegionHeldLaw
namespace Go.Proofs.YtemldmjpanmdbaaGreatDoor
open Go.RowKit
set_option linter.unusedVariables false

theorem and1 (x : Nat) (h : x < 65536) : bits .and .u16 (x : Int) 1 = ((x % 2 : Nat) : Int) := by
  have := u16_and_nat x 1 h (by decide)
  rw [Nat.and_one_is_mod] at this
  exact this

theorem step_odd {x : Nat} (h : x < 65536) (ho : (bits .and .u16 (x : Int) 1 == 1) = true) : bits .xor .u16 ((x : Int) / 2) 33800 = ((U x : Nat) : Int) := by
  rw [and1 x h] at ho
  have ho2 : x % 2 = 1 := by simp at ho; omega
  have := u16_xor_nat (x / 2) 33800 (by omega) (by decide)
  unfold U
  rw [if_pos ho2]
  exact this

theorem step_even {x : Nat} (h : x < 65536) (ho : (bits .and .u16 (x : Int) 1 == 1) = false) : (x : Int) / 2 = ((U x : Nat) : Int) := by
  rw [and1 x h] at ho
  have ho2 : ¬ x % 2 = 1 := by simp at ho; omega
  unfold U
  rw [if_neg ho2]
  rfl

set_option maxRecDepth 1000000 in
theorem addByte_any (s b : Nat) (hs : s < 65536) (hb : b < 256) (w : World) :
    Calls Tryz.prog 233 #[.int .u16 (s : Int), .int .u8 (b : Int)] w fun e w' => e = .returned (.int .u16 (adB s b : Nat)) ∧ w' = w := by
  have hx := u16_xor_nat s b hs (by omega)
  have hlt : s ^^^ b < 65536 := xor16 hs (by omega)
  go_enter Tryz.func233, Tryz.ntmps233
  go_wp2
  refine wp_scope_jumps 0 (fun a' w' => w' = w ∧ ∃ (j : Nat) (u1 u2 u3 u4 u6 u7 u8 u9 u10 u11 u12 u13 u14 u15 u16 u17 u18 u19 u20 u21 u22 u23 : Value), 1 ≤ j ∧ j ≤ 7 ∧ a' = { tmps := #[.int .u16 (Un (8 - j) (s ^^^ b) : Nat), u1, u2, u3, u4, .int .i64 (j : Int), u6, u7, u8, u9, u10, u11, u12, u13, u14, u15, u16, u17, u18, u19, u20, u21, u22, u23], defers := [] }) (fun a' _ => (intOf (a'.tmps.getD 5 undef)).toNat) rfl ?_ ?_
  · go_wp2
    go_step3
    go_wp2
    · rename_i ho _ _
      rw [step_odd hlt ho]
      go_step3
      exact ⟨rfl, rfl, 7, _, _, _, _, _, _, _, _, _, _, _, _, _, _, _, _, _, _, _, _, _, _, by omega, by omega, rfl⟩
    · rename_i ho _ _
      rw [step_even hlt ho]
      go_step3
      exact ⟨rfl, rfl, 7, _, _, _, _, _, _, _, _, _, _, _, _, _, _, _, _, _, _, _, _, _, _, by omega, by omega, rfl⟩
  · rintro a' w' ⟨rfl, j, u1, u2, u3, u4, u6, u7, u8, u9, u10, u11, u12, u13, u14, u15, u16, u17, u18, u19, u20, u21, u22, u23, h1, h7, rfl⟩
    have hy : Un (8 - j) (s ^^^ b) < 65536 := Un_lt _ hlt
    have hU : U (Un (8 - j) (s ^^^ b)) = Un (8 - j + 1) (s ^^^ b) := (Un_succ _ _).symm
    have hj : 8 - j + 1 = 8 - (j - 1) := by omega
    by_cases hj1 : j = 1
    · subst hj1
      go_wp2
      · rename_i ho
        simp only [Exit.jump]
        go_ret
        rw [step_odd hy ho, hU]
        exact ⟨rfl, rfl⟩
      · rename_i ho
        simp only [Exit.jump]
        go_ret
        rw [step_even hy ho, hU]
        exact ⟨rfl, rfl⟩
    · have hj2 : (0 : Int) < (j : Int) - 1 := by omega
      have hj3 : (j : Int) - 1 = ((j - 1 : Nat) : Int) := by omega
      go_wp2
      · have ho : (bits .and .u16 ((Un (8 - j) (s ^^^ b) : Nat) : Int) 1 == 1) = true := by assumption
        rw [step_odd hy ho, hU, hj]
        go_step3
        refine ⟨rfl, ⟨rfl, j - 1, ⟨_, _, _, _, _, _, _, _, _, _, _, _, _, _, _, _, _, _, _, _, _, _, by omega, by omega, rfl⟩⟩, ?_⟩
        simp [intOf]; omega
      · have ho : (bits .and .u16 ((Un (8 - j) (s ^^^ b) : Nat) : Int) 1 == 1) = false := by assumption
        rw [step_even hy ho, hU, hj]
        go_step3
        refine ⟨rfl, ⟨rfl, j - 1, ⟨_, _, _, _, _, _, _, _, _, _, _, _, _, _, _, _, _, _, _, _, _, _, by omega, by omega, rfl⟩⟩, ?_⟩
        simp [intOf]; omega
end Go.Proofs.YtemldmjpanmdbaaGreatDoor

namespace Go.Proofs.YtemldmjpanmdbaaGreatDoor
open Go.RowKit
set_option linter.unusedVariables false

/-- Bytes as integers. -/
def ci (bs : List Nat) : List Int := bs.map (fun b : Nat => (b : Int))

theorem ci_length (bs : List Nat) : (ci bs).length = bs.length := by simp [ci]
theorem ci_append (xs ys : List Nat) : ci (xs ++ ys) = ci xs ++ ci ys := by simp [ci]
theorem ci_take (bs : List Nat) (k : Nat) : (ci bs).take k = ci (bs.take k) := by simp [ci]
theorem ci_get (bs : List Nat) (t : Nat) (h : t < (ci bs).length) : (ci bs)[t] = ((bs[t]'(by simpa [ci] using h) : Nat) : Int) := by simp [ci]
theorem ci_set (bs : List Nat) (t x : Nat) : (ci bs).set t (x : Int) = ci (bs.set t x) := by simp [ci, List.map_set]

/-- The slice reads as these bytes. -/
structure Rd8 (w : World) (ao : Option Addr) (n cap : Nat) (bs : List Nat) : Prop where
  rd : RdI w .u8 ao cap (ci bs)
  len : bs.length = n
  byte : ∀ b ∈ bs, b < 256

/-- The slice is the call's own and holds these bytes. -/
structure Own8 (w : World) (base : Nat) (ao : Option Addr) (n cap : Nat) (bs : List Nat) : Prop where
  own : OwnI w base 5 .u8 ao cap (ci bs)
  len : bs.length = n
  byte : ∀ b ∈ bs, b < 256

section
variable {w w' : World} {ao : Option Addr} {n cap base : Nat} {bs : List Nat}
theorem Rd8.below (h : Rd8 w ao n cap bs) (hb : Below w.heap.size w w') : Rd8 w' ao n cap bs := ⟨h.rd.below hb, h.len, h.byte⟩
theorem Rd8.alloc (h : Rd8 w ao n cap bs) (o : Obj) : Rd8 (w.alloc o) ao n cap bs := ⟨h.rd.alloc o, h.len, h.byte⟩
theorem Rd8.heap (h : Rd8 w ao n cap bs) (e : w'.heap = w.heap) : Rd8 w' ao n cap bs := ⟨h.rd.heap e, h.len, h.byte⟩
theorem Own8.rd (h : Own8 w base ao n cap bs) : Rd8 w ao n cap bs := ⟨h.own.rd, h.len, h.byte⟩
theorem Own8.below (h : Own8 w base ao n cap bs) (hb : Below w.heap.size w w') : Own8 w' base ao n cap bs := ⟨h.own.below hb, h.len, h.byte⟩
theorem Rd8.empty (w : World) : Rd8 w none 0 0 [] := ⟨RdI.empty w .u8, rfl, by simp⟩
theorem Rd8.str (h : Rd8 w ao n cap bs) : (convert 29 9 (.slice ao n cap)).run Tryz.prog w = .ok (.string (strOfNums (ci bs))) w :=
  run_string_rd (P := Tryz.prog) 29 9 5 Tryz.underlying29 Tryz.underlying5 Tryz.underlying9 h.rd (by rw [ci_length]; exact h.len)
theorem Rd8.head (h : Rd8 w ao n cap bs) (j : Nat) (hj : j ≤ n) : Rd8 w ao j cap (bs.take j) :=
  ⟨by have := h.rd.head j (by rw [ci_length, h.len]; exact hj); rwa [ci_take] at this, by have := h.len; simp; omega, fun b hb => h.byte b (List.mem_of_mem_take hb)⟩
theorem Rd8.built (w : World) (xs : Array Value) (n : Nat) (bs : List Nat) (hx : xs.toList = (ci bs).map (Value.int .u8)) (hn : bs.length = n) (hb : ∀ b ∈ bs, b < 256) (hm : n ≤ maxLen) : Rd8 (w.alloc (.cells xs 5)) (some ⟨w.heap.size, 0, none⟩) n n bs :=
  ⟨RdI.built w 5 .u8 xs n (ci bs) hx (by rw [ci_length]; exact hn) hm, hn, hb⟩
theorem Rd8.at (h : Rd8 w ao n cap bs) {t : Nat} (ht : t < n) : ∃ b off, ao = some ⟨b, off, none⟩ ∧ ∃ h2 : t < bs.length, w.cell? ⟨b, off + t, none⟩ = some (.int .u8 ((bs[t] : Nat) : Int)) := by
  have hl := h.len
  obtain ⟨b, off, e, _, hc⟩ := h.rd.at (t := t) (by rw [ci_length]; omega)
  refine ⟨b, off, e, by omega, ?_⟩
  rw [hc t (by rw [ci_length]; omega), ci_get]
end

set_option maxHeartbeats 400000 in
theorem copied_any (ao : Option Addr) (n cap : Nat) (bs : List Nat) (w : World) (h : Rd8 w ao n cap bs) (hn : n ≤ 140737488355328) :
    Calls Tryz.prog 165 #[.slice ao n cap] w fun e w' => ∃ ao' cap', e = .returned (.slice ao' n cap') ∧ Own8 w' w.heap.size ao' n cap' bs ∧ Below w.heap.size w w' := by
  have hl := h.len
  go_enter Tryz.func165, Tryz.ntmps165
  go_wp2_with (at_builtin; refine wpList_append_rdI _ rfl _ _ 29 rfl w.heap.size 5 .u8 (.int .u8 0) 1 Tryz.underlying29 info5 rfl rfl rfl (OwnI.nil _ _ _ _) h.rd rfl (by rw [ci_length]; omega) (by omega) (by unfold maxLen; omega) (Nat.le_refl _) ?_; intro ao2 cap2 w1 ho1 hb1)
  go_ret
  exact ⟨_, _, rfl, ⟨ho1, hl, h.byte⟩, hb1⟩

/-- A part, as a value. -/
structure Pt where
  ao : Option Addr
  n : Nat
  cap : Nat
  bs : List Nat

def Pt.val (p : Pt) : Value := .slice p.ao p.n p.cap

theorem flat_snoc (ps : List Pt) (k : Nat) (h : k < ps.length) : (ps.take (k + 1)).flatMap Pt.bs = (ps.take k).flatMap Pt.bs ++ ps[k].bs := by
  rw [List.take_succ_eq_append_getElem h, List.flatMap_append]; simp

theorem crcL_snoc (s : Nat) (bs : List Nat) (t : Nat) (h : t < bs.length) : crcL s (bs.take (t + 1)) = adB (crcL s (bs.take t)) bs[t] := by
  rw [List.take_succ_eq_append_getElem h, crcL_append]; rfl

set_option maxHeartbeats 800000 in
theorem crcOf_any (ao : Option Addr) (cap m : Nat) (ps : List Pt) (w : World) (hrd : RdS w ao cap (ps.map Pt.val)) (hm : ps.length = m) (hp : ∀ p ∈ ps, Rd8 w p.ao p.n p.cap p.bs) :
    Calls Tryz.prog 202 #[.slice ao m cap] w fun e w' => e = .returned (.int .u16 (ofN (ps.flatMap Pt.bs) : Nat)) ∧ w' = w := by
  have hle := hrd.le
  have hmx := hrd.mx
  simp only [List.length_map, maxLen] at hle hmx
  have HP : Hid (∀ p ∈ ps, Rd8 w p.ao p.n p.cap p.bs) := hp
  clear hp
  go_enter Tryz.func202, Tryz.ntmps202
  go_wp2
  go_loop [3, 10] (fun s i => ∃ k : Nat, k ≤ m ∧ i = .int .i64 k ∧ s = .int .u16 (crcL 65535 ((ps.take k).flatMap Pt.bs) : Nat)) (fun _ i => m - (intOf i).toNat)
  case atStart => exact ⟨0, Nat.zero_le _, rfl, rfl⟩
  case round =>
    obtain ⟨k, hk, rfl, rfl⟩ := hrel
    have hby : ∀ j, ∀ x ∈ (ps.take j).flatMap Pt.bs, x < 256 := by
      intro j x hx
      obtain ⟨p, hp, hx⟩ := List.mem_flatMap.1 hx
      exact (HP.out p (List.mem_of_mem_take hp)).byte x hx
    by_cases hlt : k < m
    · have hk2 : k < ps.length := by omega
      obtain ⟨b, off, rfl, _, hc⟩ := hrd.at (t := k) (by simpa using hk2)
      have hc1 : w.cell? ⟨b, off + k, none⟩ = some (.slice ps[k].ao ps[k].n ps[k].cap) := by rw [hc k (by simpa using hk2)]; simp [Pt.val]
      have h8 := HP.out ps[k] (List.getElem_mem _)
      have hS := crcL_lt ((ps.take k).flatMap Pt.bs) (s := 65535) (by omega) (hby k)
      have hfl : (ps.take (k + 1)).flatMap Pt.bs = (ps.take k).flatMap Pt.bs ++ ps[k].bs := flat_snoc ps k hk2
      have HF : Hid ((ps.take (k + 1)).flatMap Pt.bs = (ps.take k).flatMap Pt.bs ++ ps[k].bs) := hfl
      clear hfl hby hc
      generalize hpe : ps[k] = p at *
      clear hpe
      have hle8 := h8.rd.le
      have hmx8 := h8.rd.mx
      rw [ci_length, h8.len] at hle8
      unfold maxLen at hmx8
      generalize hS0 : crcL 65535 ((ps.take k).flatMap Pt.bs) = S at *
      have HS : Hid (crcL 65535 ((ps.take k).flatMap Pt.bs) = S) := hS0
      clear hS0
      go_wp2
      go_loop [3, 16] (fun s i => ∃ t : Nat, t ≤ p.n ∧ i = .int .i64 t ∧ s = .int .u16 (crcL S (p.bs.take t) : Nat)) (fun _ i => p.n - (intOf i).toNat)
      case atStart => exact ⟨0, Nat.zero_le _, rfl, rfl⟩
      case round =>
        obtain ⟨t, ht, rfl, rfl⟩ := hrel
        by_cases hlt2 : t < p.n
        · obtain ⟨b2, off2, e2, ht2, hc2⟩ := h8.at hlt2
          rw [e2]
          have hx8 := h8.byte p.bs[t] (List.getElem_mem _)
          have hS2 := crcL_lt (p.bs.take t) hS (fun x hx => h8.byte x (List.mem_of_mem_take hx))
          have hsn := crcL_snoc S p.bs t ht2
          go_wp2_with (go_at_call 233; refine (addByte_any _ _ hS2 hx8 _).mono ?_; rintro e w' ⟨rfl, hw⟩; subst w')
          go_round
          case rel => exact ⟨t + 1, by omega, by go_num, by rw [hsn]⟩
          case measure => simp [intOf]; omega
        · go_wp2
          go_round
          case rel => exact ⟨k + 1, by omega, by go_num, by rw [HF.out, crcL_append, HS.out, List.take_of_length_le (by rw [h8.len]; omega)]⟩
          case measure => simp [intOf]; omega
    · have e : ps.take k = ps := List.take_of_length_le (by omega)
      have hx : bits .xor .u16 IntKind.u16.max ((crcL 65535 (ps.flatMap Pt.bs) : Nat) : Int) = ((ofN (ps.flatMap Pt.bs) : Nat) : Int) :=
        u16_xor_nat 65535 _ (by decide) (crcL_lt _ (by omega) (by have := hby k; rwa [e] at this))
      go_wp2
      go_ret
      exact ⟨rfl, rfl⟩

theorem of_one (ao : Option Addr) (n cap : Nat) (bs : List Nat) (w : World) (h : Rd8 w ao n cap bs) (e : TypeId) :
    Calls Tryz.prog 202 #[.slice (some ⟨w.heap.size, 0, none⟩) 1 1] (w.alloc (.cells #[.slice ao n cap] e)) fun r w' => r = .returned (.int .u16 (ofN bs : Nat)) ∧ w' = w.alloc (.cells #[.slice ao n cap] e) := by
  have := crcOf_any (some ⟨w.heap.size, 0, none⟩) 1 1 [⟨ao, n, cap, bs⟩] (w.alloc (.cells #[.slice ao n cap] e)) (RdS.one w e _) rfl (by intro p hp; simp at hp; subst hp; exact h.alloc _)
  simpa using this

end Go.Proofs.YtemldmjpanmdbaaGreatDoor

namespace Go.Proofs.YtemldmjpanmdbaaGreatDoor
open Go.RowKit
set_option linter.unusedVariables false

/-- The bytes of a constant string. -/
theorem Rd8.marked (w : World) (xs : Array Value) (n : Nat) (fr : Nat × Nat) (bs : List Nat) (hx : xs.toList = (ci bs).map (Value.int .u8)) (hn : bs.length = n) (hb : ∀ b ∈ bs, b < 256) (hm : n ≤ maxLen) : Rd8 (w.alloc (.cells xs 5 fr)) (some ⟨w.heap.size, 0, none⟩) n n bs := by
  refine ⟨⟨by simp [ci_length]; omega, hm, fun h => (by cases h), fun _ => ⟨w.heap.size, 0, rfl, by simp, fun t ht => ?_⟩⟩, hn, hb⟩
  have hh : (w.alloc (.cells xs 5 fr)).heap[w.heap.size]? = some (.cells xs 5 fr) := heap_alloc_new w _
  simp only [World.cell?, hh]
  have e1 : xs = ((ci bs).map (Value.int .u8)).toArray := by rw [← hx]
  subst e1
  simp only [List.length_map] at ht
  simp [ht]

/-! ### What is kept -/

/-- All blocks but g are as they were. -/
structure Off (g : Nat) (w w' : World) : Prop where
  os : w'.os = w.os
  tape : w'.tape = w.tape
  output : w'.output = w.output
  size : w.heap.size ≤ w'.heap.size
  block : ∀ k, k < w.heap.size → k ≠ g → w'.heap[k]? = w.heap[k]?

theorem Off.refl (g : Nat) (w : World) : Off g w w := ⟨rfl, rfl, rfl, Nat.le_refl _, fun _ _ _ => rfl⟩
theorem Off.trans {g : Nat} {a b c : World} (h : Off g a b) (k : Off g b c) : Off g a c :=
  ⟨k.os.trans h.os, k.tape.trans h.tape, k.output.trans h.output, Nat.le_trans h.size k.size, fun i hi hne => (k.block i (Nat.lt_of_lt_of_le hi h.size) hne).trans (h.block i hi hne)⟩
theorem Off.of_below {g : Nat} {a b : World} (h : Below a.heap.size a b) : Off g a b := ⟨h.os, h.tape, h.output, h.size, fun i hi _ => h.block i hi⟩
theorem Off.setCell {g : Nat} {a w : World} (h : Off g a w) {p : Addr} (hp : p.block = g) (u : Value) : Off g a (w.setCell p u) :=
  h.trans ⟨rfl, rfl, rfl, by simp [World.setCell], fun k _ hne => Below.heap_setCell _ _ _ _ (by omega)⟩
/-- Below the block nothing has turned. -/
theorem Off.below {g B : Nat} {a b : World} (h : Off g a b) (hB : B ≤ g) (hs : B ≤ a.heap.size) : Below B a b := ⟨h.os, h.tape, h.output, h.size, fun k hk => h.block k (by omega) (by omega)⟩
theorem below_off {g B : Nat} {a b c : World} (h : Below B a b) (k : Off g b c) (hB : B ≤ g) (hs : B ≤ b.heap.size) : Below B a c := h.trans (k.below hB hs)

/-- The blocks of a set are as they were. -/
structure Kept (V : Nat → Prop) (w w' : World) : Prop where
  size : w.heap.size ≤ w'.heap.size
  block : ∀ k, k < w.heap.size → V k → w'.heap[k]? = w.heap[k]?

theorem Kept.of_below {V : Nat → Prop} {a b : World} (h : Below a.heap.size a b) : Kept V a b := ⟨h.size, fun i hi _ => h.block i hi⟩
theorem Kept.of_off {V : Nat → Prop} {g : Nat} {a b : World} (h : Off g a b) (hv : ∀ k, V k → k ≠ g) : Kept V a b := ⟨h.size, fun i hi h2 => h.block i hi (hv i h2)⟩
theorem Kept.setCell {V : Nat → Prop} (w : World) (p : Addr) (u : Value) (hv : ¬ V p.block) : Kept V w (w.setCell p u) :=
  ⟨by simp [World.setCell], fun k _ hk => Below.heap_setCell _ _ _ _ (by intro e; subst e; exact hv hk)⟩
theorem Kept.refl {V : Nat → Prop} (w : World) : Kept V w w := ⟨Nat.le_refl _, fun _ _ _ => rfl⟩
theorem Kept.trans {V : Nat → Prop} {a b c : World} (h : Kept V a b) (k : Kept V b c) : Kept V a c :=
  ⟨Nat.le_trans h.size k.size, fun i hi hv => (k.block i (Nat.lt_of_lt_of_le hi h.size) hv).trans (h.block i hi hv)⟩
theorem Kept.mono {V U : Nat → Prop} {a b : World} (h : Kept V a b) (hv : ∀ k, U k → V k) : Kept U a b := ⟨h.size, fun i hi k => h.block i hi (hv i k)⟩

/-- The slice lies in a block of the set. -/
def In (w : World) (V : Nat → Prop) (ao : Option Addr) : Prop := ∀ a, ao = some a → V a.block ∧ a.block < w.heap.size

theorem In.none (w : World) (V : Nat → Prop) : In w V Option.none := fun a h => by cases h
theorem In.mono {w w' : World} {V U : Nat → Prop} {ao : Option Addr} (h : In w V ao) (hs : w.heap.size ≤ w'.heap.size) (hv : ∀ k, k < w.heap.size → V k → U k) : In w' U ao :=
  fun a e => ⟨hv _ (h a e).2 (h a e).1, Nat.lt_of_lt_of_le (h a e).2 hs⟩

theorem RdS.kept {w w' : World} {V : Nat → Prop} {ao : Option Addr} {cap : Nat} {xs : List Value} (h : RdS w ao cap xs) (hi : In w V ao) (hk : Kept V w w') : RdS w' ao cap xs := by
  refine ⟨h.le, h.mx, h.nil, fun hx => ?_⟩
  obtain ⟨b, off, e, hlt, hc⟩ := h.cell hx
  obtain ⟨hv, hl⟩ := hi _ e
  exact ⟨b, off, e, Nat.lt_of_lt_of_le hlt hk.size, fun t ht => (World.cell?_of_block (w := w) (hk.block b hl hv)).trans (hc t ht)⟩

theorem Rd8.kept {w w' : World} {V : Nat → Prop} {ao : Option Addr} {n cap : Nat} {bs : List Nat} (h : Rd8 w ao n cap bs) (hi : In w V ao) (hk : Kept V w w') : Rd8 w' ao n cap bs := ⟨RdS.kept h.rd hi hk, h.len, h.byte⟩

theorem OwnS.inn {w : World} {base : Nat} {e : TypeId} {ao : Option Addr} {cap : Nat} {xs : List Value} (h : OwnS w base e ao cap xs) : In w (fun k => base ≤ k) ao := by
  intro a ha
  obtain ⟨_, h2⟩ := h
  rcases h2 with ⟨hv, _⟩ | ⟨g, cp, cur, hv, hg, hh, _⟩
  · simp only [Value.slice.injEq] at hv; rw [hv.1] at ha; cases ha
  · simp only [Value.slice.injEq] at hv
    rw [hv.1] at ha
    cases ha
    exact ⟨hg, (Array.getElem?_eq_some_iff.1 hh).1⟩

theorem Own8.inn {w : World} {base : Nat} {ao : Option Addr} {n cap : Nat} {bs : List Nat} (h : Own8 w base ao n cap bs) : In w (fun k => base ≤ k) ao := OwnS.inn h.own

/-! ### A drive -/

structure Sec where
  b : List Nat
  s : List Nat
  l : Bool

def Sec.settle (x : Sec) : Sec := ⟨x.b, x.b, false⟩
def Sec.revert (x : Sec) : Sec := ⟨x.s, x.s, false⟩
def Sec.wrote (x : Sec) (bs : List Nat) : Sec := ⟨bs, x.s, true⟩
abbrev Sec.e : Sec := ⟨[], [], false⟩

/-- A drive lies at block g (its sectors) and at the next one (what is pointed to); its sectors' bytes lie in blocks of the set. -/
structure Drv (w : World) (g : Nat) (V : Nat → Prop) (L : List Sec) : Prop where
  le : L.length ≤ 6
  pc : w.cell? ⟨g + 1, 0, none⟩ = some (.slice (some ⟨g, 0, none⟩) L.length L.length)
  lt : g + 1 < w.heap.size
  fz : ∀ j, w.frozen? ⟨g, j, none⟩ = false
  vg : ¬ V g
  cb : ∀ i (h : i < L.length), ∃ ao n cap, w.cell? ⟨g, i * 3, none⟩ = some (.slice ao n cap) ∧ Rd8 w ao n cap L[i].b ∧ In w V ao ∧ n ≤ 100
  cs : ∀ i (h : i < L.length), ∃ ao n cap, w.cell? ⟨g, i * 3 + 1, none⟩ = some (.slice ao n cap) ∧ Rd8 w ao n cap L[i].s ∧ In w V ao ∧ n ≤ 100
  cl : ∀ i (h : i < L.length), w.cell? ⟨g, i * 3 + 2, none⟩ = some (.bool L[i].l)

theorem Drv.kept {w w' : World} {g : Nat} {V : Nat → Prop} {L : List Sec} (h : Drv w g V L) (hk : Kept (fun k => V k ∨ k = g ∨ k = g + 1) w w') : Drv w' g V L := by
  have hlt := h.lt
  have hg : w'.heap[g]? = w.heap[g]? := hk.block g (by omega) (.inr (.inl rfl))
  have hg1 : w'.heap[g + 1]? = w.heap[g + 1]? := hk.block (g + 1) hlt (.inr (.inr rfl))
  have hV : Kept V w w' := hk.mono fun k hk => .inl hk
  refine ⟨h.le, (World.cell?_of_block (w := w) hg1).trans h.pc, Nat.lt_of_lt_of_le hlt hk.size, fun j => (World.frozen?_of_block (w := w) hg).trans (h.fz j), h.vg, fun i hi => ?_, fun i hi => ?_, fun i hi => (World.cell?_of_block (w := w) hg).trans (h.cl i hi)⟩
  · obtain ⟨ao, n, cap, h1, h2, h3, h4⟩ := h.cb i hi
    exact ⟨ao, n, cap, (World.cell?_of_block (w := w) hg).trans h1, h2.kept h3 hV, h3.mono hk.size fun _ _ h => h, h4⟩
  · obtain ⟨ao, n, cap, h1, h2, h3, h4⟩ := h.cs i hi
    exact ⟨ao, n, cap, (World.cell?_of_block (w := w) hg).trans h1, h2.kept h3 hV, h3.mono hk.size fun _ _ h => h, h4⟩

theorem Drv.below {w w' : World} {g : Nat} {V : Nat → Prop} {L : List Sec} (h : Drv w g V L) (hb : Below w.heap.size w w') : Drv w' g V L := h.kept (Kept.of_below hb)

theorem Drv.mono {w : World} {g : Nat} {V U : Nat → Prop} {L : List Sec} (h : Drv w g V L) (hv : ∀ k, k < w.heap.size → V k → U k) (hg : ¬ U g) : Drv w g U L :=
  ⟨h.le, h.pc, h.lt, h.fz, hg, fun i hi => by obtain ⟨ao, n, cap, h1, h2, h3, h4⟩ := h.cb i hi; exact ⟨ao, n, cap, h1, h2, h3.mono (Nat.le_refl _) hv, h4⟩,
    fun i hi => by obtain ⟨ao, n, cap, h1, h2, h3, h4⟩ := h.cs i hi; exact ⟨ao, n, cap, h1, h2, h3.mono (Nat.le_refl _) hv, h4⟩, h.cl⟩

/-- The sectors' bytes lie in what is there. -/
theorem Drv.tight {w : World} {g : Nat} {V : Nat → Prop} {L : List Sec} (h : Drv w g V L) : Drv w g (fun k => V k ∧ k < w.heap.size) L := h.mono (fun k hk hv => ⟨hv, hk⟩) fun hx => h.vg hx.1

section
variable {w : World} {g : Nat} {V : Nat → Prop} {L : List Sec}

theorem put_other (w : World) (g i j : Nat) (u : Value) (hne : j ≠ i) : (w.setCell ⟨g, i, none⟩ u).cell? ⟨g, j, none⟩ = w.cell? ⟨g, j, none⟩ :=
  World.cell?_setCell_other _ _ _ _ (by intro e; simp only [Addr.mk.injEq] at e; omega)

theorem Drv.kept1 (h : Drv w g V L) (i : Nat) (u : Value) : Kept V w (w.setCell ⟨g, i, none⟩ u) := Kept.setCell _ _ _ h.vg

/-- A sector's bytes and whether it is loose are set. -/
theorem Drv.putB (h : Drv w g V L) (i : Nat) (hi : i < L.length) {ao : Option Addr} {n cap : Nat} {bs : List Nat} (hr : Rd8 w ao n cap bs) (hin : In w V ao) (hn : n ≤ 100) (b : Bool) :
    Drv ((w.setCell ⟨g, i * 3, none⟩ (.slice ao n cap)).setCell ⟨g, i * 3 + 2, none⟩ (.bool b)) g V (L.set i ⟨bs, L[i].s, b⟩) := by
  have hk : Kept V w ((w.setCell ⟨g, i * 3, none⟩ (.slice ao n cap)).setCell ⟨g, i * 3 + 2, none⟩ (.bool b)) := (h.kept1 _ _).trans (Kept.setCell _ _ _ h.vg)
  obtain ⟨a0, n0, c0, h0, _⟩ := h.cb i hi
  have h2 := h.cl i hi
  have hp1 : (w.setCell ⟨g, i * 3, none⟩ (.slice ao n cap)).cell? ⟨g + 1, 0, none⟩ = w.cell? ⟨g + 1, 0, none⟩ := World.cell?_of_block (w := w) (Below.heap_setCell _ _ _ _ (by simp))
  have hp2 : ((w.setCell ⟨g, i * 3, none⟩ (.slice ao n cap)).setCell ⟨g, i * 3 + 2, none⟩ (.bool b)).cell? ⟨g + 1, 0, none⟩ = (w.setCell ⟨g, i * 3, none⟩ (.slice ao n cap)).cell? ⟨g + 1, 0, none⟩ := World.cell?_of_block (w := w.setCell ⟨g, i * 3, none⟩ (.slice ao n cap)) (Below.heap_setCell _ _ _ _ (by simp))
  refine ⟨by simpa using h.le, by rw [hp2, hp1, h.pc]; simp, by simpa [World.setCell] using h.lt, fun j => by rw [World.frozen?_setCell, World.frozen?_setCell]; exact h.fz j, h.vg, fun j hj => ?_, fun j hj => ?_, fun j hj => ?_⟩
  · have hj' : j < L.length := by simpa using hj
    rw [put_other _ _ _ _ _ (by omega)]
    by_cases e : j = i
    · subst e
      refine ⟨ao, n, cap, World.cell?_setCell_same _ _ _ h0, ?_, hin.mono hk.size fun _ _ h => h, hn⟩
      simpa using hr.kept hin hk
    · rw [put_other _ _ _ _ _ (by omega)]
      obtain ⟨a1, n1, c1, r1, r2, r3, r4⟩ := h.cb j hj'
      refine ⟨a1, n1, c1, r1, ?_, r3.mono hk.size fun _ _ h => h, r4⟩
      rw [List.getElem_set_ne (fun h => e h.symm)]
      exact r2.kept r3 hk
  · have hj' : j < L.length := by simpa using hj
    rw [put_other _ _ _ _ _ (by omega), put_other _ _ _ _ _ (by omega)]
    obtain ⟨a1, n1, c1, r1, r2, r3, r4⟩ := h.cs j hj'
    refine ⟨a1, n1, c1, r1, ?_, r3.mono hk.size fun _ _ h => h, r4⟩
    by_cases e : j = i
    · subst e; simpa using r2.kept r3 hk
    · rw [List.getElem_set_ne (fun h => e h.symm)]; exact r2.kept r3 hk
  · have hj' : j < L.length := by simpa using hj
    by_cases e : j = i
    · subst e
      rw [World.cell?_setCell_same _ _ _ (show _ = some (Value.bool L[j].l) by rw [put_other _ _ _ _ _ (by omega)]; exact h2)]
      simp
    · rw [put_other _ _ _ _ _ (by omega), put_other _ _ _ _ _ (by omega), List.getElem_set_ne (fun h => e h.symm)]
      exact h.cl j hj'

/-- A sector's stable bytes and whether it is loose are set. -/
theorem Drv.putS (h : Drv w g V L) (i : Nat) (hi : i < L.length) {ao : Option Addr} {n cap : Nat} {bs : List Nat} (hr : Rd8 w ao n cap bs) (hin : In w V ao) (hn : n ≤ 100) (b : Bool) :
    Drv ((w.setCell ⟨g, i * 3 + 1, none⟩ (.slice ao n cap)).setCell ⟨g, i * 3 + 2, none⟩ (.bool b)) g V (L.set i ⟨L[i].b, bs, b⟩) := by
  have hk : Kept V w ((w.setCell ⟨g, i * 3 + 1, none⟩ (.slice ao n cap)).setCell ⟨g, i * 3 + 2, none⟩ (.bool b)) := (h.kept1 _ _).trans (Kept.setCell _ _ _ h.vg)
  obtain ⟨a0, n0, c0, h0, _⟩ := h.cs i hi
  have h2 := h.cl i hi
  have hp1 : (w.setCell ⟨g, i * 3 + 1, none⟩ (.slice ao n cap)).cell? ⟨g + 1, 0, none⟩ = w.cell? ⟨g + 1, 0, none⟩ := World.cell?_of_block (w := w) (Below.heap_setCell _ _ _ _ (by simp))
  have hp2 : ((w.setCell ⟨g, i * 3 + 1, none⟩ (.slice ao n cap)).setCell ⟨g, i * 3 + 2, none⟩ (.bool b)).cell? ⟨g + 1, 0, none⟩ = (w.setCell ⟨g, i * 3 + 1, none⟩ (.slice ao n cap)).cell? ⟨g + 1, 0, none⟩ := World.cell?_of_block (w := w.setCell ⟨g, i * 3 + 1, none⟩ (.slice ao n cap)) (Below.heap_setCell _ _ _ _ (by simp))
  refine ⟨by simpa using h.le, by rw [hp2, hp1, h.pc]; simp, by simpa [World.setCell] using h.lt, fun j => by rw [World.frozen?_setCell, World.frozen?_setCell]; exact h.fz j, h.vg, fun j hj => ?_, fun j hj => ?_, fun j hj => ?_⟩
  · have hj' : j < L.length := by simpa using hj
    rw [put_other _ _ _ _ _ (by omega), put_other _ _ _ _ _ (by omega)]
    obtain ⟨a1, n1, c1, r1, r2, r3, r4⟩ := h.cb j hj'
    refine ⟨a1, n1, c1, r1, ?_, r3.mono hk.size fun _ _ h => h, r4⟩
    by_cases e : j = i
    · subst e; simpa using r2.kept r3 hk
    · rw [List.getElem_set_ne (fun h => e h.symm)]; exact r2.kept r3 hk
  · have hj' : j < L.length := by simpa using hj
    rw [put_other _ _ _ _ _ (by omega)]
    by_cases e : j = i
    · subst e
      refine ⟨ao, n, cap, World.cell?_setCell_same _ _ _ h0, ?_, hin.mono hk.size fun _ _ h => h, hn⟩
      simpa using hr.kept hin hk
    · rw [put_other _ _ _ _ _ (by omega)]
      obtain ⟨a1, n1, c1, r1, r2, r3, r4⟩ := h.cs j hj'
      refine ⟨a1, n1, c1, r1, ?_, r3.mono hk.size fun _ _ h => h, r4⟩
      rw [List.getElem_set_ne (fun h => e h.symm)]
      exact r2.kept r3 hk
  · have hj' : j < L.length := by simpa using hj
    by_cases e : j = i
    · subst e
      rw [World.cell?_setCell_same _ _ _ (show _ = some (Value.bool L[j].l) by rw [put_other _ _ _ _ _ (by omega)]; exact h2)]
      simp
    · rw [put_other _ _ _ _ _ (by omega), put_other _ _ _ _ _ (by omega), List.getElem_set_ne (fun h => e h.symm)]
      exact h.cl j hj'
end

end Go.Proofs.YtemldmjpanmdbaaGreatDoor

namespace Go.Proofs.YtemldmjpanmdbaaGreatDoor
open Go.RowKit
set_option linter.unusedVariables false

/-- What an append to a slice of the call's own leaves; which block alone it may have written. -/
theorem run_append_g {P : Program} {w : World} (base : Nat) (t ty e : TypeId) (z : Value) (bytes : Nat) (ht : P.underlying t = some (.slice e))
    (hinfo : (P.info? e).map (fun i => (i.zero, i.size, i.bytes)) = some (some z, 1, bytes)) (hzs : z.cells.size = 1)
    {ao : Option Addr} {cap : Nat} {xs : List Value} (hown : OwnS w base e ao cap xs) {ao' : Option Addr} {cap' : Nat} {ys : List Value} (hrd : RdS w ao' cap' ys)
    (h1 : ∀ u ∈ ys, u.oneCell' = true) (hbytes : (xs.length + ys.length) * bytes ≤ 140737488355328) (h63 : xs.length + ys.length ≤ maxLen) (hbase : base ≤ w.heap.size) :
    ∃ ao2 cap2 w', (Builtin.append_ #[t, t] ty #[.slice ao xs.length cap, .slice ao' ys.length cap']).run P w = .ok (.slice ao2 (xs.length + ys.length) cap2) w' ∧
      OwnS w' base e ao2 cap2 (xs ++ ys) ∧ w.grownBy w' (Value.ownBlock (.slice ao xs.length cap)) := by
  obtain ⟨i0, hi, hz0, hz1, hz2⟩ := info_parts hinfo
  have fin : ∀ v' w', w'.ownsRow base e 1 v' (xs.length + ys.length) (xs ++ ys) → ∃ ao2 cap2, v' = .slice ao2 (xs.length + ys.length) cap2 ∧ OwnS w' base e ao2 cap2 (xs ++ ys) := by
    intro v' w' h
    obtain ⟨h1, h2⟩ := h
    have hlen : (xs ++ ys).length = xs.length + ys.length := by simp
    rcases h2 with ⟨hv, hn⟩ | ⟨g, cp, cur, hv, r⟩
    · exact ⟨none, 0, by rw [hv, hn], by unfold OwnS World.ownsRow; rw [hlen]; exact ⟨by simp, .inl ⟨by rw [hn], hn⟩⟩⟩
    · exact ⟨some ⟨g, 0, none⟩, cp, hv, by unfold OwnS World.ownsRow; rw [hlen]; exact ⟨by simp, .inr ⟨g, cp, cur, rfl, r⟩⟩⟩
  by_cases hy : ys = []
  · subst hy
    cases ao' with
    | none =>
      have hc := hrd.nil rfl
      subst hc
      have hrun := run_append_owned_none (P := P) (w := w) base t ty e i0 1 ht hi _ xs.length xs hown
      refine ⟨ao, cap, w, by simpa using hrun, by simpa using hown, ⟨rfl, rfl, rfl, Nat.le_refl _, fun _ _ _ => rfl⟩⟩
    | some ad =>
      obtain ⟨v', w', hr, h2, h3, _⟩ := run_append_own (P := P) w base t ty e i0 z 1 bytes ht hi hz0 hz1 hz2 hzs (by decide) _ _ _ hown ad 0 cap' [] (by simp) (by intro j u h; simp at h) (by simp) h63 hbytes hbase
      obtain ⟨ao2, cap2, rfl, ho⟩ := fin v' w' h2
      exact ⟨ao2, cap2, w', hr, ho, h3⟩
  · obtain ⟨b, off, rfl, _, hc⟩ := hrd.cell hy
    obtain ⟨v', w', hr, h2, h3, _⟩ := run_append_own (P := P) w base t ty e i0 z 1 bytes ht hi hz0 hz1 hz2 hzs (by decide) _ _ _ hown ⟨b, off, none⟩ ys.length cap' ys (by simp) (by
      intro j u h
      obtain ⟨hj, rfl⟩ := List.getElem?_eq_some_iff.1 h
      rw [Addr.add_lit]
      exact hc j hj) h1 h63 hbytes hbase
    obtain ⟨ao2, cap2, rfl, ho⟩ := fin v' w' h2
    exact ⟨ao2, cap2, w', hr, ho, h3⟩

theorem wpList_append_g {P : Program} (w : World) {ops : Array Oper} {rest : List Oper} {o : Oper} {a : Act} {Q : Exit → Act → World → Prop} (hgd : o.guard = none) (s x : Operand) (t : TypeId)
    (ho : o.op = .call { callee := .builtin .append, args := #[s, x], argTypes := #[t, t] })
    (base : Nat) (e : TypeId) (z : Value) (bytes : Nat) (ht : P.underlying t = some (.slice e))
    (hinfo : (P.info? e).map (fun i => (i.zero, i.size, i.bytes)) = some (some z, 1, bytes)) (hzs : z.cells.size = 1)
    {ao : Option Addr} {cap n : Nat} {xs : List Value} {ao' : Option Addr} {cap' m : Nat} {ys : List Value}
    (hs : a.eval s = .slice ao n cap) (hx : a.eval x = .slice ao' m cap') (hown : OwnS w base e ao cap xs) (hrd : RdS w ao' cap' ys) (hn : xs.length = n) (hm : ys.length = m)
    (h1 : ∀ u ∈ ys, u.oneCell' = true) (hbytes : (n + m) * bytes ≤ 140737488355328) (h63 : n + m ≤ maxLen) (hbase : base ≤ w.heap.size)
    (h : ∀ ao2 cap2 w', OwnS w' base e ao2 cap2 (xs ++ ys) → w.grownBy w' (Value.ownBlock (.slice ao n cap)) → wpList P ops Q rest (a.put o.dst (.slice ao2 (n + m) cap2)) w') : wpList P ops Q (o :: rest) a w := by
  subst hn hm
  refine wpList_plain hgd fun _ hK => ?_
  obtain ⟨ao2, cap2, w', hr, h2, h3⟩ := run_append_g (P := P) base t o.type e z bytes ht hinfo hzs hown hrd h1 hbytes h63 hbase
  unfold Oper.wp execOp
  simp only [ho, resolve, invoke, builtin, Sem.run_bind, Sem.run_pure, Result.andThen_ok, List.map_toArray, List.map_cons, List.map_nil, hs, hx, hr]
  exact hK _ _ (h ao2 cap2 w' h2 h3)

/-- What is of another type is kept by an append. -/
theorem OwnS.other {w w' : World} {base base' : Nat} {e f : TypeId} {ao ao' : Option Addr} {cap n cap' : Nat} {xs ys : List Value} (h : OwnS w base e ao cap xs) (k : OwnS w base' f ao' cap' ys) (hn : ys.length = n) (hne : e ≠ f)
    (hg : w.grownBy w' (Value.ownBlock (.slice ao' n cap'))) : OwnS w' base e ao cap xs := by
  subst hn
  obtain ⟨h1, h2⟩ := h
  refine ⟨h1, ?_⟩
  rcases h2 with h2 | ⟨g, cp, cur, hv, hg2, hh, r⟩
  · exact .inl h2
  · refine .inr ⟨g, cp, cur, hv, hg2, ?_, r⟩
    rw [hg.block g (Array.getElem?_eq_some_iff.1 hh).1 ?_]
    · exact hh
    · intro e2
      obtain ⟨_, k2⟩ := k
      rcases k2 with ⟨kv, _⟩ | ⟨g', cp', cur', kv, _, kh, _⟩
      · rw [kv] at e2; simp [Value.ownBlock] at e2
      · rw [kv] at e2
        simp [Value.ownBlock] at e2
        subst e2
        rw [hh] at kh
        simp only [Option.some.injEq, Obj.cells.injEq] at kh
        exact hne kh.2.1

theorem OwnS.grownBelow {w w' : World} {base : Nat} {e : TypeId} {ao : Option Addr} {cap n : Nat} {xs : List Value} (h : OwnS w base e ao cap xs) (hn : xs.length = n) (hs : base ≤ w.heap.size)
    (hg : w.grownBy w' (Value.ownBlock (.slice ao n cap))) : Below base w w' := by
  subst hn
  exact h.grown (Nat.le_refl _) hs hg

/-- The slice is new since w: none of its elements lies in what was there, and it begins at the first new block. -/
structure Fresh (w w' : World) (e : TypeId) (ao : Option Addr) (cap : Nat) (ys : List Value) : Prop where
  nil : ao = none → cap = 0
  le : ys.length ≤ cap
  mx : cap ≤ maxLen
  below : Below w.heap.size w w'
  own : ys ≠ [] → ao = some ⟨w.heap.size, 0, none⟩ ∧ OwnS w' w.heap.size e ao cap ys

theorem run_append_new {P : Program} {w : World} (t ty e : TypeId) (z : Value) (bytes : Nat) (ht : P.underlying t = some (.slice e))
    (hinfo : (P.info? e).map (fun i => (i.zero, i.size, i.bytes)) = some (some z, 1, bytes)) (hzs : z.cells.size = 1) (ad : Addr)
    {ao' : Option Addr} {cap' : Nat} {ys : List Value} (hrd : RdS w ao' cap' ys) (h1 : ∀ u ∈ ys, u.oneCell' = true) (hbytes : ys.length * bytes ≤ 140737488355328) (h63 : ys.length ≤ maxLen) :
    ∃ ao2 cap2 w', (Builtin.append_ #[t, t] ty #[.slice (some ad) 0 0, .slice ao' ys.length cap']).run P w = .ok (.slice ao2 ys.length cap2) w' ∧ Fresh w w' e ao2 cap2 ys := by
  obtain ⟨i, hi, hz0, hz1, hz2⟩ := info_parts hinfo
  by_cases hy : ys = []
  · subst hy
    refine ⟨some ad, 0, w, ?_, ⟨fun h => (by cases h), by simp, by simp, Below.refl _ _, fun h => absurd rfl h⟩⟩
    cases ao' with
    | none =>
      have := hrd.nil rfl
      subst this
      simp [Builtin.append_, run_underlying ht, sizeOf, typeInfo, hi, Builtin.lenOf, Builtin.firstCells, storeCells]
    | some a =>
      simp [Builtin.append_, run_underlying ht, sizeOf, typeInfo, hi, Builtin.lenOf, Builtin.firstCells, loadCells, loadCellsFrom, storeCells]
  · obtain ⟨b, off, rfl, _, hc⟩ := hrd.cell hy
    have hm : 0 < ys.length := List.length_pos_iff.2 hy
    have h63' := h63
    simp only [maxLen] at h63'
    have hr := run_append_grow (P := P) w t ty e i z ht hi hz0 ad 0 0 [] (by simp) (by intro j u h; simp at h) ⟨b, off, none⟩ ys.length cap' ys (by rw [hz1]; simp) (by
      intro j u h
      obtain ⟨hj, rfl⟩ := List.getElem?_eq_some_iff.1 h
      rw [Addr.add_lit]
      exact hc j hj) (by omega) (by omega) (growslice_fits (by omega) (by rw [hz2]; simpa using hbytes))
    simp only [Nat.zero_add] at hr
    have hge := grownCap_ge w ys.length 0 e
    have hcm := grownCap_le_maxLen w ys.length 0 e h63
    refine ⟨_, _, _, hr, ⟨fun h => (by cases h), hge, hcm, ?_, fun _ => ⟨rfl, ?_⟩⟩⟩
    · exact (Below.refl _ _).drew.alloc (by simp) _
    · refine ⟨by simp, .inr ⟨w.heap.size, _, _, rfl, Nat.le_refl _, heap_alloc_new w.drew _, hge, hcm, ?_, ?_⟩⟩
      · simp only [Array.size_append, List.size_toArray, size_zeroCells, hzs, List.length_nil, Nat.mul_one]
        omega
      · simp

theorem step_append_new {P : Program} (w : World) {ops : Array Oper} {o : Oper} {a : Act} {K : Act → World → Prop} {Q : Exit → Act → World → Prop} {E : Prop} (hgd : o.guard = none) (s x : Operand) (t : TypeId)
    (ho : o.op = .call { callee := .builtin .append, args := #[s, x], argTypes := #[t, t] })
    (e : TypeId) (z : Value) (bytes : Nat) (ht : P.underlying t = some (.slice e))
    (hinfo : (P.info? e).map (fun i => (i.zero, i.size, i.bytes)) = some (some z, 1, bytes)) (hzs : z.cells.size = 1) {ad : Addr}
    {ao' : Option Addr} {cap' m : Nat} {ys : List Value}
    (hs : a.eval s = .slice (some ad) 0 0) (hx : a.eval x = .slice ao' m cap') (hrd : RdS w ao' cap' ys) (hm : ys.length = m) (h1 : ∀ u ∈ ys, u.oneCell' = true)
    (hbytes : m * bytes ≤ 140737488355328) (h63 : m ≤ maxLen)
    (h : ∀ ao2 cap2 w', Fresh w w' e ao2 cap2 ys → K (a.put o.dst (.slice ao2 m cap2)) w') :
    if Region.wanted o (yielded ops a.tmps) = true then Oper.wp P o a w K Q else E := by
  have hw : Region.wanted o (yielded ops a.tmps) = true := by simp [Region.wanted, hgd]
  rw [if_pos hw]
  subst hm
  obtain ⟨ao2, cap2, w', hr, h2⟩ := run_append_new (P := P) t o.type e z bytes ht hinfo hzs ad hrd h1 hbytes h63
  unfold Oper.wp execOp
  simp only [ho, resolve, invoke, builtin, Sem.run_bind, Sem.run_pure, Result.andThen_ok, List.map_toArray, List.map_cons, List.map_nil, hs, hx, hr]
  exact h ao2 cap2 w' h2

/-- Where what an append leaves begins: where it began, or at the first new block. -/
theorem run_append_where {P : Program} {w : World} (base : Nat) (t ty e : TypeId) (z : Value) (bytes : Nat) (ht : P.underlying t = some (.slice e))
    (hinfo : (P.info? e).map (fun i => (i.zero, i.size, i.bytes)) = some (some z, 1, bytes)) (hzs : z.cells.size = 1)
    {ao : Option Addr} {cap : Nat} {xs : List Value} (hown : OwnS w base e ao cap xs) {ao' : Option Addr} {cap' : Nat} {ys : List Value} (hrd : RdS w ao' cap' ys) (hy : ys ≠ [])
    (h1 : ∀ u ∈ ys, u.oneCell' = true) (hbytes : (xs.length + ys.length) * bytes ≤ 140737488355328) (h63 : xs.length + ys.length ≤ maxLen) (hbase : base ≤ w.heap.size) :
    ∃ ao2 cap2 w', (Builtin.append_ #[t, t] ty #[.slice ao xs.length cap, .slice ao' ys.length cap']).run P w = .ok (.slice ao2 (xs.length + ys.length) cap2) w' ∧
      OwnS w' base e ao2 cap2 (xs ++ ys) ∧ w.grownBy w' (Value.ownBlock (.slice ao xs.length cap)) ∧ (ao2 = ao ∨ ao2 = some ⟨w.heap.size, 0, none⟩) := by
  obtain ⟨ao2, cap2, w', hr, h2, h3⟩ := run_append_g (P := P) base t ty e z bytes ht hinfo hzs hown hrd h1 hbytes h63 hbase
  refine ⟨ao2, cap2, w', hr, h2, h3, ?_⟩
  obtain ⟨i, hi, hz0, hz1, hz2⟩ := info_parts hinfo
  obtain ⟨b, off, rfl, _, hc⟩ := hrd.cell hy
  have hm : 0 < ys.length := List.length_pos_iff.2 hy
  have h63' := h63
  simp only [maxLen] at h63'
  have hnews : ∀ j u, ys[j]? = some u → w.cell? ((⟨b, off, none⟩ : Addr).add j) = some u := by
    intro j u h
    obtain ⟨hj, rfl⟩ := List.getElem?_eq_some_iff.1 h
    rw [Addr.add_lit]
    exact hc j hj
  have hown' := hown
  obtain ⟨q1, q2⟩ := hown'
  rcases q2 with ⟨hv, hn⟩ | ⟨g, cp, cur, hv, hg, hh, hle, hmx, hsz, htk⟩
  · have hx : xs = [] := List.eq_nil_of_length_eq_zero hn
    subst hx
    simp only [List.length_nil, Value.slice.injEq, true_and] at hv
    obtain ⟨rfl, rfl⟩ := hv
    have hr2 := run_append_nil (P := P) w t ty e i z ht hi hz0 ⟨b, off, none⟩ ys.length cap' ys (by rw [hz1]; simp) hnews (by omega) (by simp at h63'; omega) (by rw [hz2]; simp at hbytes; omega)
    simp only [List.length_nil] at hr
    rw [hr2] at hr
    simp only [Result.ok.injEq, Value.slice.injEq] at hr
    exact .inr hr.1.1.symm
  · simp only [Value.slice.injEq] at hv
    obtain ⟨rfl, _, rfl⟩ := hv
    by_cases hroom : xs.length + ys.length ≤ cap
    · have hr2 := run_append_room (P := P) w t ty e i ht hi g xs.length cap cur hh ⟨b, off, none⟩ ys.length cap' ys (by rw [hz1]; simp) hnews h1 hroom (by rw [hz1]; omega)
      rw [hr2] at hr
      simp only [Result.ok.injEq, Value.slice.injEq] at hr
      exact .inl hr.1.1.symm
    · have holds : ∀ j u, xs[j]? = some u → w.cell? ((⟨g, 0, none⟩ : Addr).add j) = some u := by
        have := World.ownsRow.cells hown (g := g) rfl
        exact this
      have hr2 := run_append_grow (P := P) w t ty e i z ht hi hz0 ⟨g, 0, none⟩ xs.length cap xs (by rw [hz1]; simp) holds ⟨b, off, none⟩ ys.length cap' ys (by rw [hz1]; simp) hnews (by omega) (by omega) (growslice_fits (by omega) (by rw [hz2]; exact hbytes))
      rw [hr2] at hr
      simp only [Result.ok.injEq, Value.slice.injEq] at hr
      exact .inr hr.1.1.symm

/-- The same, also where nothing is appended. -/
theorem run_append_at {P : Program} {w : World} (base : Nat) (t ty e : TypeId) (z : Value) (bytes : Nat) (ht : P.underlying t = some (.slice e))
    (hinfo : (P.info? e).map (fun i => (i.zero, i.size, i.bytes)) = some (some z, 1, bytes)) (hzs : z.cells.size = 1)
    {ao : Option Addr} {cap : Nat} {xs : List Value} (hown : OwnS w base e ao cap xs) {ao' : Option Addr} {cap' : Nat} {ys : List Value} (hrd : RdS w ao' cap' ys)
    (h1 : ∀ u ∈ ys, u.oneCell' = true) (hbytes : (xs.length + ys.length) * bytes ≤ 140737488355328) (h63 : xs.length + ys.length ≤ maxLen) (hbase : base ≤ w.heap.size) :
    ∃ ao2 cap2 w', (Builtin.append_ #[t, t] ty #[.slice ao xs.length cap, .slice ao' ys.length cap']).run P w = .ok (.slice ao2 (xs.length + ys.length) cap2) w' ∧
      OwnS w' base e ao2 cap2 (xs ++ ys) ∧ w.grownBy w' (Value.ownBlock (.slice ao xs.length cap)) ∧ (ao2 = ao ∨ ao2 = some ⟨w.heap.size, 0, none⟩) := by
  by_cases hy : ys = []
  · subst hy
    obtain ⟨i, hi, hz0, hz1, hz2⟩ := info_parts hinfo
    obtain ⟨ao2, cap2, w', hr, h2, h3⟩ := run_append_g (P := P) base t ty e z bytes ht hinfo hzs hown hrd h1 hbytes h63 hbase
    refine ⟨ao2, cap2, w', hr, h2, h3, .inl ?_⟩
    cases ao' with
    | none =>
      have hc := hrd.nil rfl
      subst hc
      have hrun := run_append_owned_none (P := P) (w := w) base t ty e i 1 ht hi _ xs.length xs hown
      simp only [List.length_nil] at hr
      rw [hrun] at hr
      simp only [Result.ok.injEq, Value.slice.injEq] at hr
      exact hr.1.1.symm
    | some ad =>
      have hown' := hown
      obtain ⟨q1, q2⟩ := hown'
      rcases q2 with ⟨hv, hn⟩ | ⟨g, cp, cur, hv, hg, hh, hle, hmx, hsz, htk⟩
      · have hx : xs = [] := List.eq_nil_of_length_eq_zero hn
        subst hx
        simp only [List.length_nil, Value.slice.injEq, true_and] at hv
        obtain ⟨rfl, rfl⟩ := hv
        obtain ⟨v', w2, hr2, _, _, hq⟩ := run_append_own (P := P) w base t ty e i z 1 bytes ht hi hz0 hz1 hz2 hzs (by decide) _ _ _ hown ad 0 cap' [] (by simp) (by intro j u h; simp at h) (by simp) h63 hbytes hbase
        have hv := hq.2 ⟨rfl, rfl⟩
        subst hv
        simp only [List.length_nil] at hr hr2
        rw [hr2] at hr
        simp only [Result.ok.injEq, Value.slice.injEq] at hr
        exact hr.1.1.symm
      · simp only [Value.slice.injEq] at hv
        obtain ⟨rfl, _, rfl⟩ := hv
        have hr2 := run_append_room (P := P) w t ty e i ht hi g xs.length cap cur hh ad 0 cap' [] (by simp) (by intro j u h; simp at h) h1 (by simpa using hle) (by rw [hz1]; simp only [List.length_nil]; omega)
        simp only [List.length_nil] at hr
        rw [hr2] at hr
        simp only [Result.ok.injEq, Value.slice.injEq] at hr
        exact hr.1.1.symm
  · exact run_append_where base t ty e z bytes ht hinfo hzs hown hrd hy h1 hbytes h63 hbase

theorem wpList_append_at {P : Program} (w : World) {ops : Array Oper} {rest : List Oper} {o : Oper} {a : Act} {Q : Exit → Act → World → Prop} (hgd : o.guard = none) (s x : Operand) (t : TypeId)
    (ho : o.op = .call { callee := .builtin .append, args := #[s, x], argTypes := #[t, t] })
    (base : Nat) (e : TypeId) (k : IntKind) (z : Value) (bytes : Nat) (ht : P.underlying t = some (.slice e))
    (hinfo : (P.info? e).map (fun i => (i.zero, i.size, i.bytes)) = some (some z, 1, bytes)) (hzs : z.cells.size = 1)
    {ao : Option Addr} {cap n : Nat} {xs : List Int} {ao' : Option Addr} {cap' m : Nat} {ys : List Int}
    (hs : a.eval s = .slice ao n cap) (hx : a.eval x = .slice ao' m cap') (hown : OwnI w base e k ao cap xs) (hrd : RdI w k ao' cap' ys) (hn : xs.length = n) (hm : ys.length = m)
    (hbytes : (n + m) * bytes ≤ 140737488355328) (h63 : n + m ≤ maxLen) (hbase : base ≤ w.heap.size)
    (h : ∀ ao2 cap2 w', OwnI w' base e k ao2 cap2 (xs ++ ys) → w.grownBy w' (Value.ownBlock (.slice ao n cap)) → (ao2 = ao ∨ ao2 = some ⟨w.heap.size, 0, none⟩) → wpList P ops Q rest (a.put o.dst (.slice ao2 (n + m) cap2)) w') : wpList P ops Q (o :: rest) a w := by
  subst hn hm
  refine wpList_plain hgd fun _ hK => ?_
  obtain ⟨ao2, cap2, w', hr, h2, h3, h4⟩ := run_append_at (P := P) base t o.type e z bytes ht hinfo hzs hown hrd (ints_one _ _) (by simpa using hbytes) (by simpa using h63) hbase
  simp only [List.length_map] at hr h3
  unfold Oper.wp execOp
  simp only [ho, resolve, invoke, builtin, Sem.run_bind, Sem.run_pure, Result.andThen_ok, List.map_toArray, List.map_cons, List.map_nil, hs, hx, hr]
  exact hK _ _ (h ao2 cap2 w' (by unfold OwnI; rw [List.map_append]; exact h2) h3 h4)

end Go.Proofs.YtemldmjpanmdbaaGreatDoor
