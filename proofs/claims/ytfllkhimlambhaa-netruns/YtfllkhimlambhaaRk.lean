/- Both nets in one world, and what each call leaves of both. -/
import Derived.Test.YtfllkhimlambhaaRz
import Derived.Test.YtfllkhimlambhaaSw
namespace Go.Proofs.Ytfllkhimlambhaa
open Go.RowKit
set_option linter.unusedVariables false
set_option maxRecDepth 8000

/-- The program's net has T1, the document's (in box q) T; the blocks of X are neither's. -/
def Mid (X : Nat → Prop) (B g q : Nat) (w0 w : World) (R : Nat → Rw) (T T1 : Nat → List It) : Prop :=
  Bx w q R ∧ SZ T ∧ Below B w0 w ∧ B ≤ q ∧ B ≤ w.heap.size ∧ ∃ V U : Nat → Prop, Net w g V T1 ∧ (∀ k, V k → B ≤ k) ∧ Rf w U R T ∧ ∀ k, X k → k < w.heap.size ∧ ¬ V k ∧ ¬ U k

theorem Net.keepT {w w' : World} {g : Nat} {V : Nat → Prop} {T : Nat → List It} (H : Net w g V T) (hs : w.heap.size ≤ w'.heap.size) (hb : ∀ (k : Nat) (cs : Array Value) (e : TypeId), w.heap[k]? = some (.cells cs e) → e = 59 ∨ e = 63 ∨ e = 5 → w'.heap[k]? = w.heap[k]?) : Net w' g V T := by
  obtain ⟨A, C, F, h, e⟩ := H
  exact ⟨A, C, F, h.keepT hs hb, e⟩
theorem Bx.off {V : Nat → Prop} {w w' : World} {q : Nat} {R : Nat → Rw} (h : Bx w q R) (hO : OffN V w w') : Bx w' q R := by
  refine h.keep ?_
  obtain ⟨cs, hc⟩ := h.t
  exact hO.kt _ _ _ _ hc (by decide) (by decide)
theorem Rf.st8 {W : World} {U : Nat → Prop} {R R' Z : Nat → Rw} {T : Nat → List It} {q : Nat} (H : Rf W U R T) (h6 : Bx W q Z) : Rf (Ytfllkhimlambhaa.st8 W q R') U R T := by
  obtain ⟨F, h1, h2⟩ := H
  exact ⟨F, h1.st8 h6, h2⟩

section
variable {X : Nat → Prop} {B g q : Nat} {w0 w w' : World} {R : Nat → Rw} {T T1 : Nat → List It}
theorem Mid.below (H : Mid X B g q w0 w R T T1) (hb : Below w.heap.size w w') : Mid X B g q w0 w' R T T1 := by
  obtain ⟨h1, h2, h3, h4, h5, V, U, h6, h7, h8, h9⟩ := H
  exact ⟨h1.below hb, h2, h3.trans (hb.mono h5), h4, Nat.le_trans h5 hb.size, V, U, h6.below hb, h7, h8.below hb, fun k hk => ⟨Nat.lt_of_lt_of_le (h9 k hk).1 hb.size, (h9 k hk).2⟩⟩
/-- Blocks that others make are neither's. -/
theorem Mid.own (H : Mid (fun _ => False) B g q w0 w R T T1) (hb : Below w.heap.size w w') : Mid (fun k => w.heap.size ≤ k ∧ k < w'.heap.size) B g q w0 w' R T T1 := by
  obtain ⟨h1, h2, h3, h4, h5, V, U, h6, h7, h8, h9⟩ := H
  refine ⟨h1.below hb, h2, h3.trans (hb.mono h5), h4, Nat.le_trans h5 hb.size, fun k => V k ∧ k < w.heap.size, fun k => U k ∧ k < w.heap.size, (h6.mono fun k hk hv => ⟨hv, hk⟩).below hb, fun k hk => h7 k hk.1, (h8.mono fun k hk hv => ⟨hv, hk⟩).below hb, fun k hk => ⟨hk.2, fun h => ?_, fun h => ?_⟩⟩
  · have := h.2; omega
  · have := h.2; omega
theorem Mid.drop (H : Mid X B g q w0 w R T T1) : Mid (fun _ => False) B g q w0 w R T T1 := by
  obtain ⟨h1, h2, h3, h4, h5, V, U, h6, h7, h8, h9⟩ := H
  exact ⟨h1, h2, h3, h4, h5, V, U, h6, h7, h8, fun k hk => hk.elim⟩
/-- A step of the program's net. -/
theorem Mid.net {V : Nat → Prop} {T2 : Nat → List It} {U : Nat → Prop} (h1 : Bx w q R) (h2 : SZ T) (h3 : Below B w0 w) (h4 : B ≤ q) (h5 : B ≤ w.heap.size) (h7 : ∀ k, V k → B ≤ k) (h8 : Rf w U R T) (h9 : ∀ k, X k → k < w.heap.size ∧ ¬ V k ∧ ¬ U k) (hN : Ned w w' g V T2) : Mid X B g q w0 w' R T T2 := by
  have hs := hN.2.size
  refine ⟨h1.off hN.2, h2, h3.trans (hN.2.off.below h7 h5), h4, Nat.le_trans h5 hs, Grow w V, U, hN.1, ?_, h8.off hN.2, fun k hk => ?_⟩
  · rintro k (h | h)
    · exact h7 k h
    · exact Nat.le_trans h5 h
  · obtain ⟨a, b, c⟩ := h9 k hk
    refine ⟨Nat.lt_of_lt_of_le a hs, ?_, c⟩
    rintro (h | h)
    · exact b h
    · omega
/-- A step of the document's net, and its store into the box. -/
theorem Mid.ref {V U : Nat → Prop} {R' : Nat → Rw} (h1 : Bx w q R) (hS : SZ T1) (h3 : Below B w0 w) (h4 : B ≤ q) (h5 : B ≤ w.heap.size) (h6 : Net w g V T1) (h7 : ∀ k, V k → B ≤ k) (h9 : ∀ k, X k → k < w.heap.size ∧ ¬ V k ∧ ¬ U k) (hR : Rf w' (Grow w U) R' T1) (hb : Below w.heap.size w w') : Bx w' q R ∧ Mid X B g q w0 (st8 w' q R') R' T1 T1 := by
  have k1 := h1.below hb
  obtain ⟨s1, s2, s3, s4, s5, s6⟩ := st8_facts R' k1
  refine ⟨k1, s1, hS, st8_below R' k1 (h3.trans (hb.mono h5)) h4, h4, by rw [s3]; exact Nat.le_trans h5 hb.size, V, Grow w U, ?_, h7, hR.st8 k1, fun k hk => ?_⟩
  · refine (h6.below hb).keepT (by rw [s3]; exact Nat.le_refl _) fun k cs e hc he => s2 k (bx_ne k1 hc ?_)
    rcases he with rfl | rfl | rfl <;> decide
  · obtain ⟨a, b, c⟩ := h9 k hk
    refine ⟨by rw [s3]; exact Nat.lt_of_lt_of_le a hb.size, b, ?_⟩
    rintro (h | h)
    · exact c h
    · omega
/-- Bytes that are neither's are written. -/
theorem Mid.bytes (H : Mid X B g q w0 w R T T1) (hs : w'.heap.size = w.heap.size) (hos : w'.os = w.os) (htp : w'.tape = w.tape) (hout : w'.output = w.output) (o : Nat) (ho : X o) (hB : B ≤ o) (h5 : ∃ cs, w.heap[o]? = some (.cells cs 5)) (hb : ∀ k, k ≠ o → w'.heap[k]? = w.heap[k]?) : Mid X B g q w0 w' R T T1 := by
  obtain ⟨h1, h2, h3, h4, h5', V, U, h6, h7, h8, h9⟩ := H
  refine ⟨h1.keep (hb q ?_), h2, ⟨hos.trans h3.os, htp.trans h3.tape, hout.trans h3.output, by rw [hs]; exact h3.size, fun k hk => (hb k (by omega)).trans (h3.block k hk)⟩, h4, by rw [hs]; exact h5', V, U, h6.keep (by rw [hs]; exact Nat.le_refl _) fun k _ hv => hb k (by rintro rfl; exact (h9 k ho).2.1 hv), h7, ?_, fun k hk => by rw [hs]; exact h9 k hk⟩
  · obtain ⟨cs, hc⟩ := h5
    exact Ne.symm (bx_ne h1 hc (by decide))
  · obtain ⟨F, a, b⟩ := h8
    exact ⟨F, a.bytes (by rw [hs]; exact Nat.le_refl _) (fun k _ hk => hb k hk) h5 (h9 o ho).2.2, b⟩

theorem t_put (H : Mid X B g q w0 w R T T) (z : Int) {ax : Option Addr} {m cx : Nat} {bs : List Nat} (hr : Rd8 w ax m cx bs) (hm : m ≤ 140737488355328) : Calls Try.prog 11 #[np g, .int .i64 z, .slice ax m cx] w fun e w' => e = .returned (.bool (putB T z)) ∧ Hid (Mid X B g q w0 w' R T (putT T z (bs, false)) ∧ ∃ V, OffN V w w') := by
  obtain ⟨h1, h2, h3, h4, h5, V, U, h6, h7, h8, h9⟩ := H
  refine (put_any h6 z ax m cx bs hr hm).mono ?_
  rintro e w' ⟨rfl, hN⟩
  exact ⟨rfl, Mid.net h1 h2 h3 h4 h5 h7 h8 h9 hN, _, hN.2⟩
theorem t_take (H : Mid X B g q w0 w R T T) (z i : Int) : Calls Try.prog 14 #[np g, .int .i64 z, .int .i64 i] w fun e w' => ∃ y : Fv, e = .returned (.tuple #[.slice y.ao y.n y.cap, .bool (hasB T z i)]) ∧ Hid (Rd8 w' y.ao y.n y.cap (tkB T z i) ∧ (∀ a, y.ao = some a → ∃ cs, w'.heap[a.block]? = some (.cells cs 5)) ∧ Mid X B g q w0 w' R T (tkT T z i) ∧ ∃ V, OffN V w w') := by
  obtain ⟨h1, h2, h3, h4, h5, V, U, h6, h7, h8, h9⟩ := H
  refine (n_take h6 z i).mono ?_
  rintro e w' ⟨y, rfl, a, b, hN⟩
  exact ⟨y, rfl, a, b, Mid.net h1 h2 h3 h4 h5 h7 h8 h9 hN, _, hN.2⟩
theorem t_double (H : Mid X B g q w0 w R T T) (z i : Int) : Calls Try.prog 16 #[np g, .int .i64 z, .int .i64 i] w fun e w' => e = .returned (.bool (dbB T z i)) ∧ Hid (Mid X B g q w0 w' R T (dbT T z i) ∧ ∃ V, OffN V w w') := by
  obtain ⟨h1, h2, h3, h4, h5, V, U, h6, h7, h8, h9⟩ := H
  refine (n_double h6 z i).mono ?_
  rintro e w' ⟨rfl, hN⟩
  exact ⟨rfl, Mid.net h1 h2 h3 h4 h5 h7 h8 h9 hN, _, hN.2⟩
theorem t_late (H : Mid X B g q w0 w R T T) (z i : Int) : Calls Try.prog 18 #[np g, .int .i64 z, .int .i64 i] w fun e w' => e = .returned (.bool (hasB T z i)) ∧ Hid (Mid X B g q w0 w' R T (ltT T z i) ∧ ∃ V, OffN V w w') := by
  obtain ⟨h1, h2, h3, h4, h5, V, U, h6, h7, h8, h9⟩ := H
  refine (n_late h6 z i).mono ?_
  rintro e w' ⟨rfl, hN⟩
  exact ⟨rfl, Mid.net h1 h2 h3 h4 h5 h7 h8 h9 hN, _, hN.2⟩
theorem t_spoil (H : Mid X B g q w0 w R T T) (z i p : Int) (m : Nat) (hm : m < 65536) (hp : -9223372036854775808 ≤ p) (hp2 : p ≤ 9223372036854775807) : Calls Try.prog 20 #[np g, .int .i64 z, .int .i64 i, .int .i64 p, .int .u16 (m : Int)] w fun e w' => e = .returned (.bool (slB T z i p m)) ∧ Hid (Mid X B g q w0 w' R T (slT T z i p m) ∧ ∃ V, OffN V w w') := by
  obtain ⟨h1, h2, h3, h4, h5, V, U, h6, h7, h8, h9⟩ := H
  refine (n_spoil h6 z i p m hm hp hp2).mono ?_
  rintro e w' ⟨rfl, hN⟩
  exact ⟨rfl, Mid.net h1 h2 h3 h4 h5 h7 h8 h9 hN, _, hN.2⟩

theorem u_put (z : Int) (Y : Fv) (H : Mid X B g q w0 w R T (putT T z Y.it)) (hY : Rd8 w Y.ao Y.n Y.cap Y.bs) (hYs : Y.n ≤ 140737488351232) : Calls Try.prog 13 #[rnV R, .int .i64 z, .agg #[.slice Y.ao Y.n Y.cap, .bool Y.sp]] w fun e w' => ∃ R', e = .returned (.tuple #[rnV R', .bool (putB T z)]) ∧ Bx w' q R ∧ Hid (Mid X B g q w0 (st8 w' q R') R' (putT T z Y.it) (putT T z Y.it) ∧ Below w.heap.size w w') := by
  obtain ⟨h1, h2, h3, h4, h5, V, U, h6, h7, h8, h9⟩ := H
  refine (r_put h8 z Y hY hYs).mono ?_
  rintro e w' ⟨R', rfl, hR, hb⟩
  have := Mid.ref h1 (h2.put z (x := Y.it) (by show Y.bs.length ≤ _; rw [hY.len]; exact hYs)) h3 h4 h5 h6 h7 h9 hR hb
  exact ⟨R', rfl, this.1, this.2, hb⟩
theorem u_take (z i : Int) (H : Mid X B g q w0 w R T (tkT T z i)) : Calls Try.prog 15 #[rnV R, .int .i64 z, .int .i64 i] w fun e w' => ∃ (R' : Nat → Rw) (y : Fv), e = .returned (.tuple #[rnV R', .slice y.ao y.n y.cap, .bool (hasB T z i)]) ∧ Bx w' q R ∧ Hid (Rd8 w' y.ao y.n y.cap (tkB T z i) ∧ (∀ a, y.ao = some a → ∃ cs, w'.heap[a.block]? = some (.cells cs 5)) ∧ Mid X B g q w0 (st8 w' q R') R' (tkT T z i) (tkT T z i) ∧ Below w.heap.size w w') := by
  obtain ⟨h1, h2, h3, h4, h5, V, U, h6, h7, h8, h9⟩ := H
  refine (r_take h8 z i).mono ?_
  rintro e w' ⟨R', y, rfl, a, b, hR, hb⟩
  have := Mid.ref h1 (h2.tk z i) h3 h4 h5 h6 h7 h9 hR hb
  exact ⟨R', y, rfl, this.1, a, b, this.2, hb⟩
theorem u_double (z i : Int) (H : Mid X B g q w0 w R T (dbT T z i)) : Calls Try.prog 17 #[rnV R, .int .i64 z, .int .i64 i] w fun e w' => ∃ R', e = .returned (.tuple #[rnV R', .bool (dbB T z i)]) ∧ Bx w' q R ∧ Hid (Mid X B g q w0 (st8 w' q R') R' (dbT T z i) (dbT T z i)) := by
  obtain ⟨h1, h2, h3, h4, h5, V, U, h6, h7, h8, h9⟩ := H
  refine (r_double h8 h2 z i).mono ?_
  rintro e w' ⟨R', rfl, hR, hb⟩
  have := Mid.ref h1 (h2.db z i) h3 h4 h5 h6 h7 h9 hR hb
  exact ⟨R', rfl, this.1, this.2⟩
theorem u_late (z i : Int) (H : Mid X B g q w0 w R T (ltT T z i)) : Calls Try.prog 19 #[rnV R, .int .i64 z, .int .i64 i] w fun e w' => ∃ R', e = .returned (.tuple #[rnV R', .bool (hasB T z i)]) ∧ Bx w' q R ∧ Hid (Mid X B g q w0 (st8 w' q R') R' (ltT T z i) (ltT T z i)) := by
  obtain ⟨h1, h2, h3, h4, h5, V, U, h6, h7, h8, h9⟩ := H
  refine (r_late h8 h2 z i).mono ?_
  rintro e w' ⟨R', rfl, hR, hb⟩
  have := Mid.ref h1 (h2.lt z i) h3 h4 h5 h6 h7 h9 hR hb
  exact ⟨R', rfl, this.1, this.2⟩
theorem u_spoil (z i p : Int) (m : Nat) (hm : m < 65536) (hp : -9223372036854775808 ≤ p) (hp2 : p ≤ 9223372036854775807) (H : Mid X B g q w0 w R T (slT T z i p m)) : Calls Try.prog 21 #[rnV R, .int .i64 z, .int .i64 i, .int .i64 p, .int .u16 (m : Int)] w fun e w' => ∃ R', e = .returned (.tuple #[rnV R', .bool (slB T z i p m)]) ∧ Bx w' q R ∧ Hid (Mid X B g q w0 (st8 w' q R') R' (slT T z i p m) (slT T z i p m)) := by
  obtain ⟨h1, h2, h3, h4, h5, V, U, h6, h7, h8, h9⟩ := H
  refine (r_spoil h8 h2 z i p m hm hp hp2).mono ?_
  rintro e w' ⟨R', rfl, hR, hb⟩
  have := Mid.ref h1 (h2.sl z i p m) h3 h4 h5 h6 h7 h9 hR hb
  exact ⟨R', rfl, this.1, this.2⟩
end

/-- Bytes read as they did, where their block has stayed. -/
theorem Rd8.keepB {w w' : World} {ao : Option Addr} {n cap : Nat} {bs : List Nat} (h : Rd8 w ao n cap bs) (hs : w.heap.size ≤ w'.heap.size) (hb : ∀ a, ao = some a → a.block < w.heap.size → w'.heap[a.block]? = w.heap[a.block]?) : Rd8 w' ao n cap bs := ⟨RdS.keepB h.rd hs hb, h.len, h.byte⟩
theorem Rd8.none' (a : Addr) (W : World) : (convert 33 9 (.slice (some a) 0 0)).run Try.prog W = .ok (.string (strOfNums (ci []))) W :=
  Rd8.str (bs := []) ⟨⟨by simp [ci], by simp, fun h => (by cases h), fun h => absurd rfl h⟩, rfl, by simp⟩

end Go.Proofs.Ytfllkhimlambhaa
