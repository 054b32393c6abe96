/- The reference's Crash, walked. -/
import Derived.Test.YtnapkcejpllmcaaR6
import Derived.Test.YtnapkcejpllmcaaMm
namespace Go.Proofs.Ytnapkcejpllmcaa
open Go.RowKit
set_option linter.unusedVariables false

/-- What becomes of a sector at a crash, as the document says it. -/
def rfate (keep : Int) (i : Nat) (x : Sec) : Sec := if x.l = true ∧ bits .and .i64 keep ((2 : Int) ^ i) ≠ 0 then ⟨x.b, x.b, false⟩ else ⟨x.s, x.s, false⟩

abbrev bitC : Array Value := #[.int .i64 1, .int .i64 2, .int .i64 4, .int .i64 8, .int .i64 16, .int .i64 32]

theorem bit_cell {w : World} {p : Nat} (h : w.heap[p]? = some (.cells bitC 68)) (k : Nat) (hk : k < 6) : w.cell? ⟨p, k, none⟩ = some (.int .i64 ((2 : Int) ^ k)) := by
  rw [cell_of_row _ _ _ _ _ _ h]
  obtain rfl | rfl | rfl | rfl | rfl | rfl : k = 0 ∨ k = 1 ∨ k = 2 ∨ k = 3 ∨ k = 4 ∨ k = 5 := by omega
  all_goals rfl

theorem Cells3.drew {w : World} {V : Nat → Prop} {o0 o1 o2 : Nat} {L : List Sec} (h : Cells3 w V o0 o1 o2 L) : Cells3 w.drew V o0 o1 o2 L := h.below (Below.refl _ _).drew

/-- What a round of the crash knows. -/
structure CrI (w : World) (bt : Nat) (wr : World) (V : Nat → Prop) (o0 o1 o2 : Nat) (x0 x1 x2 : Value) (L : List Sec) : Prop where
  c : Cells3 wr V o0 o1 o2 L
  f0 : ∀ j, wr.frozen? ⟨o0, j, none⟩ = false
  f1 : ∀ j, wr.frozen? ⟨o1, j, none⟩ = false
  f2 : ∀ j, wr.frozen? ⟨o2, j, none⟩ = false
  b : Bx wr w.heap.size x0 x1 x2
  r : Bx wr (w.heap.size + 1) (.slice none 0 0) (.slice none 0 0) (.slice none 0 0)
  t : wr.heap[bt]? = some (.cells bitC 68)
  sz : bt + 1 ≤ wr.heap.size
  bel : Below w.heap.size w wr

section
variable {w wr : World} {bt : Nat} {V : Nat → Prop} {o0 o1 o2 : Nat} {x0 x1 x2 : Value} {L : List Sec}

theorem CrI.putB (h : CrI w bt wr V o0 o1 o2 x0 x1 x2 L) (hV : ∀ k, V k → k < w.heap.size) (hbo : w.heap.size + 2 ≤ o0) (h01 : o0 < o1) (h12 : o1 < o2) (hbt : o2 < bt) (i : Nat) (hi : i < L.length) {ao : Option Addr} {n cap : Nat} {bs : List Nat} (hr : Rd8 wr ao n cap bs) (hin : In wr V ao) :
    CrI w bt (wr.setCell ⟨o0, i, none⟩ (.slice ao n cap)).drew V o0 o1 o2 x0 x1 x2 (L.set i ⟨bs, L[i].s, L[i].l⟩) := by
  refine ⟨(h.c.putB (fun hx => by have := hV _ hx; omega) (by omega) (by omega) i hi hr hin).drew, fun j => ?_, fun j => ?_, fun j => ?_, ?_, ?_, ?_, ?_, ?_⟩
  · show (wr.setCell ⟨o0, i, none⟩ (.slice ao n cap)).frozen? ⟨o0, j, none⟩ = false; rw [World.frozen?_setCell]; exact h.f0 j
  · show (wr.setCell ⟨o0, i, none⟩ (.slice ao n cap)).frozen? ⟨o1, j, none⟩ = false; rw [World.frozen?_setCell]; exact h.f1 j
  · show (wr.setCell ⟨o0, i, none⟩ (.slice ao n cap)).frozen? ⟨o2, j, none⟩ = false; rw [World.frozen?_setCell]; exact h.f2 j
  · exact (h.b.other ⟨o0, i, none⟩ (.slice ao n cap) (by simp; omega)).block rfl (Nat.le_refl _)
  · exact (h.r.other ⟨o0, i, none⟩ (.slice ao n cap) (by simp; omega)).block rfl (Nat.le_refl _)
  · exact (Below.heap_setCell _ _ _ _ (by simp; omega)).trans h.t
  · have := h.sz; simpa [World.setCell] using this
  · exact (h.bel.setCell (by simp; omega) _).drew

theorem CrI.putS (h : CrI w bt wr V o0 o1 o2 x0 x1 x2 L) (hV : ∀ k, V k → k < w.heap.size) (hbo : w.heap.size + 2 ≤ o0) (h01 : o0 < o1) (h12 : o1 < o2) (hbt : o2 < bt) (i : Nat) (hi : i < L.length) {ao : Option Addr} {n cap : Nat} {bs : List Nat} (hr : Rd8 wr ao n cap bs) (hin : In wr V ao) :
    CrI w bt (wr.setCell ⟨o1, i, none⟩ (.slice ao n cap)).drew V o0 o1 o2 x0 x1 x2 (L.set i ⟨L[i].b, bs, L[i].l⟩) := by
  refine ⟨(h.c.putS (fun hx => by have := hV _ hx; omega) (by omega) (by omega) i hi hr hin).drew, fun j => ?_, fun j => ?_, fun j => ?_, ?_, ?_, ?_, ?_, ?_⟩
  · show (wr.setCell ⟨o1, i, none⟩ (.slice ao n cap)).frozen? ⟨o0, j, none⟩ = false; rw [World.frozen?_setCell]; exact h.f0 j
  · show (wr.setCell ⟨o1, i, none⟩ (.slice ao n cap)).frozen? ⟨o1, j, none⟩ = false; rw [World.frozen?_setCell]; exact h.f1 j
  · show (wr.setCell ⟨o1, i, none⟩ (.slice ao n cap)).frozen? ⟨o2, j, none⟩ = false; rw [World.frozen?_setCell]; exact h.f2 j
  · exact (h.b.other ⟨o1, i, none⟩ (.slice ao n cap) (by simp; omega)).block rfl (Nat.le_refl _)
  · exact (h.r.other ⟨o1, i, none⟩ (.slice ao n cap) (by simp; omega)).block rfl (Nat.le_refl _)
  · exact (Below.heap_setCell _ _ _ _ (by simp; omega)).trans h.t
  · have := h.sz; simpa [World.setCell] using this
  · exact (h.bel.setCell (by simp; omega) _).drew

theorem CrI.putL (h : CrI w bt wr V o0 o1 o2 x0 x1 x2 L) (hV : ∀ k, V k → k < w.heap.size) (hbo : w.heap.size + 2 ≤ o0) (h01 : o0 < o1) (h12 : o1 < o2) (hbt : o2 < bt) (i : Nat) (hi : i < L.length) (b : Bool) :
    CrI w bt (wr.setCell ⟨o2, i, none⟩ (.bool b)) V o0 o1 o2 x0 x1 x2 (L.set i ⟨L[i].b, L[i].s, b⟩) := by
  refine ⟨h.c.putL (fun hx => by have := hV _ hx; omega) (by omega) (by omega) i hi b, fun j => ?_, fun j => ?_, fun j => ?_, ?_, ?_, ?_, ?_, ?_⟩
  · rw [World.frozen?_setCell]; exact h.f0 j
  · rw [World.frozen?_setCell]; exact h.f1 j
  · rw [World.frozen?_setCell]; exact h.f2 j
  · exact h.b.other ⟨o2, i, none⟩ (.bool b) (by simp; omega)
  · exact h.r.other ⟨o2, i, none⟩ (.bool b) (by simp; omega)
  · exact (Below.heap_setCell _ _ _ _ (by simp; omega)).trans h.t
  · have := h.sz; simpa [World.setCell] using this
  · exact h.bel.setCell (by simp; omega) _
end

set_option maxRecDepth 100000 in
set_option maxHeartbeats 6400000 in
theorem refCrash_any (V : Nat → Prop) (a0 a1 a2 : Option Addr) (c0 c1 c2 n : Nat) (L : List Sec) (keep : Int) (w : World) (h : Ref w V a0 c0 a1 c1 a2 c2 L) (hn : L.length = n) (hp : 0 < n) :
    Calls Try.prog 18 #[.agg #[.slice a0 n c0, .slice a1 n c1, .slice a2 n c2], .int .i64 keep] w fun e w' => ∃ A0 C0 A1 C1 A2 C2, e = .returned (.agg #[.slice A0 n C0, .slice A1 n C1, .slice A2 n C2]) ∧ Ref w' (fun k => V k ∨ w.heap.size ≤ k) A0 C0 A1 C1 A2 C2 (L.mapIdx (rfate keep)) ∧ Below w.heap.size w w' := by
  have hle := h.le
  have hb1 : Bx ((w.alloc (.cells #[.slice a0 n c0, .slice a1 n c1, .slice a2 n c2] 34)).alloc (.cells #[.slice none 0 0, .slice none 0 0, .slice none 0 0] 34)) w.heap.size (.slice a0 n c0) (.slice a1 n c1) (.slice a2 n c2) :=
    Bx.of (t := 34) (by rw [Below.heap_alloc _ _ _ (by simp)]; exact heap_alloc_new w _)
  have hb2 : Bx ((w.alloc (.cells #[.slice a0 n c0, .slice a1 n c1, .slice a2 n c2] 34)).alloc (.cells #[.slice none 0 0, .slice none 0 0, .slice none 0 0] 34)) (w.heap.size + 1) (.slice none 0 0) (.slice none 0 0) (.slice none 0 0) :=
    Bx.of (t := 34) (by have := heap_alloc_new (w.alloc (.cells #[.slice a0 n c0, .slice a1 n c1, .slice a2 n c2] 34)) (.cells #[.slice none 0 0, .slice none 0 0, .slice none 0 0] 34); simpa using this)
  have hW : Below w.heap.size w ((w.alloc (.cells #[.slice a0 n c0, .slice a1 n c1, .slice a2 n c2] 34)).alloc (.cells #[.slice none 0 0, .slice none 0 0, .slice none 0 0] 34)) := ((Below.refl _ _).alloc (Nat.le_refl _) _).alloc (by simp) _
  have hWs : ((w.alloc (.cells #[.slice a0 n c0, .slice a1 n c1, .slice a2 n c2] 34)).alloc (.cells #[.slice none 0 0, .slice none 0 0, .slice none 0 0] 34)).heap.size = w.heap.size + 2 := by simp
  have HWs : Hid (((w.alloc (.cells #[.slice a0 n c0, .slice a1 n c1, .slice a2 n c2] 34)).alloc (.cells #[.slice none 0 0, .slice none 0 0, .slice none 0 0] 34)).heap.size = w.heap.size + 2) := hWs
  clear hWs
  go_enter Try.func18, Try.ntmps18
  go_wp2_with (go_at_call 27; refine (refCopied_any _ _ _ _ _ _ _ n L _ (h.tight.below hW) hn).mono ?_; rintro e w1 ⟨A0, C0, A1, C1, A2, C2, rfl, hR1, hB1⟩; have hx1 := hb1.below hB1 hb1.lt; have hx2 := hb2.below hB1 hb2.lt; have q0 := hx1.c0; have q1 := hx1.c1; have q2 := hx1.c2; have f0 := hx1.f 0; have f1 := hx1.f 1; have f2 := hx1.f 2; have hxa := (hx1.put (.slice A0 n C0) (.slice A1 n C1) (.slice A2 n C2)).below ((Below.refl _ _).alloc (Nat.le_refl _) (.cells bitC 68)) (hx1.put (.slice A0 n C0) (.slice A1 n C1) (.slice A2 n C2)).lt; have s0 := hxa.c0)
  obtain ⟨o0, o1, o2, rfl, rfl, rfl, hc, hbo, h01, h12, z0, z1, z2⟩ := hR1.pos (by intro e; subst e; simp at hn; omega)
  rw [HWs.out] at hbo
  have hL0 := hR1.s0
  have hL1 := hR1.s1
  have hL2 := hR1.s2
  have hs1 := hB1.size
  rw [HWs.out] at hs1
  have hx1' := hx1.put (.slice (some ⟨o0, 0, none⟩) n C0) (.slice (some ⟨o1, 0, none⟩) n C1) (.slice (some ⟨o2, 0, none⟩) n C2)
  have hx2' := ((hx2.other ⟨w.heap.size, 0, none⟩ (.slice (some ⟨o0, 0, none⟩) n C0) (by simp)).other ⟨w.heap.size, 1, none⟩ (.slice (some ⟨o1, 0, none⟩) n C1) (by simp)).other ⟨w.heap.size, 2, none⟩ (.slice (some ⟨o2, 0, none⟩) n C2) (by simp)
  have nV : ¬ ((V w.heap.size ∧ w.heap.size < w.heap.size) ∧ w.heap.size < ((w.alloc (.cells #[.slice a0 n c0, .slice a1 n c1, .slice a2 n c2] 34)).alloc (.cells #[.slice none 0 0, .slice none 0 0, .slice none 0 0] 34)).heap.size) := fun hx => by omega
  have hc' := ((hc.other ⟨w.heap.size, 0, none⟩ (.slice (some ⟨o0, 0, none⟩) n C0) nV (by simp; omega) (by simp; omega) (by simp; omega)).other ⟨w.heap.size, 1, none⟩ (.slice (some ⟨o1, 0, none⟩) n C1) nV (by simp; omega) (by simp; omega) (by simp; omega)).other ⟨w.heap.size, 2, none⟩ (.slice (some ⟨o2, 0, none⟩) n C2) nV (by simp; omega) (by simp; omega) (by simp; omega)
  have hB2 : Below w.heap.size w (((w1.setCell ⟨w.heap.size, 0, none⟩ (.slice (some ⟨o0, 0, none⟩) n C0)).setCell ⟨w.heap.size, 1, none⟩ (.slice (some ⟨o1, 0, none⟩) n C1)).setCell ⟨w.heap.size, 2, none⟩ (.slice (some ⟨o2, 0, none⟩) n C2)) :=
    (((hW.trans (hB1.mono hW.size)).setCell (Nat.le_refl _) _).setCell (Nat.le_refl _) _).setCell (Nat.le_refl _) _
  have z0' : ∀ j, (((w1.setCell ⟨w.heap.size, 0, none⟩ (.slice (some ⟨o0, 0, none⟩) n C0)).setCell ⟨w.heap.size, 1, none⟩ (.slice (some ⟨o1, 0, none⟩) n C1)).setCell ⟨w.heap.size, 2, none⟩ (.slice (some ⟨o2, 0, none⟩) n C2)).frozen? ⟨o0, j, none⟩ = false := fun j => by rw [World.frozen?_setCell, World.frozen?_setCell, World.frozen?_setCell]; exact z0 j
  have z1' : ∀ j, (((w1.setCell ⟨w.heap.size, 0, none⟩ (.slice (some ⟨o0, 0, none⟩) n C0)).setCell ⟨w.heap.size, 1, none⟩ (.slice (some ⟨o1, 0, none⟩) n C1)).setCell ⟨w.heap.size, 2, none⟩ (.slice (some ⟨o2, 0, none⟩) n C2)).frozen? ⟨o1, j, none⟩ = false := fun j => by rw [World.frozen?_setCell, World.frozen?_setCell, World.frozen?_setCell]; exact z1 j
  have z2' : ∀ j, (((w1.setCell ⟨w.heap.size, 0, none⟩ (.slice (some ⟨o0, 0, none⟩) n C0)).setCell ⟨w.heap.size, 1, none⟩ (.slice (some ⟨o1, 0, none⟩) n C1)).setCell ⟨w.heap.size, 2, none⟩ (.slice (some ⟨o2, 0, none⟩) n C2)).frozen? ⟨o2, j, none⟩ = false := fun j => by rw [World.frozen?_setCell, World.frozen?_setCell, World.frozen?_setCell]; exact z2 j
  have hs2 : w.heap.size + 2 ≤ (((w1.setCell ⟨w.heap.size, 0, none⟩ (.slice (some ⟨o0, 0, none⟩) n C0)).setCell ⟨w.heap.size, 1, none⟩ (.slice (some ⟨o1, 0, none⟩) n C1)).setCell ⟨w.heap.size, 2, none⟩ (.slice (some ⟨o2, 0, none⟩) n C2)).heap.size := by simp [World.setCell]; exact hs1
  have hc' := hc'.mono (U := fun k => V k ∧ k < w.heap.size) fun k _ hk => hk.1
  have hw12 : (((w1.setCell ⟨w.heap.size, 0, none⟩ (.slice (some ⟨o0, 0, none⟩) n C0)).setCell ⟨w.heap.size, 1, none⟩ (.slice (some ⟨o1, 0, none⟩) n C1)).setCell ⟨w.heap.size, 2, none⟩ (.slice (some ⟨o2, 0, none⟩) n C2)).heap.size = w1.heap.size := by simp [World.setCell]
  have HS2 : Hid ((((w1.setCell ⟨w.heap.size, 0, none⟩ (.slice (some ⟨o0, 0, none⟩) n C0)).setCell ⟨w.heap.size, 1, none⟩ (.slice (some ⟨o1, 0, none⟩) n C1)).setCell ⟨w.heap.size, 2, none⟩ (.slice (some ⟨o2, 0, none⟩) n C2)).heap.size = w1.heap.size) := hw12
  clear hw12 hxa s0
  clear hR1 hB1 hx1 hx2 q0 q1 q2 f0 f1 f2 hc z0 z1 z2 nV
  generalize (((w1.setCell ⟨w.heap.size, 0, none⟩ (.slice (some ⟨o0, 0, none⟩) n C0)).setCell ⟨w.heap.size, 1, none⟩ (.slice (some ⟨o1, 0, none⟩) n C1)).setCell ⟨w.heap.size, 2, none⟩ (.slice (some ⟨o2, 0, none⟩) n C2)) = W2 at *
  have hlt2 := hc'.lt
  rw [HS2.out] at hlt2
  have hC0 : CrI w w1.heap.size (W2.alloc (.cells bitC 68)) (fun k => V k ∧ k < w.heap.size) o0 o1 o2 (.slice (some ⟨o0, 0, none⟩) n C0) (.slice (some ⟨o1, 0, none⟩) n C1) (.slice (some ⟨o2, 0, none⟩) n C2) L := by
    have hba : Below W2.heap.size W2 (W2.alloc (.cells bitC 68)) := (Below.refl _ _).alloc (Nat.le_refl _) _
    refine ⟨hc'.below hba, fun j => (hba.frozen (p := ⟨o0, j, none⟩) hc'.lt.1).trans (z0' j), fun j => (hba.frozen (p := ⟨o1, j, none⟩) hc'.lt.2.1).trans (z1' j), fun j => (hba.frozen (p := ⟨o2, j, none⟩) hc'.lt.2.2).trans (z2' j), hx1'.below hba hx1'.lt, hx2'.below hba hx2'.lt, ?_, by simp [HS2.out], hB2.alloc hB2.size _⟩
    have := heap_alloc_new W2 (.cells bitC 68)
    rwa [HS2.out] at this
  have HC0 : Hid (CrI w w1.heap.size (W2.alloc (.cells bitC 68)) (fun k => V k ∧ k < w.heap.size) o0 o1 o2 (.slice (some ⟨o0, 0, none⟩) n C0) (.slice (some ⟨o1, 0, none⟩) n C1) (.slice (some ⟨o2, 0, none⟩) n C2) L) := hC0
  clear hC0 z0' z1' z2' hc' hx1' hx2' hb1 hb2
  go_loopw [13] (fun t wr => ∃ k : Nat, k ≤ n ∧ t = .int .i64 k ∧ Hid (CrI w w1.heap.size wr (fun k => V k ∧ k < w.heap.size) o0 o1 o2 (.slice (some ⟨o0, 0, none⟩) n C0) (.slice (some ⟨o1, 0, none⟩) n C1) (.slice (some ⟨o2, 0, none⟩) n C2) (upTo (rfate keep) k L))) (fun t _ => n - (intOf t).toNat)
  case atStart => exact ⟨0, Nat.zero_le _, rfl, by rw [upTo_zero]; exact HC0.out⟩
  case round =>
    obtain ⟨k, hk, rfl, HI⟩ := hrel
    have hb := HI.out.b
    have q0 := hb.c0
    have q1 := hb.c1
    have q2 := hb.c2
    by_cases hlt : k < n
    · have hkl : k < (upTo (rfate keep) k L).length := by rw [upTo_length]; omega
      have hcl := HI.out.c.cl k hkl
      obtain ⟨ab, mb, cb, hcb, hrb, hib⟩ := HI.out.c.cb k hkl
      obtain ⟨ax, mx, cx, hcs, hrs, his⟩ := HI.out.c.cs k hkl
      have hcbit := bit_cell HI.out.t k (by omega)
      rw [upTo_at] at hcl hrb hrs
      have hlt' : (k : Int) < (n : Int) := by omega
      have hk6 : k < 6 := by omega
      have hf1 := HI.out.f1 k
      have hf0 := HI.out.f0 k
      have hf2 := HI.out.f2 k
      have hlto := HI.out.c.lt
      have HCb : Hid (∀ W' : World, W'.heap[w.heap.size]? = wr.heap[w.heap.size]? → W'.heap[o0]? = wr.heap[o0]? → W'.cell? ⟨w.heap.size, 0, none⟩ = some (.slice (some ⟨o0, 0, none⟩) n C0) ∧ W'.cell? ⟨w.heap.size, 1, none⟩ = some (.slice (some ⟨o1, 0, none⟩) n C1) ∧ W'.cell? ⟨o0, k, none⟩ = some (.slice ab mb cb)) :=
        fun W' e1 e2 => ⟨(World.cell?_of_block (w := wr) e1).trans q0, (World.cell?_of_block (w := wr) e1).trans q1, (World.cell?_of_block (w := wr) e2).trans hcb⟩
      have HCs : Hid (∀ W' : World, W'.heap[w.heap.size]? = wr.heap[w.heap.size]? → W'.heap[o1]? = wr.heap[o1]? → W'.cell? ⟨w.heap.size, 0, none⟩ = some (.slice (some ⟨o0, 0, none⟩) n C0) ∧ W'.cell? ⟨w.heap.size, 1, none⟩ = some (.slice (some ⟨o1, 0, none⟩) n C1) ∧ W'.cell? ⟨o1, k, none⟩ = some (.slice ax mx cx)) :=
        fun W' e1 e2 => ⟨(World.cell?_of_block (w := wr) e1).trans q0, (World.cell?_of_block (w := wr) e1).trans q1, (World.cell?_of_block (w := wr) e2).trans hcs⟩
      cases hxl : (L[k]'(by omega)).l
      · rw [hxl] at hcl
        · go_wp2
          first
            | go_region_held_law (fun W' => W'.cell? ⟨w.heap.size, 0, none⟩ = some (.slice (some ⟨o0, 0, none⟩) n C0) ∧ W'.cell? ⟨w.heap.size, 1, none⟩ = some (.slice (some ⟨o1, 0, none⟩) n C1) ∧ W'.cell? ⟨o1, k, none⟩ = some (.slice ax mx cx))
                (first | exact HCs.out _ rfl rfl | exact HCs.out _ (Below.heap_setCell _ _ _ _ (by simp; omega)) (Below.heap_setCell _ _ _ _ (by simp; omega)) | fail)
                (fail)
            | fail
          have hI2 := HI.out.putB (fun _ hk => hk.2) hbo h01 h12 hlt2.2.2 k hkl hrs his
          clear HCb HCs hcb hcs hf0 hf1 hcl hcbit q0 q1 q2 hb hrb hrs hib his HI hlto
          generalize (wr.setCell ⟨o0, k, none⟩ (.slice ax mx cx)).drew = W4 at *
          have q2 := hI2.b.c2
          have hcl2 := hI2.c.cl k (by simp; exact hkl)
          have hf2' := hI2.f2 k
          have hI3 := hI2.putL (fun _ hk => hk.2) hbo h01 h12 hlt2.2.2 k (by simp; exact hkl) false
          have HI3 := (show Hid _ from hI3)
          clear hI3
          go_wp2
          go_roundw
          case rel =>
            refine ⟨k + 1, by omega, by go_num, ?_⟩
            have := HI3.out
            rw [← upTo_succ (rfate keep) k L (by omega), show rfate keep k (L[k]'(by omega)) = ⟨(L[k]).s, (L[k]).s, false⟩ from by unfold rfate; rw [if_neg (by rw [hxl]; simp)]]
            unfold Hid
            simpa [upTo_at] using this
          case measure => simp [intOf]; omega
      · rw [hxl] at hcl
        by_cases hz : bits .and .i64 keep ((2 : Int) ^ k) = 0
        · have hz' : (bits .and .i64 keep ((2 : Int) ^ k) == 0) = true := by simp [hz]
          generalize hgz : bits .and .i64 keep ((2 : Int) ^ k) = zz at *
          go_wp2
          first
            | go_region_held_law (fun W' => W'.cell? ⟨w.heap.size, 0, none⟩ = some (.slice (some ⟨o0, 0, none⟩) n C0) ∧ W'.cell? ⟨w.heap.size, 1, none⟩ = some (.slice (some ⟨o1, 0, none⟩) n C1) ∧ W'.cell? ⟨o1, k, none⟩ = some (.slice ax mx cx))
                (first | exact HCs.out _ rfl rfl | exact HCs.out _ (Below.heap_setCell _ _ _ _ (by simp; omega)) (Below.heap_setCell _ _ _ _ (by simp; omega)) | fail)
                (fail)
            | fail
          have hI2 := HI.out.putB (fun _ hk => hk.2) hbo h01 h12 hlt2.2.2 k hkl hrs his
          clear HCb HCs hcb hcs hf0 hf1 hcl hcbit q0 q1 q2 hb hrb hrs hib his HI hlto
          generalize (wr.setCell ⟨o0, k, none⟩ (.slice ax mx cx)).drew = W4 at *
          have q2 := hI2.b.c2
          have hcl2 := hI2.c.cl k (by simp; exact hkl)
          have hf2' := hI2.f2 k
          have hI3 := hI2.putL (fun _ hk => hk.2) hbo h01 h12 hlt2.2.2 k (by simp; exact hkl) false
          have HI3 := (show Hid _ from hI3)
          clear hI3
          go_wp2
          go_roundw
          case rel =>
            refine ⟨k + 1, by omega, by go_num, ?_⟩
            have := HI3.out
            rw [← upTo_succ (rfate keep) k L (by omega), show rfate keep k (L[k]'(by omega)) = ⟨(L[k]).s, (L[k]).s, false⟩ from by unfold rfate; rw [if_neg (by rw [hgz]; simp [hz])]]
            unfold Hid
            simpa [upTo_at] using this
          case measure => simp [intOf]; omega
        · have hz' : (bits .and .i64 keep ((2 : Int) ^ k) == 0) = false := by simpa using hz
          go_wp2
          first
            | go_region_held_law (fun W' => W'.cell? ⟨w.heap.size, 0, none⟩ = some (.slice (some ⟨o0, 0, none⟩) n C0) ∧ W'.cell? ⟨w.heap.size, 1, none⟩ = some (.slice (some ⟨o1, 0, none⟩) n C1) ∧ W'.cell? ⟨o0, k, none⟩ = some (.slice ab mb cb))
                (first | exact HCb.out _ rfl rfl | exact HCb.out _ (Below.heap_setCell _ _ _ _ (by simp; omega)) (Below.heap_setCell _ _ _ _ (by simp; omega)) | fail)
                (fail)
            | fail
          have hI2 := HI.out.putS (fun _ hk => hk.2) hbo h01 h12 hlt2.2.2 k hkl hrb hib
          clear HCb HCs hcb hcs hf0 hf1 hcl hcbit q0 q1 q2 hb hrb hrs hib his HI hlto
          generalize (wr.setCell ⟨o1, k, none⟩ (.slice ab mb cb)).drew = W4 at *
          have q2 := hI2.b.c2
          have hcl2 := hI2.c.cl k (by simp; exact hkl)
          have hf2' := hI2.f2 k
          have hI3 := hI2.putL (fun _ hk => hk.2) hbo h01 h12 hlt2.2.2 k (by simp; exact hkl) false
          have HI3 := (show Hid _ from hI3)
          clear hI3
          go_wp2
          go_roundw
          case rel =>
            refine ⟨k + 1, by omega, by go_num, ?_⟩
            have := HI3.out
            rw [← upTo_succ (rfate keep) k L (by omega), show rfate keep k (L[k]'(by omega)) = ⟨(L[k]).b, (L[k]).b, false⟩ from by unfold rfate; rw [if_pos ⟨hxl, hz⟩]]
            unfold Hid
            simpa [upTo_at] using this
          case measure => simp [intOf]; omega
    · have hk' : n ≤ k := by omega
      have hr := HI.out.r
      have u0 := hr.c0
      have u1 := hr.c1
      have u2 := hr.c2
      have g0 := hr.f 0
      have g1 := hr.f 1
      have g2 := hr.f 2
      have hres := hr.put (.slice (some ⟨o0, 0, none⟩) n C0) (.slice (some ⟨o1, 0, none⟩) n C1) (.slice (some ⟨o2, 0, none⟩) n C2)
      have p0 := hres.c0
      have p1 := hres.c1
      have p2 := hres.c2
      have hcC := ((HI.out.c.other ⟨w.heap.size + 1, 0, none⟩ (.slice (some ⟨o0, 0, none⟩) n C0) (by simp <;> omega) (by simp <;> omega) (by simp <;> omega) (by simp <;> omega)).other ⟨w.heap.size + 1, 1, none⟩ (.slice (some ⟨o1, 0, none⟩) n C1) (by simp <;> omega) (by simp <;> omega) (by simp <;> omega) (by simp <;> omega)).other ⟨w.heap.size + 1, 2, none⟩ (.slice (some ⟨o2, 0, none⟩) n C2) (by simp <;> omega) (by simp <;> omega) (by simp <;> omega) (by simp <;> omega)
      have hBC := ((HI.out.bel.setCell (p := ⟨w.heap.size + 1, 0, none⟩) (by simp) (.slice (some ⟨o0, 0, none⟩) n C0)).setCell (p := ⟨w.heap.size + 1, 1, none⟩) (by simp) (.slice (some ⟨o1, 0, none⟩) n C1)).setCell (p := ⟨w.heap.size + 1, 2, none⟩) (by simp) (.slice (some ⟨o2, 0, none⟩) n C2)
      have HCC := (show Hid _ from hcC)
      have HBC := (show Hid _ from hBC)
      clear hcC hBC
      go_wp2
      refine bodyPost_ret (by simp [results, Try.results18, go_sem, p0, p1, p2]; try rfl) rfl ?_
      have hcF := HCC.out
      rw [upTo_all _ k L (by omega)] at hcF
      have sl : (L.mapIdx (rfate keep)).length = L.length := by simp
      exact ⟨_, _, _, _, _, _, rfl, ⟨by rw [sl]; exact hle, by rw [sl]; exact hL0, by rw [sl]; exact hL1, by rw [sl]; exact hL2, fun _ => ⟨o0, o1, o2, rfl, rfl, rfl, hcF.mono (fun k _ hk => .inl hk.1), .inr (by omega), .inr (by omega), .inr (by omega)⟩⟩, HBC.out⟩

set_option maxRecDepth 100000 in
set_option maxHeartbeats 6400000 in
theorem refCrash_zero (V : Nat → Prop) (a0 a1 a2 : Option Addr) (c0 c1 c2 : Nat) (keep : Int) (w : World) (h : Ref w V a0 c0 a1 c1 a2 c2 []) :
    Calls Try.prog 18 #[.agg #[.slice a0 0 c0, .slice a1 0 c1, .slice a2 0 c2], .int .i64 keep] w fun e w' => ∃ A0 C0 A1 C1 A2 C2, e = .returned (.agg #[.slice A0 0 C0, .slice A1 0 C1, .slice A2 0 C2]) ∧ Ref w' (fun k => V k ∨ w.heap.size ≤ k) A0 C0 A1 C1 A2 C2 [] ∧ Below w.heap.size w w' := by
  have hb1 : Bx ((w.alloc (.cells #[.slice a0 0 c0, .slice a1 0 c1, .slice a2 0 c2] 34)).alloc (.cells #[.slice none 0 0, .slice none 0 0, .slice none 0 0] 34)) w.heap.size (.slice a0 0 c0) (.slice a1 0 c1) (.slice a2 0 c2) :=
    Bx.of (t := 34) (by rw [Below.heap_alloc _ _ _ (by simp)]; exact heap_alloc_new w _)
  have hb2 : Bx ((w.alloc (.cells #[.slice a0 0 c0, .slice a1 0 c1, .slice a2 0 c2] 34)).alloc (.cells #[.slice none 0 0, .slice none 0 0, .slice none 0 0] 34)) (w.heap.size + 1) (.slice none 0 0) (.slice none 0 0) (.slice none 0 0) :=
    Bx.of (t := 34) (by have := heap_alloc_new (w.alloc (.cells #[.slice a0 0 c0, .slice a1 0 c1, .slice a2 0 c2] 34)) (.cells #[.slice none 0 0, .slice none 0 0, .slice none 0 0] 34); simpa using this)
  have hW : Below w.heap.size w ((w.alloc (.cells #[.slice a0 0 c0, .slice a1 0 c1, .slice a2 0 c2] 34)).alloc (.cells #[.slice none 0 0, .slice none 0 0, .slice none 0 0] 34)) := ((Below.refl _ _).alloc (Nat.le_refl _) _).alloc (by simp) _
  have hWs : ((w.alloc (.cells #[.slice a0 0 c0, .slice a1 0 c1, .slice a2 0 c2] 34)).alloc (.cells #[.slice none 0 0, .slice none 0 0, .slice none 0 0] 34)).heap.size = w.heap.size + 2 := by simp
  have HWs : Hid (((w.alloc (.cells #[.slice a0 0 c0, .slice a1 0 c1, .slice a2 0 c2] 34)).alloc (.cells #[.slice none 0 0, .slice none 0 0, .slice none 0 0] 34)).heap.size = w.heap.size + 2) := hWs
  clear hWs
  go_enter Try.func18, Try.ntmps18
  go_wp2_with (go_at_call 27; refine (refCopied_any _ _ _ _ _ _ _ 0 [] _ (h.tight.below hW) rfl).mono ?_; rintro e w1 ⟨A0, C0, A1, C1, A2, C2, rfl, hR1, hB1⟩; have hx1 := hb1.below hB1 hb1.lt; have hx2 := hb2.below hB1 hb2.lt; have q0 := hx1.c0; have q1 := hx1.c1; have q2 := hx1.c2; have f0 := hx1.f 0; have f1 := hx1.f 1; have f2 := hx1.f 2; have hxa := (hx1.put (.slice A0 0 C0) (.slice A1 0 C1) (.slice A2 0 C2)).below ((Below.refl _ _).alloc (Nat.le_refl _) (.cells bitC 68)) (hx1.put (.slice A0 0 C0) (.slice A1 0 C1) (.slice A2 0 C2)).lt; have s0 := hxa.c0)
  have hs1 := hB1.size
  rw [HWs.out] at hs1
  have hx2a := (((hx2.other ⟨w.heap.size, 0, none⟩ (.slice A0 0 C0) (by simp)).other ⟨w.heap.size, 1, none⟩ (.slice A1 0 C1) (by simp)).other ⟨w.heap.size, 2, none⟩ (.slice A2 0 C2) (by simp)).below ((Below.refl _ _).alloc (Nat.le_refl _) (.cells bitC 68)) (by simp [World.setCell]; omega)
  have hBW : Below w.heap.size w ((((w1.setCell ⟨w.heap.size, 0, none⟩ (.slice A0 0 C0)).setCell ⟨w.heap.size, 1, none⟩ (.slice A1 0 C1)).setCell ⟨w.heap.size, 2, none⟩ (.slice A2 0 C2)).alloc (.cells bitC 68)) :=
    ((((hW.trans (hB1.mono hW.size)).setCell (Nat.le_refl _) _).setCell (Nat.le_refl _) _).setCell (Nat.le_refl _) _).alloc (by simp [World.setCell]; omega) _
  have hR := hR1
  clear hx1 hx2 q0 q1 q2 f0 f1 f2 hB1 hR1 s0
  generalize (((w1.setCell ⟨w.heap.size, 0, none⟩ (.slice A0 0 C0)).setCell ⟨w.heap.size, 1, none⟩ (.slice A1 0 C1)).setCell ⟨w.heap.size, 2, none⟩ (.slice A2 0 C2)).alloc (.cells bitC 68) = W3 at *
  go_loopw [13] (fun t wr => t = .int .i64 0 ∧ wr = W3) (fun _ _ => 0)
  case atStart => exact ⟨rfl, rfl⟩
  case round =>
    obtain ⟨rfl, rfl⟩ := hrel
    have r0 := hxa.c0
    have r1 := hxa.c1
    have r2 := hxa.c2
    have u0 := hx2a.c0
    have u1 := hx2a.c1
    have u2 := hx2a.c2
    have g0 := hx2a.f 0
    have g1 := hx2a.f 1
    have g2 := hx2a.f 2
    have hres := hx2a.put (.slice A0 0 C0) (.slice A1 0 C1) (.slice A2 0 C2)
    have p0 := hres.c0
    have p1 := hres.c1
    have p2 := hres.c2
    have hBC := ((hBW.setCell (p := ⟨w.heap.size + 1, 0, none⟩) (by simp) (.slice A0 0 C0)).setCell (p := ⟨w.heap.size + 1, 1, none⟩) (by simp) (.slice A1 0 C1)).setCell (p := ⟨w.heap.size + 1, 2, none⟩) (by simp) (.slice A2 0 C2)
    have HBC := (show Hid _ from hBC)
    clear hBC
    go_wp2
    refine bodyPost_ret (by simp [results, Try.results18, go_sem, p0, p1, p2]; try rfl) rfl ?_
    exact ⟨_, _, _, _, _, _, rfl, ⟨by simp, hR.s0, hR.s1, hR.s2, fun hx => absurd rfl hx⟩, HBC.out⟩

end Go.Proofs.Ytnapkcejpllmcaa
