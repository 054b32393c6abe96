/- The reference's Write, walked. -/
import Derived.Test.YtnapkcejpllmcaaR3
import Derived.Test.YtnapkcejpllmcaaR4
import Derived.Test.YtnapkcejpllmcaaR5
import Derived.Test.YtnapkcejpllmcaaSg
namespace Go.Proofs.Ytnapkcejpllmcaa
open Go.RowKit
set_option linter.unusedVariables false

set_option maxHeartbeats 1600000 in
theorem refWrite_bad (a0 a1 a2 : Option Addr) (c0 c1 c2 n : Nat) (L : List Sec) (i : Int) (ao : Option Addr) (m cap : Nat) (w : World) (hn : L.length = n) (hbad : hasB L i = false ∨ 100 < m) :
    Calls Try.prog 14 #[.agg #[.slice a0 n c0, .slice a1 n c1, .slice a2 n c2], .int .i64 i, .slice ao m cap] w fun e w' => e = .returned (.tuple #[.agg #[.slice a0 n c0, .slice a1 n c1, .slice a2 n c2], .int .i64 51]) ∧ Below w.heap.size w w' := by
  by_cases h0 : i < 0
  · go_enter Try.func14, Try.ntmps14
    go_wp2
    go_returns
    exact ⟨rfl, by go_grown⟩
  · by_cases h1 : i < (n : Int)
    · have hm : 100 < m := by
        rcases hbad with hb | hb
        · rcases hasB_f hb with h | h <;> omega
        · exact hb
      go_enter Try.func14, Try.ntmps14
      go_wp2
      go_returns
      exact ⟨rfl, by go_grown⟩
    · go_enter Try.func14, Try.ntmps14
      go_wp2
      go_returns
      exact ⟨rfl, by go_grown⟩

set_option maxRecDepth 100000 in
set_option maxHeartbeats 3200000 in
theorem refWrite_ok (V : Nat → Prop) (a0 a1 a2 : Option Addr) (c0 c1 c2 n : Nat) (L : List Sec) (i : Nat) (ao : Option Addr) (m cap : Nat) (bs : List Nat) (w : World) (h : Ref w V a0 c0 a1 c1 a2 c2 L) (hn : L.length = n) (hi : i < n) (hr : Rd8 w ao m cap bs) (hm : m ≤ 100) :
    Calls Try.prog 14 #[.agg #[.slice a0 n c0, .slice a1 n c1, .slice a2 n c2], .int .i64 (i : Int), .slice ao m cap] w fun e w' => ∃ A0 C0 A1 C1 A2 C2, e = .returned (.tuple #[.agg #[.slice A0 n C0, .slice A1 n C1, .slice A2 n C2], .int .i64 0]) ∧ Ref w' (fun k => V k ∨ w.heap.size ≤ k) A0 C0 A1 C1 A2 C2 (L.set i (L[i].wrote bs)) ∧ Below w.heap.size w w' := by
  have hle := h.le
  have hml := hr.len
  have hb1 : Bx ((w.alloc (.cells #[.slice a0 n c0, .slice a1 n c1, .slice a2 n c2] 34)).alloc (.cells #[.slice none 0 0, .slice none 0 0, .slice none 0 0] 34)) w.heap.size (.slice a0 n c0) (.slice a1 n c1) (.slice a2 n c2) :=
    Bx.of (t := 34) (by rw [Below.heap_alloc _ _ _ (by simp)]; exact heap_alloc_new w _)
  have hb2 : Bx ((w.alloc (.cells #[.slice a0 n c0, .slice a1 n c1, .slice a2 n c2] 34)).alloc (.cells #[.slice none 0 0, .slice none 0 0, .slice none 0 0] 34)) (w.heap.size + 1) (.slice none 0 0) (.slice none 0 0) (.slice none 0 0) :=
    Bx.of (t := 34) (by have := heap_alloc_new (w.alloc (.cells #[.slice a0 n c0, .slice a1 n c1, .slice a2 n c2] 34)) (.cells #[.slice none 0 0, .slice none 0 0, .slice none 0 0] 34); simpa using this)
  have hW : Below w.heap.size w ((w.alloc (.cells #[.slice a0 n c0, .slice a1 n c1, .slice a2 n c2] 34)).alloc (.cells #[.slice none 0 0, .slice none 0 0, .slice none 0 0] 34)) := ((Below.refl _ _).alloc (Nat.le_refl _) _).alloc (by simp) _
  have hWs : ((w.alloc (.cells #[.slice a0 n c0, .slice a1 n c1, .slice a2 n c2] 34)).alloc (.cells #[.slice none 0 0, .slice none 0 0, .slice none 0 0] 34)).heap.size = w.heap.size + 2 := by simp
  have HWs : Hid (((w.alloc (.cells #[.slice a0 n c0, .slice a1 n c1, .slice a2 n c2] 34)).alloc (.cells #[.slice none 0 0, .slice none 0 0, .slice none 0 0] 34)).heap.size = w.heap.size + 2) := hWs
  clear hWs
  go_enter Try.func14, Try.ntmps14
  go_wp2_with (go_at_call 27; refine (refCopied_any _ _ _ _ _ _ _ n L _ (h.tight.below hW) hn).mono ?_; rintro e w1 ⟨A0, C0, A1, C1, A2, C2, rfl, hR1, hB1⟩; have hx1 := hb1.below hB1 hb1.lt; have hx2 := hb2.below hB1 hb2.lt; have q0 := hx1.c0; have q1 := hx1.c1; have q2 := hx1.c2; have f0 := hx1.f 0; have f1 := hx1.f 1; have f2 := hx1.f 2)
  obtain ⟨o0, o1, o2, rfl, rfl, rfl, hc, hbo, h01, h12, z0, z1, z2⟩ := hR1.pos (by intro e; subst e; simp at hn; omega)
  rw [HWs.out] at hbo
  have hL0 := hR1.s0
  have hL1 := hR1.s1
  have hL2 := hR1.s2
  have hs1 := hB1.size
  rw [HWs.out] at hs1
  have hx1' := hx1.put (.slice (some ⟨o0, 0, none⟩) n C0) (.slice (some ⟨o1, 0, none⟩) n C1) (.slice (some ⟨o2, 0, none⟩) n C2)
  have hx2' := ((hx2.other ⟨w.heap.size, 0, none⟩ (.slice (some ⟨o0, 0, none⟩) n C0) (by simp)).other ⟨w.heap.size, 1, none⟩ (.slice (some ⟨o1, 0, none⟩) n C1) (by simp)).other ⟨w.heap.size, 2, none⟩ (.slice (some ⟨o2, 0, none⟩) n C2) (by simp)
  have nV : ¬ ((V w.heap.size ∧ w.heap.size < w.heap.size) ∧ w.heap.size < ((w.alloc (.cells #[.slice a0 n c0, .slice a1 n c1, .slice a2 n c2] 34)).alloc (.cells #[.slice none 0 0, .slice none 0 0, .slice none 0 0] 34)).heap.size) := fun hx => by omega
  have hc' := ((hc.other ⟨w.heap.size, 0, none⟩ (.slice (some ⟨o0, 0, none⟩) n C0) nV (by simp; omega) (by simp; omega) (by simp; omega)).other ⟨w.heap.size, 1, none⟩ (.slice (some ⟨o1, 0, none⟩) n C1) nV (by simp; omega) (by simp; omega) (by simp; omega)).other ⟨w.heap.size, 2, none⟩ (.slice (some ⟨o2, 0, none⟩) n C2) nV (by simp; omega) (by simp; omega) (by simp; omega)
  have hB2 : Below w.heap.size w (((w1.setCell ⟨w.heap.size, 0, none⟩ (.slice (some ⟨o0, 0, none⟩) n C0)).setCell ⟨w.heap.size, 1, none⟩ (.slice (some ⟨o1, 0, none⟩) n C1)).setCell ⟨w.heap.size, 2, none⟩ (.slice (some ⟨o2, 0, none⟩) n C2)) :=
    (((hW.trans (hB1.mono hW.size)).setCell (Nat.le_refl _) _).setCell (Nat.le_refl _) _).setCell (Nat.le_refl _) _
  have z0' : ∀ j, (((w1.setCell ⟨w.heap.size, 0, none⟩ (.slice (some ⟨o0, 0, none⟩) n C0)).setCell ⟨w.heap.size, 1, none⟩ (.slice (some ⟨o1, 0, none⟩) n C1)).setCell ⟨w.heap.size, 2, none⟩ (.slice (some ⟨o2, 0, none⟩) n C2)).frozen? ⟨o0, j, none⟩ = false := fun j => by rw [World.frozen?_setCell, World.frozen?_setCell, World.frozen?_setCell]; exact z0 j
  have z2' : ∀ j, (((w1.setCell ⟨w.heap.size, 0, none⟩ (.slice (some ⟨o0, 0, none⟩) n C0)).setCell ⟨w.heap.size, 1, none⟩ (.slice (some ⟨o1, 0, none⟩) n C1)).setCell ⟨w.heap.size, 2, none⟩ (.slice (some ⟨o2, 0, none⟩) n C2)).frozen? ⟨o2, j, none⟩ = false := fun j => by rw [World.frozen?_setCell, World.frozen?_setCell, World.frozen?_setCell]; exact z2 j
  have hs2 : w.heap.size + 2 ≤ (((w1.setCell ⟨w.heap.size, 0, none⟩ (.slice (some ⟨o0, 0, none⟩) n C0)).setCell ⟨w.heap.size, 1, none⟩ (.slice (some ⟨o1, 0, none⟩) n C1)).setCell ⟨w.heap.size, 2, none⟩ (.slice (some ⟨o2, 0, none⟩) n C2)).heap.size := by simp [World.setCell]; exact hs1
  have hc' := hc'.mono (U := fun k => V k ∧ k < w.heap.size) fun k _ hk => hk.1
  clear hR1 hB1 hx1 hx2 q0 q1 q2 f0 f1 f2 hc z0 z1 z2 nV
  generalize (((w1.setCell ⟨w.heap.size, 0, none⟩ (.slice (some ⟨o0, 0, none⟩) n C0)).setCell ⟨w.heap.size, 1, none⟩ (.slice (some ⟨o1, 0, none⟩) n C1)).setCell ⟨w.heap.size, 2, none⟩ (.slice (some ⟨o2, 0, none⟩) n C2)) = W2 at *
  have hlt2 := hc'.lt
  have HC : Hid (∀ W' : World, W'.heap[w.heap.size]? = W2.heap[w.heap.size]? → W'.cell? ⟨w.heap.size, 0, none⟩ = some (.slice (some ⟨o0, 0, none⟩) n C0)) := fun W' hh => (World.cell?_of_block (w := W2) hh).trans hx1'.c0
  have hrW := hr.below hB2
  have HZ0 : Hid (∀ j, W2.frozen? ⟨o0, j, none⟩ = false) := z0'
  have HZ2 : Hid (∀ j, W2.frozen? ⟨o2, j, none⟩ = false) := z2'
  clear z0' z2' hb1 hb2
  first
    | go_region_held_law (fun W' => W'.cell? ⟨w.heap.size, 0, none⟩ = some (.slice (some ⟨o0, 0, none⟩) n C0))
        (first | exact HC.out _ rfl | exact HC.out _ (Below.heap_alloc _ _ _ (by omega)) | exact HC.out _ hN3 | exact HC.out _ ((Below.heap_setCell _ _ _ _ (by simp; omega)).trans hN3) | fail)
        ((refine step_append_rdI (n := 0) (m := m) _ (by rfl) _ _ _ (by rfl) W2.heap.size 5 .u8 (.int .u8 0) 1 Try.underlying22 info5 rfl (by rfl) (by rfl) (OwnI.fresh W2 _ _ _ (Nat.le_refl _)) (RdI.drew (hrW.alloc _).rd) rfl (by rw [ci_length]; exact hml) (by omega) (by unfold maxLen; omega) (by simp) ?_; intro ao3 cap3 w3 ho3 hb3; have hO3 := Own8.mk ho3 hml hr.byte; have hB3 : Below W2.heap.size W2 w3 := ((Below.refl _ _).alloc (Nat.le_refl _) (.cells #[] 5)).trans ⟨hb3.os, hb3.tape, hb3.output, hb3.size, hb3.block⟩; have hN3 := hB3.block w.heap.size (by omega); have hc3 := hc'.below hB3; have hfz0 : w3.frozen? ⟨o0, i, none⟩ = false := (hB3.frozen (p := ⟨o0, i, none⟩) hlt2.1).trans (HZ0.out i); obtain ⟨ay, my, cy, hcy, _, _⟩ := hc3.cb i (by omega)))
    | fail
  have hs3 := hB3.size
  have hb1q := (hx1'.below hB3 (by omega)).other ⟨o0, i, none⟩ (.slice ao3 m cap3) (by simp; omega)
  have hb2q := (hx2'.below hB3 (by omega)).other ⟨o0, i, none⟩ (.slice ao3 m cap3) (by simp; omega)
  have hcA := (hc3.mono (U := fun k => (V k ∧ k < w.heap.size) ∨ W2.heap.size ≤ k) fun _ _ hk => .inl hk).putB (by omega) (by omega) (by omega) i (by omega) hO3.rd (hO3.inn.mono (Nat.le_refl _) fun k _ hk => .inr hk)
  have hfz2 : (w3.setCell ⟨o0, i, none⟩ (.slice ao3 m cap3)).frozen? ⟨o2, i, none⟩ = false := by rw [World.frozen?_setCell]; exact (hB3.frozen (p := ⟨o2, i, none⟩) hlt2.2.2).trans (HZ2.out i)
  have hBA : Below w.heap.size w (w3.setCell ⟨o0, i, none⟩ (.slice ao3 m cap3)) := (below_step hB2 hB3).setCell (by simp; omega) _
  clear hc3 hcy hfz0 ho3 hO3 hN3 HZ0 HZ2 HC hx1' hx2' hB3 hb3 hc' hrW
  generalize (w3.setCell ⟨o0, i, none⟩ (.slice ao3 m cap3)) = W3 at *
  have hcl := hcA.cl i (by simp; omega)
  have r2 := hb1q.c2
  have hb1r := hb1q.other ⟨o2, i, none⟩ (.bool true) (by simp; omega)
  have hb2r := hb2q.other ⟨o2, i, none⟩ (.bool true) (by simp; omega)
  have t0 := hb1r.c0
  have t1 := hb1r.c1
  have t2 := hb1r.c2
  have u0 := hb2r.c0
  have u1 := hb2r.c1
  have u2 := hb2r.c2
  have g0 := hb2r.f 0
  have g1 := hb2r.f 1
  have g2 := hb2r.f 2
  have hcB := hcA.putL (by omega) (by omega) (by omega) i (by simp; omega) true
  have hres := hb2r.put (.slice (some ⟨o0, 0, none⟩) n C0) (.slice (some ⟨o1, 0, none⟩) n C1) (.slice (some ⟨o2, 0, none⟩) n C2)
  have p0 := hres.c0
  have p1 := hres.c1
  have p2 := hres.c2
  have hcC := ((hcB.other ⟨w.heap.size + 1, 0, none⟩ (.slice (some ⟨o0, 0, none⟩) n C0) (by simp; omega) (by simp; omega) (by simp; omega) (by simp; omega)).other ⟨w.heap.size + 1, 1, none⟩ (.slice (some ⟨o1, 0, none⟩) n C1) (by simp; omega) (by simp; omega) (by simp; omega) (by simp; omega)).other ⟨w.heap.size + 1, 2, none⟩ (.slice (some ⟨o2, 0, none⟩) n C2) (by simp; omega) (by simp; omega) (by simp; omega) (by simp; omega)
  have hBC := (((hBA.setCell (p := ⟨o2, i, none⟩) (by simp; omega) (.bool true)).setCell (p := ⟨w.heap.size + 1, 0, none⟩) (by simp) (.slice (some ⟨o0, 0, none⟩) n C0)).setCell (p := ⟨w.heap.size + 1, 1, none⟩) (by simp) (.slice (some ⟨o1, 0, none⟩) n C1)).setCell (p := ⟨w.heap.size + 1, 2, none⟩) (by simp) (.slice (some ⟨o2, 0, none⟩) n C2)
  have HCC := (show Hid _ from hcC)
  have HBC := (show Hid _ from hBC)
  clear hcC hBC hcA hcB
  go_wp2
  refine bodyPost_ret (by simp [results, Try.results14, go_sem, p0, p1, p2]; try rfl) rfl ?_
  have eL : ((L.set i ⟨bs, L[i].s, L[i].l⟩).set i ⟨((L.set i ⟨bs, L[i].s, L[i].l⟩)[i]'(by simp; omega)).b, ((L.set i ⟨bs, L[i].s, L[i].l⟩)[i]'(by simp; omega)).s, true⟩) = L.set i (L[i].wrote bs) := by simp [Sec.wrote]
  have hcF := HCC.out
  rw [eL] at hcF
  have sl : (L.set i (L[i].wrote bs)).length = L.length := by simp
  exact ⟨_, _, _, _, _, _, rfl, ⟨by rw [sl]; exact hle, by rw [sl]; exact hL0, by rw [sl]; exact hL1, by rw [sl]; exact hL2, fun _ => ⟨o0, o1, o2, rfl, rfl, rfl, hcF.mono (fun k _ hk => by rcases hk with hk | hk; exact .inl hk.1; exact .inr (by omega)), .inr (by omega), .inr (by omega), .inr (by omega)⟩⟩, HBC.out⟩

end Go.Proofs.Ytnapkcejpllmcaa
