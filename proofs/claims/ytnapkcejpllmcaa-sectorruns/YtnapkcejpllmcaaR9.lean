/- The reference and the program beside each other. -/
import Derived.Test.YtnapkcejpllmcaaR8
import Derived.Test.YtnapkcejpllmcaaPa
namespace Go.Proofs.Ytnapkcejpllmcaa
open Go.RowKit
set_option linter.unusedVariables false

/-- What is not loose is stable. -/
def Good (L : List Sec) : Prop := ∀ x ∈ L, x.l = false → x.b = x.s

def wE (L : List Sec) (i : Int) (n : Nat) : Int := if hasB L i = true ∧ n ≤ 100 then 0 else 51
def wL (L : List Sec) (i : Int) (n : Nat) (bs : List Nat) : List Sec := if hasB L i = true ∧ n ≤ 100 then L.set i.toNat ⟨bs, (L.getD i.toNat Sec.e).s, true⟩ else L

theorem wL_length (L : List Sec) (i : Int) (n : Nat) (bs : List Nat) : (wL L i n bs).length = L.length := by unfold wL; split <;> simp

theorem wL_ok (L : List Sec) (j n : Nat) (bs : List Nat) (hj : j < L.length) (hn : n ≤ 100) : wE L (j : Int) n = 0 ∧ wL L (j : Int) n bs = L.set j (L[j].wrote bs) := by
  unfold wE wL
  rw [if_pos ⟨hasB_t hj, hn⟩, if_pos ⟨hasB_t hj, hn⟩]
  simp [Sec.wrote, hj]

theorem wL_bad (L : List Sec) (i : Int) (n : Nat) (bs : List Nat) (h : hasB L i = false ∨ 100 < n) : wE L i n = 51 ∧ wL L i n bs = L := by
  have : ¬ (hasB L i = true ∧ n ≤ 100) := by
    rintro ⟨h1, h2⟩
    rcases h with h | h
    · rw [h1] at h; cases h
    · omega
  unfold wE wL
  rw [if_neg this, if_neg this]
  exact ⟨rfl, rfl⟩

theorem w_cases (L : List Sec) (i : Int) (n : Nat) : (∃ j : Nat, i = (j : Int) ∧ j < L.length ∧ n ≤ 100) ∨ (hasB L i = false ∨ 100 < n) := by
  by_cases hok : hasB L i = true ∧ n ≤ 100
  · obtain ⟨j, e, hj⟩ := hasB_nat hok.1
    exact .inl ⟨j, e, hj, hok.2⟩
  · refine .inr ?_
    cases hh : hasB L i
    · exact .inl rfl
    · exact .inr (by have : ¬ n ≤ 100 := fun h => hok ⟨hh, h⟩; omega)

theorem Good.wL {L : List Sec} (h : Good L) (i : Int) (n : Nat) (bs : List Nat) : Good (Go.Proofs.Ytnapkcejpllmcaa.wL L i n bs) := by
  unfold Go.Proofs.Ytnapkcejpllmcaa.wL
  split
  · intro x hx hl
    rcases List.mem_or_eq_of_mem_set hx with hx | hx
    · exact h x hx hl
    · subst hx; cases hl
  · exact h

theorem write_fn (g : Nat) (V : Nat → Prop) (L : List Sec) (i : Int) (ao : Option Addr) (n cap : Nat) (bs : List Nat) (w : World) (h : Drv w g V L) (hr : Rd8 w ao n cap bs) :
    Calls Try.prog 13 #[dp g, .int .i64 i, .slice ao n cap] w fun e w' => e = .returned (.int .i64 (wE L i n)) ∧ Drv w' g (fun k => V k ∨ w.heap.size ≤ k) (wL L i n bs) ∧ Off g w w' := by
  rcases w_cases L i n with ⟨j, rfl, hj, hn⟩ | hbad
  · obtain ⟨e1, e2⟩ := wL_ok L j n bs hj hn
    rw [e1, e2]
    exact write_ok g V L j ao n cap bs w h hj hr hn
  · obtain ⟨e1, e2⟩ := wL_bad L i n bs hbad
    rw [e1, e2]
    have hlt := h.lt
    refine (write_bad g V L i ao n cap w h hbad).mono fun e w' ⟨h1, h2⟩ => ?_
    subst h2
    exact ⟨h1, h.mono (fun k _ hk => .inl hk) (by rintro (hx | hx); exact h.vg hx; omega), Off.refl _ _⟩

theorem refWrite_fn (V : Nat → Prop) (a0 a1 a2 : Option Addr) (c0 c1 c2 N : Nat) (L : List Sec) (i : Int) (ao : Option Addr) (n cap : Nat) (bs : List Nat) (w : World) (h : Ref w V a0 c0 a1 c1 a2 c2 L) (hN : L.length = N) (hr : Rd8 w ao n cap bs) :
    Calls Try.prog 14 #[.agg #[.slice a0 N c0, .slice a1 N c1, .slice a2 N c2], .int .i64 i, .slice ao n cap] w fun e w' => ∃ A0 C0 A1 C1 A2 C2, e = .returned (.tuple #[.agg #[.slice A0 N C0, .slice A1 N C1, .slice A2 N C2], .int .i64 (wE L i n)]) ∧ Ref w' (fun k => V k ∨ w.heap.size ≤ k) A0 C0 A1 C1 A2 C2 (wL L i n bs) ∧ Below w.heap.size w w' := by
  rcases w_cases L i n with ⟨j, rfl, hj, hn⟩ | hbad
  · obtain ⟨e1, e2⟩ := wL_ok L j n bs hj hn
    rw [e1, e2]
    exact refWrite_ok V a0 a1 a2 c0 c1 c2 N L j ao n cap bs w h hN (by omega) hr hn
  · obtain ⟨e1, e2⟩ := wL_bad L i n bs hbad
    rw [e1, e2]
    refine (refWrite_bad a0 a1 a2 c0 c1 c2 N L i ao n cap w hN hbad).mono fun e w' ⟨h1, h2⟩ => ?_
    exact ⟨a0, c0, a1, c1, a2, c2, h1, (h.below h2).mono fun k _ hk => .inl hk, h2⟩

theorem refCrash_all (V : Nat → Prop) (a0 a1 a2 : Option Addr) (c0 c1 c2 n : Nat) (L : List Sec) (keep : Int) (w : World) (h : Ref w V a0 c0 a1 c1 a2 c2 L) (hn : L.length = n) :
    Calls Try.prog 18 #[.agg #[.slice a0 n c0, .slice a1 n c1, .slice a2 n c2], .int .i64 keep] w fun e w' => ∃ A0 C0 A1 C1 A2 C2, e = .returned (.agg #[.slice A0 n C0, .slice A1 n C1, .slice A2 n C2]) ∧ Ref w' (fun k => V k ∨ w.heap.size ≤ k) A0 C0 A1 C1 A2 C2 (L.mapIdx (rfate keep)) ∧ Below w.heap.size w w' := by
  rcases Nat.eq_zero_or_pos n with e | e
  · subst e
    have : L = [] := List.eq_nil_of_length_eq_zero hn
    subst this
    exact refCrash_zero V a0 a1 a2 c0 c1 c2 keep w h
  · exact refCrash_any V a0 a1 a2 c0 c1 c2 n L keep w h hn e

theorem and63 (i : Nat) (hi : i < 6) : bits .and .i64 63 ((2 : Int) ^ i) ≠ 0 := by
  obtain rfl | rfl | rfl | rfl | rfl | rfl : i = 0 ∨ i = 1 ∨ i = 2 ∨ i = 3 ∨ i = 4 ∨ i = 5 := by omega
  all_goals decide

theorem crash_alike {L : List Sec} (h : Good L) (h6 : L.length ≤ 6) (keep : Int) : L.mapIdx (rfate keep) = L.mapIdx (fate keep) := by
  apply List.ext_getElem (by simp)
  intro i h1 h2
  simp only [List.length_mapIdx] at h1
  simp only [List.getElem_mapIdx]
  have hg := h L[i] (List.getElem_mem _)
  have hk := kbit_iff keep i (by omega)
  unfold rfate fate
  cases hl : L[i].l
  · rw [if_neg (by simp)]
    have := hg hl
    split
    · simp [Sec.settle, this]
    · simp [Sec.revert]
  · cases hb : kbit keep i
    · rw [hb] at hk
      simp only [Bool.false_eq_true, false_iff, Decidable.not_not] at hk
      rw [if_neg (by rw [hk]; simp), if_neg (by simp)]; rfl
    · rw [hb] at hk
      simp only [true_iff] at hk
      rw [if_pos ⟨rfl, hk⟩, if_pos rfl]; rfl

theorem sync_alike {L : List Sec} (h : Good L) (h6 : L.length ≤ 6) : L.mapIdx (rfate 63) = L.mapIdx fun _ x => x.settle := by
  apply List.ext_getElem (by simp)
  intro i h1 h2
  simp only [List.length_mapIdx] at h1
  simp only [List.getElem_mapIdx]
  have hg := h L[i] (List.getElem_mem _)
  unfold rfate
  cases hl : L[i].l
  · rw [if_neg (by simp)]
    simp [Sec.settle, hg hl]
  · rw [if_pos ⟨rfl, and63 i (by omega)⟩]; rfl

theorem Good.sync (L : List Sec) : Good (L.mapIdx fun _ x => x.settle) := by
  intro x hx _
  obtain ⟨i, hi, rfl⟩ := List.getElem_of_mem hx
  simp [Sec.settle]

theorem Good.crash (L : List Sec) (keep : Int) : Good (L.mapIdx (fate keep)) := by
  intro x hx _
  obtain ⟨i, hi, rfl⟩ := List.getElem_of_mem hx
  simp only [List.getElem_mapIdx]
  unfold fate
  split <;> rfl

theorem Good.new (n : Nat) : Good (List.replicate n Sec.e) := by
  intro x hx _
  obtain rfl := (List.mem_replicate.1 hx).2
  rfl

set_option maxRecDepth 100000 in
set_option maxHeartbeats 3200000 in
theorem refSync_any (V : Nat → Prop) (a0 a1 a2 : Option Addr) (c0 c1 c2 n : Nat) (L : List Sec) (w : World) (h : Ref w V a0 c0 a1 c1 a2 c2 L) (hn : L.length = n) :
    Calls Try.prog 16 #[.agg #[.slice a0 n c0, .slice a1 n c1, .slice a2 n c2]] w fun e w' => ∃ A0 C0 A1 C1 A2 C2, e = .returned (.agg #[.slice A0 n C0, .slice A1 n C1, .slice A2 n C2]) ∧ Ref w' (fun k => V k ∨ w.heap.size ≤ k) A0 C0 A1 C1 A2 C2 (L.mapIdx (rfate 63)) ∧ Below w.heap.size w w' := by
  have hb1 : Bx ((w.alloc (.cells #[.slice a0 n c0, .slice a1 n c1, .slice a2 n c2] 34)).alloc (.cells #[.slice none 0 0, .slice none 0 0, .slice none 0 0] 34)) w.heap.size (.slice a0 n c0) (.slice a1 n c1) (.slice a2 n c2) :=
    Bx.of (t := 34) (by rw [Below.heap_alloc _ _ _ (by simp)]; exact heap_alloc_new w _)
  have hb2 : Bx ((w.alloc (.cells #[.slice a0 n c0, .slice a1 n c1, .slice a2 n c2] 34)).alloc (.cells #[.slice none 0 0, .slice none 0 0, .slice none 0 0] 34)) (w.heap.size + 1) (.slice none 0 0) (.slice none 0 0) (.slice none 0 0) :=
    Bx.of (t := 34) (by have := heap_alloc_new (w.alloc (.cells #[.slice a0 n c0, .slice a1 n c1, .slice a2 n c2] 34)) (.cells #[.slice none 0 0, .slice none 0 0, .slice none 0 0] 34); simpa using this)
  have hW : Below w.heap.size w ((w.alloc (.cells #[.slice a0 n c0, .slice a1 n c1, .slice a2 n c2] 34)).alloc (.cells #[.slice none 0 0, .slice none 0 0, .slice none 0 0] 34)) := ((Below.refl _ _).alloc (Nat.le_refl _) _).alloc (by simp) _
  have hWs : ((w.alloc (.cells #[.slice a0 n c0, .slice a1 n c1, .slice a2 n c2] 34)).alloc (.cells #[.slice none 0 0, .slice none 0 0, .slice none 0 0] 34)).heap.size = w.heap.size + 2 := by simp
  have HWs : Hid (((w.alloc (.cells #[.slice a0 n c0, .slice a1 n c1, .slice a2 n c2] 34)).alloc (.cells #[.slice none 0 0, .slice none 0 0, .slice none 0 0] 34)).heap.size = w.heap.size + 2) := hWs
  clear hWs
  go_enter Try.func16, Try.ntmps16
  go_wp2_with (go_at_call 18; refine (refCrash_all _ _ _ _ _ _ _ n L 63 _ (h.tight.below hW) hn).mono ?_; rintro e w1 ⟨A0, C0, A1, C1, A2, C2, rfl, hR1, hB1⟩; have hx2 := hb2.below hB1 hb2.lt; have q0 := hx2.c0; have q1 := hx2.c1; have q2 := hx2.c2; have f0 := hx2.f 0; have f1 := hx2.f 1; have f2 := hx2.f 2; have hres := hx2.put (.slice A0 n C0) (.slice A1 n C1) (.slice A2 n C2); have p0 := hres.c0; have p1 := hres.c1; have p2 := hres.c2)
  refine bodyPost_ret (by simp [results, Try.results16, go_sem, p0, p1, p2]; try rfl) rfl ?_
  have nV : ¬ ((V (w.heap.size + 1) ∧ w.heap.size + 1 < w.heap.size) ∨ ((w.alloc (.cells #[.slice a0 n c0, .slice a1 n c1, .slice a2 n c2] 34)).alloc (.cells #[.slice none 0 0, .slice none 0 0, .slice none 0 0] 34)).heap.size ≤ w.heap.size + 1) := by
    rw [HWs.out]; omega
  refine ⟨A0, C0, A1, C1, A2, C2, rfl, (((hR1.kept (Kept.setCell _ _ _ nV)).kept (Kept.setCell _ _ _ nV)).kept (Kept.setCell _ _ _ nV)).mono fun k _ hk => ?_, (((hW.trans (hB1.mono hW.size)).setCell (by simp) _).setCell (by simp) _).setCell (by simp) _⟩
  rcases hk with hk | hk
  · exact .inl hk.1
  · rw [HWs.out] at hk; exact .inr (by omega)

end Go.Proofs.Ytnapkcejpllmcaa
