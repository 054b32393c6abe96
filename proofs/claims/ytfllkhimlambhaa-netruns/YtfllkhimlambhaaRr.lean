/- The document's net: as a value and in memory; which frame is at a place (At), walked. -/
import Derived.Test.YtfllkhimlambhaaN5
import Derived.Test.YtfllkhimlambhaaRf3
namespace Go.Proofs.Ytfllkhimlambhaa
open Go.RowKit
set_option linter.unusedVariables false
set_option maxRecDepth 8000

/-- A row as a value. -/
structure Rw where
  ao : Option Addr
  n : Nat
  cap : Nat
abbrev sl (r : Rw) : Value := .slice r.ao r.n r.cap
abbrev rnV (R : Nat → Rw) : Value := .agg #[.slice (R 0).ao (R 0).n (R 0).cap, .slice (R 1).ao (R 1).n (R 1).cap, .slice (R 2).ao (R 2).n (R 2).cap, .slice (R 3).ao (R 3).n (R 3).cap, .slice (R 4).ao (R 4).n (R 4).cap, .slice (R 5).ao (R 5).n (R 5).cap, .slice (R 6).ao (R 6).n (R 6).cap, .slice (R 7).ao (R 7).n (R 7).cap]
abbrev rnO (R : Nat → Rw) : Obj := .cells #[.slice (R 0).ao (R 0).n (R 0).cap, .slice (R 1).ao (R 1).n (R 1).cap, .slice (R 2).ao (R 2).n (R 2).cap, .slice (R 3).ao (R 3).n (R 3).cap, .slice (R 4).ao (R 4).n (R 4).cap, .slice (R 5).ao (R 5).n (R 5).cap, .slice (R 6).ao (R 6).n (R 6).cap, .slice (R 7).ao (R 7).n (R 7).cap] 31
def r0 : Nat → Rw := fun _ => ⟨none, 0, 0⟩
abbrev zI : Value := .agg #[.slice none 0 0, .bool false]
abbrev itO (x : Fv) : Obj := .cells #[.slice x.ao x.n x.cap, .bool x.sp] 39
theorem info39 : (Try.prog.info? 39).map (fun i => (i.zero, i.size, i.bytes)) = some (some zI, 2, 32) := by kernel_rfl
theorem itCells {w : World} {g : Nat} {x : Fv} (h : w.heap[g]? = some (itO x)) : w.cell? ⟨g, 0, none⟩ = some (.slice x.ao x.n x.cap) ∧ w.cell? ⟨g, 1, none⟩ = some (.bool x.sp) := by
  refine ⟨?_, ?_⟩
  all_goals rw [cell_of_row _ _ _ _ _ _ h]; rfl

/-- A box with a net's value. -/
structure Bx (w : World) (q : Nat) (R : Nat → Rw) : Prop where
  c : ∀ j, j < 8 → w.cell? ⟨q, j, none⟩ = some (sl (R j))
  t : ∃ cs, w.heap[q]? = some (.cells cs 31)
section
variable {w w' : World} {q : Nat} {R : Nat → Rw}
theorem Bx.of (h : w.heap[q]? = some (rnO R)) : Bx w q R := by
  refine ⟨fun j hj => ?_, _, h⟩
  rw [cell_of_row _ _ _ _ _ _ h]
  rcases j with _ | _ | _ | _ | _ | _ | _ | _ | j <;> first | rfl | omega
theorem Bx.lt (h : Bx w q R) : q < w.heap.size := by obtain ⟨cs, h⟩ := h.t; exact (Array.getElem?_eq_some_iff.1 h).1
theorem Bx.fz (h : Bx w q R) (j : Nat) : w.frozen? ⟨q, j, none⟩ = false := by obtain ⟨cs, h⟩ := h.t; exact frozen_of_row _ _ _ _ _ h
theorem Bx.keep (h : Bx w q R) (e : w'.heap[q]? = w.heap[q]?) : Bx w' q R := ⟨fun j hj => (World.cell?_of_block (w := w) (a := ⟨q, j, none⟩) e).trans (h.c j hj), by obtain ⟨cs, h⟩ := h.t; exact ⟨cs, e.trans h⟩⟩
theorem Bx.below (h : Bx w q R) (hb : Below w.heap.size w w') : Bx w' q R := h.keep (hb.block q h.lt)
theorem Bx.put (h : Bx w q R) {l : Nat} (hl : l < 8) (r : Rw) : Bx (w.setCell ⟨q, l, none⟩ (sl r)) q (upd R l r) := by
  refine ⟨fun j hj => ?_, ?_⟩
  · by_cases e : j = l
    · subst e
      rw [upd_same]
      exact World.cell?_setCell_same _ _ _ (h.c j hj)
    · rw [upd_other _ _ e, put_other _ _ _ _ _ e]
      exact h.c j hj
  · obtain ⟨cs, hc⟩ := h.t
    exact ⟨_, heap_setCell_same w q l cs 31 _ hc⟩
theorem Bx.all (h : Bx w q R) : w.cell? ⟨q, 0, none⟩ = some (.slice (R 0).ao (R 0).n (R 0).cap) ∧ w.cell? ⟨q, 1, none⟩ = some (.slice (R 1).ao (R 1).n (R 1).cap) ∧ w.cell? ⟨q, 2, none⟩ = some (.slice (R 2).ao (R 2).n (R 2).cap) ∧ w.cell? ⟨q, 3, none⟩ = some (.slice (R 3).ao (R 3).n (R 3).cap) ∧ w.cell? ⟨q, 4, none⟩ = some (.slice (R 4).ao (R 4).n (R 4).cap) ∧ w.cell? ⟨q, 5, none⟩ = some (.slice (R 5).ao (R 5).n (R 5).cap) ∧ w.cell? ⟨q, 6, none⟩ = some (.slice (R 6).ao (R 6).n (R 6).cap) ∧ w.cell? ⟨q, 7, none⟩ = some (.slice (R 7).ao (R 7).n (R 7).cap) :=
  ⟨h.c 0 (by decide), h.c 1 (by decide), h.c 2 (by decide), h.c 3 (by decide), h.c 4 (by decide), h.c 5 (by decide), h.c 6 (by decide), h.c 7 (by decide)⟩
end

/-- Eight cells of a block written. -/
abbrev st8 (W : World) (n : Nat) (R : Nat → Rw) : World := (((((((W.setCell ⟨n, 0, none⟩ (.slice (R 0).ao (R 0).n (R 0).cap)).setCell ⟨n, 1, none⟩ (.slice (R 1).ao (R 1).n (R 1).cap)).setCell ⟨n, 2, none⟩ (.slice (R 2).ao (R 2).n (R 2).cap)).setCell ⟨n, 3, none⟩ (.slice (R 3).ao (R 3).n (R 3).cap)).setCell ⟨n, 4, none⟩ (.slice (R 4).ao (R 4).n (R 4).cap)).setCell ⟨n, 5, none⟩ (.slice (R 5).ao (R 5).n (R 5).cap)).setCell ⟨n, 6, none⟩ (.slice (R 6).ao (R 6).n (R 6).cap)).setCell ⟨n, 7, none⟩ (.slice (R 7).ao (R 7).n (R 7).cap)
theorem upd_all (f R : Nat → Rw) (j : Nat) (hj : j < 8) : upd (upd (upd (upd (upd (upd (upd (upd f 0 (R 0)) 1 (R 1)) 2 (R 2)) 3 (R 3)) 4 (R 4)) 5 (R 5)) 6 (R 6)) 7 (R 7) j = R j := by
  rcases j with _ | _ | _ | _ | _ | _ | _ | _ | j <;> first | (simp [upd]; done) | omega
theorem Bx.to {w : World} {q : Nat} {R R' : Nat → Rw} (h : Bx w q R) (e : ∀ j, j < 8 → R j = R' j) : Bx w q R' := ⟨fun j hj => by rw [← e j hj]; exact h.c j hj, h.t⟩
theorem st8_facts {W : World} {n : Nat} {Z : Nat → Rw} (R : Nat → Rw) (h : Bx W n Z) : Bx (st8 W n R) n R ∧ (∀ j, j ≠ n → (st8 W n R).heap[j]? = W.heap[j]?) ∧ (st8 W n R).heap.size = W.heap.size ∧ (st8 W n R).os = W.os ∧ (st8 W n R).tape = W.tape ∧ (st8 W n R).output = W.output := by
  have hB : Below 0 W (st8 W n R) := ((((((((Below.refl 0 W).setCell (Nat.zero_le _) _).setCell (Nat.zero_le _) _).setCell (Nat.zero_le _) _).setCell (Nat.zero_le _) _).setCell (Nat.zero_le _) _).setCell (Nat.zero_le _) _).setCell (Nat.zero_le _) _).setCell (Nat.zero_le _) _
  refine ⟨?_, fun j hj => ?_, by simp, hB.os, hB.tape, hB.output⟩
  · have h1 := (((((((h.put (l := 0) (by decide) (R 0)).put (l := 1) (by decide) (R 1)).put (l := 2) (by decide) (R 2)).put (l := 3) (by decide) (R 3)).put (l := 4) (by decide) (R 4)).put (l := 5) (by decide) (R 5)).put (l := 6) (by decide) (R 6)).put (l := 7) (by decide) (R 7)
    exact h1.to fun j hj => upd_all Z R j hj
  · unfold st8
    iterate 8 rw [Below.heap_setCell _ _ _ _ (by simpa using hj)]
theorem st8_below {w W : World} {B n : Nat} {Z : Nat → Rw} (R : Nat → Rw) (h : Bx W n Z) (hb : Below B w W) (hn : B ≤ n) : Below B w (st8 W n R) := by
  obtain ⟨h1, h2, h3, h4, h5, h6⟩ := st8_facts R h
  exact ⟨h4.trans hb.os, h5.trans hb.tape, h6.trans hb.output, by rw [h3]; exact hb.size, fun k hk => (h2 k (by omega)).trans (hb.block k hk)⟩

/-- The rows of the document's net, and their frames' bytes. -/
structure Rn (w : World) (U : Nat → Prop) (R : Nat → Rw) (F : Nat → List Fv) : Prop where
  row : ∀ l, l < 8 → OwR fvC 2 39 w (R l).ao (R l).cap (F l)
  len : ∀ l, l < 8 → (F l).length = (R l).n
  by' : ∀ l, l < 8 → ∀ x ∈ F l, Fb w U x
  le : ∀ l, l < 8 → (F l).length ≤ 200
section
variable {w w' : World} {U V : Nat → Prop} {R : Nat → Rw} {F : Nat → List Fv}
theorem Rn.below (H : Rn w U R F) (hb : Below w.heap.size w w') : Rn w' U R F := ⟨fun l hl => (H.row l hl).below hb, H.len, fun l hl x hx => (H.by' l hl x hx).below hb, H.le⟩
theorem Rn.mono (H : Rn w U R F) (hv : ∀ k, k < w.heap.size → U k → V k) : Rn w V R F := ⟨H.row, H.len, fun l hl x hx => (H.by' l hl x hx).mono hv, H.le⟩
theorem Rn.off (H : Rn w U R F) (hO : OffN V w w') : Rn w' U R F := by
  refine ⟨fun l hl => (H.row l hl).keep fun a ha _ => ?_, H.len, fun l hl x hx => (H.by' l hl x hx).off hO, H.le⟩
  obtain ⟨_, cur, hc⟩ := (H.row l hl).lt a ha
  exact hO.kt _ _ _ _ hc (by decide) (by decide)
/-- Where a row of bytes that isn't one of its own has turned. -/
theorem Rn.bytes (H : Rn w U R F) {o : Nat} (hs : w.heap.size ≤ w'.heap.size) (hb : ∀ k, k < w.heap.size → k ≠ o → w'.heap[k]? = w.heap[k]?) (ho : ∃ cs, w.heap[o]? = some (.cells cs 5)) (hU : ¬ U o) : Rn w' U R F := by
  refine ⟨fun l hl => (H.row l hl).keep fun a ha hl' => hb _ hl' ?_, H.len, fun l hl x hx => (H.by' l hl x hx).keep hs fun k cs hk hc => hb k (Array.getElem?_eq_some_iff.1 hc).1 (by rintro rfl; exact hU hk), H.le⟩
  rintro rfl
  obtain ⟨_, cur, hc⟩ := (H.row l hl).lt a ha
  obtain ⟨cs, h5⟩ := ho
  rw [hc] at h5
  cases h5
theorem Rn.upd (H : Rn w U R F) (hb : Below w.heap.size w w') {l : Nat} {r : Rw} {L : List Fv} (hr : OwR fvC 2 39 w' r.ao r.cap L) (hn : L.length = r.n) (hL : L.length ≤ 200) (hUV : ∀ k, U k → V k) (hby : ∀ x ∈ L, Fb w' V x) : Rn w' V (Ytfllkhimlambhaa.upd R l r) (Ytfllkhimlambhaa.upd F l L) := by
  have H' := H.below hb
  refine ⟨fun j hj => ?_, fun j hj => ?_, fun j hj x hx => ?_, fun j hj => ?_⟩
  all_goals by_cases e : j = l
  · subst e; rw [upd_same, upd_same]; exact hr
  · rw [upd_other _ _ e, upd_other _ _ e]; exact H'.row j hj
  · subst e; rw [upd_same, upd_same]; exact hn
  · rw [upd_other _ _ e, upd_other _ _ e]; exact H'.len j hj
  · subst e; rw [upd_same] at hx; exact hby x hx
  · rw [upd_other _ _ e] at hx; exact (H'.by' j hj x hx).mono fun k _ hk => hUV k hk
  · subst e; rw [upd_same]; exact hL
  · rw [upd_other _ _ e]; exact H'.le j hj
theorem Rn.nil (w : World) : Rn w U r0 (fun _ => []) := ⟨fun l hl => OwR.nil _ _, fun l hl => rfl, fun l hl x hx => (by cases hx), fun l hl => (by simp)⟩
/-- The frame with k ahead of it. -/
theorem Rn.at (l k : Nat) (H : Rn w U R F) (hl : l < 8) (hk : k < (F l).length) : ∃ r x, (R l).ao = some ⟨r, 0, none⟩ ∧ (F l)[k]? = some x ∧ r < w.heap.size ∧ Fb w U x ∧ w.cell? ⟨r, k * 2, none⟩ = some (.slice x.ao x.n x.cap) ∧ w.cell? ⟨r, k * 2 + 1, none⟩ = some (.bool x.sp) := by
  obtain ⟨r, off, hA, hrl, hcc⟩ := (H.row l hl).rd.at fvE hk
  have hA0 : (R l).ao = some ⟨r, 0, none⟩ := by
    rcases H.row l hl with ⟨h, _⟩ | ⟨g', cur, h, _⟩
    · rw [h] at hA; cases hA
    · rw [h] at hA; cases hA; exact h
  rw [hA0] at hA
  cases hA
  obtain ⟨z0, z1⟩ := fvIn _ _ _ _ hcc
  simp only [Nat.zero_add] at z0 z1
  exact ⟨r, (F l)[k], hA0, List.getElem?_eq_getElem hk, hrl, H.by' l hl _ (List.getElem_mem hk), z0, z1⟩
end

def tupI (x : Fv) : Value := .tuple #[fvV x, .bool true]
theorem two_al (w : World) (o1 o2 : Obj) : Below w.heap.size w ((w.alloc o1).alloc o2) ∧ ((w.alloc o1).alloc o2).heap[w.heap.size]? = some o1 ∧ ((w.alloc o1).alloc o2).heap[w.heap.size + 1]? = some o2 := by
  have b1 : Below w.heap.size w (w.alloc o1) := (Below.refl _ _).alloc (Nat.le_refl _) _
  have b2 : Below (w.alloc o1).heap.size (w.alloc o1) ((w.alloc o1).alloc o2) := (Below.refl _ _).alloc (Nat.le_refl _) _
  have e1 : (w.alloc o1).heap.size = w.heap.size + 1 := by simp
  have n1 := heap_alloc_new w o1
  have n2 := heap_alloc_new (w.alloc o1) o2
  rw [e1] at n2
  exact ⟨below_step b1 b2, (b2.block _ (by omega)).trans n1, n2⟩

/-- How many the document has on a lane. -/
def hasR (R : Nat → Rw) (z i : Int) : Bool := decide (0 ≤ z ∧ z < 8 ∧ 0 ≤ i ∧ i < ((R z.toNat).n : Int))

set_option maxHeartbeats 800000 in
theorem at_no (R : Nat → Rw) (z i : Int) (w : World) (h : hasR R z i = false) : Calls Try.prog 28 #[rnV R, .int .i64 z, .int .i64 i] w fun e w' => e = .returned (.tuple #[zI, .bool false]) ∧ Below w.heap.size w w' := by
  obtain ⟨hb, hq, hz⟩ := two_al w (rnO R) (.cells #[.slice none 0 0, .bool false] 39)
  have HW : Hid (Below w.heap.size w ((w.alloc (rnO R)).alloc (.cells #[.slice none 0 0, .bool false] 39)) ∧ Bx ((w.alloc (rnO R)).alloc (.cells #[.slice none 0 0, .bool false] 39)) w.heap.size R ∧ ((w.alloc (rnO R)).alloc (.cells #[.slice none 0 0, .bool false] 39)).heap[w.heap.size + 1]? = some (itO ⟨none, 0, 0, [], false⟩)) := ⟨hb, Bx.of hq, hz⟩
  clear hb hq hz
  have HH : Hid (hasR R z i = false) := h
  clear h
  go_enter Try.func28, Try.ntmps28
  go_upto_region 1 with fail
  show Code.wp _ _ _ _ ((w.alloc (rnO R)).alloc (.cells #[.slice none 0 0, .bool false] 39))
  obtain ⟨q, hq⟩ : ∃ q, w.heap.size = q := ⟨_, rfl⟩
  obtain ⟨q6, hq6⟩ : ∃ q6, w.heap.size + 1 = q6 := ⟨_, rfl⟩
  rw [hq6, hq]
  have HW2 : Hid (Below w.heap.size w ((w.alloc (rnO R)).alloc (.cells #[.slice none 0 0, .bool false] 39)) ∧ Bx ((w.alloc (rnO R)).alloc (.cells #[.slice none 0 0, .bool false] 39)) q R ∧ ((w.alloc (rnO R)).alloc (.cells #[.slice none 0 0, .bool false] 39)).heap[q6]? = some (itO ⟨none, 0, 0, [], false⟩) ∧ w.heap.size ≤ q6) := by rw [← hq, ← hq6]; exact ⟨HW.out.1, HW.out.2.1, HW.out.2.2, by omega⟩
  clear HW hq hq6
  generalize (w.alloc (rnO R)).alloc (.cells #[.slice none 0 0, .bool false] 39) = W at *
  obtain ⟨x0, x1⟩ := itCells HW2.out.2.2.1
  have f6 := fun j => frozen_of_row W q6 j _ _ HW2.out.2.2.1
  have HZ : Hid (((W.setCell ⟨q6, 0, none⟩ (.slice none 0 0)).setCell ⟨q6, 1, none⟩ (.bool false)).heap[q6]? = some (itO ⟨none, 0, 0, [], false⟩) ∧ Below w.heap.size w ((W.setCell ⟨q6, 0, none⟩ (.slice none 0 0)).setCell ⟨q6, 1, none⟩ (.bool false))) := by
    have h0 := heap_setCell_same W q6 0 _ 39 (.slice none 0 0) HW2.out.2.2.1
    simp only [List.setIfInBounds_toArray, List.set_cons_zero] at h0
    have h1 := heap_setCell_same _ q6 1 _ 39 (.bool false) h0
    simp only [List.setIfInBounds_toArray, List.set_cons_zero, List.set_cons_succ] at h1
    exact ⟨h1, (HW2.out.1.setCell HW2.out.2.2.2 _).setCell HW2.out.2.2.2 _⟩
  by_cases hz : 0 ≤ z ∧ z < 8
  · obtain ⟨l, rfl⟩ : ∃ l : Nat, z = (l : Int) := ⟨z.toNat, by omega⟩
    have hl : l < 8 := by omega
    have hc := HW2.out.2.1.c l hl
    have hl0 : ¬ (l : Int) < 0 := by omega
    have hl7 : ¬ (7 : Int) < (l : Int) := by omega
    have hlz : (l : Int) < 8 := by omega
    have hH := HH.out
    unfold hasR at hH
    rw [Int.toNat_natCast, decide_eq_false_iff_not] at hH
    by_cases hi : i < 0
    · clear hH hz
      generalize (R l) = r at *
      go_wp2
      generalize (W.setCell ⟨q6, 0, none⟩ (.slice none 0 0)).setCell ⟨q6, 1, none⟩ (.bool false) = W4 at *
      obtain ⟨u0, u1⟩ := itCells HZ.out.1
      refine bodyPost_ret (by simp [results, Try.results28, go_sem, u0, u1]; try rfl) rfl ?_
      exact ⟨rfl, HZ.out.2⟩
    · have hi2 : ((R l).n : Int) ≤ i := by omega
      clear hH hz
      generalize (R l) = r at *
      go_wp2
      generalize (W.setCell ⟨q6, 0, none⟩ (.slice none 0 0)).setCell ⟨q6, 1, none⟩ (.bool false) = W4 at *
      obtain ⟨u0, u1⟩ := itCells HZ.out.1
      refine bodyPost_ret (by simp [results, Try.results28, go_sem, u0, u1]; try rfl) rfl ?_
      exact ⟨rfl, HZ.out.2⟩
  · by_cases hz0 : z < 0
    · clear hz
      go_wp2
      generalize (W.setCell ⟨q6, 0, none⟩ (.slice none 0 0)).setCell ⟨q6, 1, none⟩ (.bool false) = W4 at *
      obtain ⟨u0, u1⟩ := itCells HZ.out.1
      refine bodyPost_ret (by simp [results, Try.results28, go_sem, u0, u1]; try rfl) rfl ?_
      exact ⟨rfl, HZ.out.2⟩
    · have hz7 : 7 < z := by omega
      clear hz
      go_wp2
      generalize (W.setCell ⟨q6, 0, none⟩ (.slice none 0 0)).setCell ⟨q6, 1, none⟩ (.bool false) = W4 at *
      obtain ⟨u0, u1⟩ := itCells HZ.out.1
      refine bodyPost_ret (by simp [results, Try.results28, go_sem, u0, u1]; try rfl) rfl ?_
      exact ⟨rfl, HZ.out.2⟩

end Go.Proofs.Ytfllkhimlambhaa
