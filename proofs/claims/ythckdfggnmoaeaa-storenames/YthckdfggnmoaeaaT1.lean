/- What the functions of package tape do, walked. -/
import Derived.Test.YthckdfggnmoaeaaTd
import Derived.Handy
import Derived.BigQuiet
import Derived.Laws.CopyOwn
namespace Go.Proofs.Ythckdfggnmoaeaa
open Go.RowKit
set_option linter.unusedVariables false

/-- The pointer to a tape. -/
abbrev tp (g : Nat) : Value := .pointer (some ⟨g, 0, none⟩)

/-- The room that a number makes. -/
def bnd (room : Int) : Nat := (min (max room 0) 20000).toNat
theorem bnd_le (room : Int) : bnd room ≤ 20000 := by unfold bnd; omega

theorem bounded_any (room : Int) (w : World) : Calls Try.prog 16 #[.int .i64 room] w fun e w' => e = .returned (.int .i64 (bnd room : Int)) ∧ w' = w := by
  by_cases h0 : room < 0
  · go_enter Try.func16, Try.ntmps16
    go_wp2
    all_goals go_ret
    all_goals exact ⟨ret_int (by unfold bnd; omega), rfl⟩
  · by_cases h1 : room ≤ 20000
    · go_enter Try.func16, Try.ntmps16
      go_wp2
      all_goals go_ret
      all_goals exact ⟨ret_int (by unfold bnd; omega), rfl⟩
    · go_enter Try.func16, Try.ntmps16
      go_wp2
      all_goals go_ret
      all_goals exact ⟨ret_int (by unfold bnd; omega), rfl⟩

theorem new_any (room : Int) (w : World) :
    Calls Try.prog 5 #[.int .i64 room] w fun e w' => e = .returned (tp w.heap.size) ∧ (∀ B, B ≤ w.heap.size → Tp w' B w.heap.size none 0 0 [] 0 (bnd room)) ∧ w'.heap.size = w.heap.size + 1 ∧ Below w.heap.size w w' := by
  go_enter Try.func5, Try.ntmps5
  go_wp2_with (go_at_call 16; refine (bounded_any room w).mono ?_; rintro e w' ⟨rfl, hw⟩; subst w')
  go_ret
  exact ⟨rfl, fun B hB => Tp.new w B _ hB (bnd_le _), by simp, by go_grown⟩

theorem cells_of_own {w : World} {base : Nat} {g n : Nat} {zs : List Int} (h : OwnI w base 5 .u8 (some ⟨g, 0, none⟩) n zs) (hn : zs.length = n) : w.heap[g]? = some (.cells (zs.map (Value.int .u8)).toArray 5 (0, 0)) := by
  obtain ⟨h1, h2⟩ := h
  rcases h2 with ⟨hv, _⟩ | ⟨g', cp, cur, hv, hg, hh, hle, hmx, hsz, htk⟩
  · simp at hv
  · simp only [Value.slice.injEq, Option.some.injEq, Addr.mk.injEq] at hv
    obtain ⟨⟨rfl, _⟩, _, rfl⟩ := hv
    rw [hh]
    have : cur.toList = zs.map (Value.int .u8) := by
      rw [← htk]
      rw [List.take_of_length_le]
      simp; omega
    rw [← this]

set_option maxHeartbeats 400000 in
theorem tcopied_any (ao : Option Addr) (n cap : Nat) (bs : List Nat) (w : World) (h : Rd8 w ao n cap bs) (hn : n ≤ 20000) :
    Calls Try.prog 49 #[.slice ao n cap] w fun e w' => ∃ ao' cap', e = .returned (.slice ao' n cap') ∧ Own8 w' w.heap.size ao' n cap' bs ∧ Below w.heap.size w w' := by
  have hl := h.len
  obtain ⟨X, hX⟩ : ∃ X : List Value, X = (ci bs).map (Value.int .u8) := ⟨_, rfl⟩
  have hXl : X.length = n := by rw [hX]; simp [ci]; exact hl
  obtain ⟨Z, hZ⟩ : ∃ Z : List Value, Z = (List.replicate n (0 : Int)).map (Value.int .u8) := ⟨_, rfl⟩
  have hZl : Z.length = n := by rw [hZ]; simp
  have HZ : Hid (Z = (List.replicate n (0 : Int)).map (Value.int .u8)) := hZ
  have HX : Hid (X = (ci bs).map (Value.int .u8)) := hX
  clear hX hZ
  have hsz : (Try.prog.info? 5).map (·.size) = some 1 := by kernel_rfl
  have hmn : X.length = Nat.min n n := by rw [hXl]; exact (Nat.min_self n).symm
  have HP : Hid (∀ w1 : World, Below w.heap.size w w1 → 0 < X.length → ∃ ad, ao = some ad ∧ ∀ j v, X[j]? = some v → w1.cell? (ad.add j) = some v) := by
    intro w1 hb1 hp
    obtain ⟨b, off, e, _, hc⟩ := RdS.cell (h.below hb1).rd (by rw [← HX.out]; intro e; rw [e] at hp; simp at hp)
    refine ⟨_, e, fun j v hj => ?_⟩
    obtain ⟨hj1, rfl⟩ := List.getElem?_eq_some_iff.1 hj
    rw [Addr.add_lit]
    rw [hc j (by rw [← HX.out]; exact hj1)]
    simp only [HX.out]
  have HO : Hid (∀ v ∈ X, v.oneCell' = true) := by rw [HX.out]; exact ints_one _ _
  go_enter Try.func49, Try.ntmps49
  go_wp2_with (first
    | (at_make; refine wpList_makeNI _ rfl _ _ 56 rfl w.heap.size 5 .u8 1 Try.underlying56 info5 n rfl rfl rfl rfl (by omega) (by unfold maxLen; omega) (Nat.le_refl _) ?_; intro g w1 hg1 ho1 hb1)
    | (refine wpList_copy_splice rfl _ _ 56 56 rfl 5 Try.underlying56 hsz _ _ _ _ _ _ rfl rfl g 0 Z 5 (by rw [HZ.out]; exact cells_of_own ho1 (by simp)) X hmn (fun hp => ⟨rfl, HP.out _ hb1 hp⟩) (by omega) HO.out w.heap.size w hb1 hg1 ?_; intro w2 HG hb2))
  go_ret
  refine ⟨_, _, rfl, ⟨?_, hl, h.byte⟩, hb2⟩
  have hh := HG.out
  have e1 : splice Z 0 X = X := by
    simp [splice]; omega
  rw [e1] at hh
  unfold OwnI OwnS
  rw [← HX.out]
  exact ⟨by simp, .inr ⟨g, n, X.toArray, by rw [hXl], hg1, hh, by omega, by unfold maxLen; omega, by simp [hXl], by simp⟩⟩

theorem sync_any (B g : Nat) (ao : Option Addr) (n cap : Nat) (bs : List Nat) (s r : Nat) (w : World) (h : Tp w B g ao n cap bs s r) : Calls Try.prog 43 #[tp g] w fun e w' => e = .returned (.tuple #[]) ∧ Tp w' B g ao n cap bs n r ∧ Off2 g ao w w' ∧ w'.heap.size = w.heap.size := by
  have h0 := h.hd.c0
  have h1 := h.hd.c1
  have hf := h.hd.fz 1
  go_enter Try.func43, Try.ntmps43
  go_wp2
  go_end0
  exact ⟨rfl, h.put1 n (Nat.le_refl _), (Off2.refl g ao w).setCell rfl _, by simp [World.setCell]⟩

theorem safe_any (B g : Nat) (ao : Option Addr) (n cap : Nat) (bs : List Nat) (s r : Nat) (w : World) (h : Tp w B g ao n cap bs s r) : Calls Try.prog 61 #[tp g] w fun e w' => e = .returned (.int .i64 (s : Int)) ∧ w' = w := by
  have h1 := h.hd.c1
  go_enter Try.func61, Try.ntmps61
  go_wp2
  go_ret
  exact ⟨rfl, rfl⟩

theorem bytes_any (B g : Nat) (ao : Option Addr) (n cap : Nat) (bs : List Nat) (s r : Nat) (w : World) (h : Tp w B g ao n cap bs s r) : Calls Try.prog 30 #[tp g] w fun e w' => ∃ ao' cap', e = .returned (.slice ao' n cap') ∧ Own8 w' w.heap.size ao' n cap' bs ∧ Below w.heap.size w w' := by
  have h0 := h.hd.c0
  go_enter Try.func30, Try.ntmps30
  go_wp2_with (go_at_call 49; refine (tcopied_any ao n cap bs w h.own.rd h.le).mono ?_; rintro e w1 ⟨ao1, cap1, rfl, ho1, hb1⟩)
  go_ret
  exact ⟨_, _, rfl, ho1, hb1⟩

end Go.Proofs.Ythckdfggnmoaeaa
