/- slices.Delete of one frame, walked. -/
import Derived.Test.YtfllkhimlambhaaN1
import Derived.Deep.RegionHeldLaw
import Derived.Deep.RegionLaw
import Derived.Deep.CutBlock
namespace Go.Proofs.Ytfllkhimlambhaa
open Go.RowKit
set_option linter.unusedVariables false
set_option maxRecDepth 8000

/-- clear of the one behind them all. -/
theorem wpList_clear1 (w : World) {ops : Array Oper} {rest : List Oper} {o : Oper} {a : Act} {Q : Exit → Act → World → Prop} (hgd : o.guard = none) (x : Operand)
    (ho : o.op = .call { callee := .builtin .clear, args := #[x], argTypes := #[56] }) {g k c cap : Nat} {L : List Fv} (hx : a.eval x = .slice (some ⟨g, k, none⟩) 1 c) (hown : OwR fvC 2 63 w (some ⟨g, 0, none⟩) cap L) (hk : L.length * 2 = k) (hkm : L.length + 1 ≤ cap)
    (h : ∀ w', OwR fvC 2 63 w' (some ⟨g, 0, none⟩) cap L → w.grownBy w' (some g) → wpList Try.prog ops Q rest (a.put o.dst (.tuple #[])) w') : wpList Try.prog ops Q (o :: rest) a w := by
  refine wpList_plain hgd fun _ hK => ?_
  have hzc : (Builtin.zeroCells zF.cells 1).toList = [.slice none 0 0, .bool false] := by kernel_rfl
  have hst := run_storeCells_cells (P := Try.prog) g k [.slice none 0 0, .bool false] 0 w (by
    intro j hj
    rcases hown with ⟨h', _⟩ | ⟨g', cur, h', hh, hle, hmx, hsz, htk⟩
    · cases h'
    · cases h'
      rw [cell_of_row _ _ _ _ _ _ hh]
      have hj' : j < 2 := hj
      have : (L.length + 1) * 2 ≤ cap * 2 := Nat.mul_le_mul_right _ hkm
      simp
      omega) (by
    intro j hj
    rcases hown with ⟨h', _⟩ | ⟨g', cur, h', hh, _⟩
    · cases h'
    · cases h'
      exact frozen_of_row _ _ _ _ _ hh) (by intro v hv; simp only [List.mem_cons, List.not_mem_nil, or_false] at hv; rcases hv with rfl | rfl <;> rfl)
  simp only [Nat.add_zero] at hst
  have hr : (Builtin.clear_ #[56] o.type #[.slice (some ⟨g, k, none⟩) 1 c]).run Try.prog w = .ok (.tuple #[]) (w.setCells g k [.slice none 0 0, .bool false]) := by
    simp only [Builtin.clear_]
    simp [run_underlying Try.underlying56, hzc, hst]
  unfold Oper.wp execOp
  simp only [ho, resolve, invoke, builtin, Sem.run_bind, Sem.run_pure, Result.andThen_ok, List.map_toArray, List.map_cons, List.map_nil, hx, hr]
  obtain ⟨k1, k2⟩ := OwR.aways (g := g) (cap := cap) (L := L) [.slice none 0 0, .bool false] k w hown (Nat.le_of_eq hk)
  exact hK _ _ (h _ k1 k2)

set_option maxHeartbeats 1600000 in
theorem delete_any (g q cap : Nat) (L : List Fv) (k : Nat) (w : World) (ho : OwR fvC 2 63 w (some ⟨g, 0, none⟩) cap L) (hl : L.length = q + 1) (hk : k < q + 1) (hn : q ≤ 1000000) :
    Calls Try.prog 35 #[.slice (some ⟨g, 0, none⟩) (q + 1) cap, .int .i64 (k : Int), .int .i64 ((k : Int) + 1)] w fun e w' => e = .returned (.slice (some ⟨g, 0, none⟩) q cap) ∧ OwR fvC 2 63 w' (some ⟨g, 0, none⟩) cap (L.take k ++ L.drop (k + 1)) ∧ w.grownBy w' (some g) := by
  have hcap := ho.le
  rw [hl] at hcap
  have hmx := ho.rd.mx
  unfold maxLen at hmx
  have HO : Hid (OwR fvC 2 63 w (some ⟨g, 0, none⟩) cap L ∧ L.length = q + 1) := ⟨ho, hl⟩
  have HK : Hid (OwR fvC 2 63 w.drew (some ⟨g, 0, none⟩) cap (L.take k)) := (ho.sub fvE k).keep fun _ _ _ => rfl
  have hkm : (0 : Int) ≤ (k : Int) ∧ (k : Int) ≤ (q : Int) + 1 := by omega
  have hjn : (0 : Int) ≤ (k : Int) + 1 ∧ (k : Int) + 1 ≤ (q : Int) + 1 := by omega
  have hk0' : ¬ ((k : Int) < 0) := by omega
  have hcq : ¬ cap = q := by omega
  have hkc : k ≤ cap := by omega
  have hk1 : (k : Int) ≤ (k : Int) + 1 := by omega
  have hne : ((k : Int) == (k : Int) + 1) = false := by simp; omega
  have HT : Hid (∀ w2 : World, OwR fvC 2 63 w2 (some ⟨g, 0, none⟩) cap (L.take k ++ L.drop (k + 1)) → (L.take k ++ L.drop (k + 1)).length = q) := fun w2 _ => by rw [List.length_append, List.length_take, List.length_drop, hl]; omega
  by_cases hc : cap = k + 1
  · subst hc
    have HR : Hid (RdR fvC w.drew (some ⟨g, 0, none⟩) 0 (L.drop (k + 1))) := (RdR.tail (off := 0) fvE ho.rd (k + 1) (by omega) ⟨g, 0, none⟩ (fun h => by omega)).drew |> fun h => (by simpa using h : RdR fvC w.drew (some ⟨g, 0, none⟩) 0 (L.drop (k + 1)))
    clear ho hl
    go_enter Try.func35, Try.ntmps35
    go_upto_region 5 with fail
    go_region_law (refine step_append_fitR fvE _ (by rfl) _ _ 56 (by rfl) zF 32 Try.underlying56 info63 (g := g) (cap := k + 1) (n := k) (N := L.take k) (M := L.drop (k + 1)) (by rfl) (by rfl) HK.out HR.out (by rw [List.length_take]; have := HO.out.2; omega) (by rw [List.length_drop]; have := HO.out.2; omega) q (by omega) (by omega) ?_; intro w1 ho1 hg1)
    go_wp2_with (refine wpList_clear1 _ rfl _ rfl (g := g) (k := q * 2) rfl ho1 (by rw [HT.out w1 ho1]) (by rw [HT.out w1 ho1]; omega) ?_; intro w2 ho2 hg2)
    go_ret
    exact ⟨rfl, ho2, grown_trans ⟨hg1.os, hg1.tape, hg1.output, hg1.size, hg1.block⟩ hg2⟩
  · have HR : Hid (RdR fvC w.drew (some ⟨g, (k + 1) * 2, none⟩) (cap - (k + 1)) (L.drop (k + 1))) := (RdR.tail (off := 0) fvE ho.rd (k + 1) (by omega) ⟨g, (k + 1) * 2, none⟩ (fun h => by rw [Nat.zero_add])).drew
    clear ho hl
    go_enter Try.func35, Try.ntmps35
    go_upto_region 5 with fail
    go_region_law (refine step_append_fitR fvE _ (by rfl) _ _ 56 (by rfl) zF 32 Try.underlying56 info63 (g := g) (cap := cap) (n := k) (N := L.take k) (M := L.drop (k + 1)) (by rfl) (by rfl) HK.out HR.out (by rw [List.length_take]; have := HO.out.2; omega) (by rw [List.length_drop]; have := HO.out.2; omega) q (by omega) (by omega) ?_; intro w1 ho1 hg1)
    go_wp2_with (refine wpList_clear1 _ rfl _ rfl (g := g) (k := q * 2) rfl ho1 (by rw [HT.out w1 ho1]) (by rw [HT.out w1 ho1]; omega) ?_; intro w2 ho2 hg2)
    go_ret
    exact ⟨rfl, ho2, grown_trans ⟨hg1.os, hg1.tape, hg1.output, hg1.size, hg1.block⟩ hg2⟩

end Go.Proofs.Ytfllkhimlambhaa
