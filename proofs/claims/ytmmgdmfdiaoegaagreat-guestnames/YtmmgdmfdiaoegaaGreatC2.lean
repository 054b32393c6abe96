/- slices.Delete of one entry, walked. -/
import Derived.Test.YtmmgdmfdiaoegaaGreatC1
import Derived.Deep.RegionHeldLaw
import Derived.Deep.RegionLaw
import Derived.Deep.CutBlock
namespace Go.Proofs.YtmmgdmfdiaoegaaGreat
open Go.RowKit
set_option linter.unusedVariables false
set_option maxRecDepth 8000

set_option maxHeartbeats 1600000 in
theorem delete_any (g q cap : Nat) (L : List En) (k : Nat) (w : World) (ho : OwR enC 7 135 w (some ⟨g, 0, none⟩) cap L) (hl : L.length = q + 1) (hk : k < q + 1) (hn : q ≤ 1000000) :
    Calls Tryz.prog 103 #[.slice (some ⟨g, 0, none⟩) (q + 1) cap, .int .i64 (k : Int), .int .i64 ((k : Int) + 1)] w fun e w' => e = .returned (.slice (some ⟨g, 0, none⟩) q cap) ∧ OwR enC 7 135 w' (some ⟨g, 0, none⟩) cap (L.take k ++ L.drop (k + 1)) ∧ w.grownBy w' (some g) := by
  have hcap := ho.le
  rw [hl] at hcap
  have hmx := ho.rd.mx
  unfold maxLen at hmx
  have HO : Hid (OwR enC 7 135 w (some ⟨g, 0, none⟩) cap L ∧ L.length = q + 1) := ⟨ho, hl⟩
  have HK : Hid (OwR enC 7 135 w.drew (some ⟨g, 0, none⟩) cap (L.take k)) := (ho.sub enE k).keep fun _ _ _ => rfl
  have hkm : (0 : Int) ≤ (k : Int) ∧ (k : Int) ≤ (q : Int) + 1 := by omega
  have hjn : (0 : Int) ≤ (k : Int) + 1 ∧ (k : Int) + 1 ≤ (q : Int) + 1 := by omega
  have hk0' : ¬ ((k : Int) < 0) := by omega
  have hcq : ¬ cap = q := by omega
  have hkc : k ≤ cap := by omega
  have hk1 : (k : Int) ≤ (k : Int) + 1 := by omega
  have hne : ((k : Int) == (k : Int) + 1) = false := by simp; omega
  have HT : Hid (∀ w2 : World, OwR enC 7 135 w2 (some ⟨g, 0, none⟩) cap (L.take k ++ L.drop (k + 1)) → (L.take k ++ L.drop (k + 1)).length = q) := fun w2 _ => by rw [List.length_append, List.length_take, List.length_drop, hl]; omega
  by_cases hc : cap = k + 1
  · subst hc
    have HR : Hid (RdR enC w.drew (some ⟨g, 0, none⟩) 0 (L.drop (k + 1))) := (RdR.tail (off := 0) enE ho.rd (k + 1) (by omega) ⟨g, 0, none⟩ (fun h => by omega)).drew |> fun h => (by simpa using h : RdR enC w.drew (some ⟨g, 0, none⟩) 0 (L.drop (k + 1)))
    clear ho hl
    go_enter Tryz.func103, Tryz.ntmps103
    go_upto_region 5 with fail
    go_region_law (refine step_append_fitR enE _ (by rfl) _ _ 64 (by rfl) zE 88 Tryz.underlying64 info43 (g := g) (cap := k + 1) (n := k) (N := L.take k) (M := L.drop (k + 1)) (by rfl) (by rfl) HK.out HR.out (by rw [List.length_take]; have := HO.out.2; omega) (by rw [List.length_drop]; have := HO.out.2; omega) q (by omega) (by omega) ?_; intro w1 ho1 hg1)
    go_wp2_with (refine wpList_clear1 _ rfl _ rfl (g := g) (k := q * 7) rfl ho1 (by rw [HT.out w1 ho1]) (by rw [HT.out w1 ho1]; omega) ?_; intro w2 ho2 hg2)
    go_ret
    exact ⟨rfl, ho2, grown_trans ⟨hg1.os, hg1.tape, hg1.output, hg1.size, hg1.block⟩ hg2⟩
  · have HR : Hid (RdR enC w.drew (some ⟨g, (k + 1) * 7, none⟩) (cap - (k + 1)) (L.drop (k + 1))) := (RdR.tail (off := 0) enE ho.rd (k + 1) (by omega) ⟨g, (k + 1) * 7, none⟩ (fun h => by rw [Nat.zero_add])).drew
    clear ho hl
    go_enter Tryz.func103, Tryz.ntmps103
    go_upto_region 5 with fail
    go_region_law (refine step_append_fitR enE _ (by rfl) _ _ 64 (by rfl) zE 88 Tryz.underlying64 info43 (g := g) (cap := cap) (n := k) (N := L.take k) (M := L.drop (k + 1)) (by rfl) (by rfl) HK.out HR.out (by rw [List.length_take]; have := HO.out.2; omega) (by rw [List.length_drop]; have := HO.out.2; omega) q (by omega) (by omega) ?_; intro w1 ho1 hg1)
    go_wp2_with (refine wpList_clear1 _ rfl _ rfl (g := g) (k := q * 7) rfl ho1 (by rw [HT.out w1 ho1]) (by rw [HT.out w1 ho1]; omega) ?_; intro w2 ho2 hg2)
    go_ret
    exact ⟨rfl, ho2, grown_trans ⟨hg1.os, hg1.tape, hg1.output, hg1.size, hg1.block⟩ hg2⟩

end Go.Proofs.YtmmgdmfdiaoegaaGreat
