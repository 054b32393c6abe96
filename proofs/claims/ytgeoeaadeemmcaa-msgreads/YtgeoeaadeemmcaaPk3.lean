/- What the calls of package pack that read do, walked. -/
import Derived.Test.YtgeoeaadeemmcaaPk2
import Derived.Deep.QuietTactic
import Derived.BigQuiet
namespace Go.Proofs.Ytgeoeaadeemmcaa
open Go.RowKit
set_option linter.unusedVariables false

theorem getN_step (zs : List Int) (m k : Nat) (h : k < m) : (getN zs k ++ List.replicate (m - k) 0).set k (rdN ((zs.drop (3 * k)).take 3)) = getN zs (k + 1) ++ List.replicate (m - (k + 1)) 0 := by
  rw [List.set_append_right _ _ (by simp), show m - k = (m - (k + 1)) + 1 by omega, List.replicate_succ]
  simp [getN, List.range_succ]

theorem part_bd (zs : List Int) (i j : Nat) (hb : ∀ z ∈ zs, 0 ≤ z ∧ z < 256) : ∀ z ∈ (zs.drop i).take j, 0 ≤ z ∧ z < 256 :=
  fun z hz => hb z (List.mem_of_mem_drop (List.mem_of_mem_take hz))

theorem part3_bd (zs : List Int) (i : Nat) (hb : ∀ z ∈ zs, 0 ≤ z ∧ z < 256) : 0 ≤ rdN ((zs.drop i).take 3) ∧ rdN ((zs.drop i).take 3) < 16777216 := by
  have h1 := rdN_bd _ (part_bd zs i 3 hb)
  have h2 := pow256_le ((zs.drop i).take 3).length 3 (by simp; omega)
  have h3 : (256 : Int) ^ 3 = 16777216 := by decide
  omega

set_option maxHeartbeats 800000 in
theorem get_good (ao : Option Addr) (cap n m : Nat) (zs : List Int) (w : World) (hrd : RdI w .u8 ao cap zs) (hn : zs.length = n) (hb : ∀ z ∈ zs, 0 ≤ z ∧ z < 256) (hm : m ≤ 1000) (hmn : 3 * m ≤ n) (hlen : n ≤ 140737488355328) :
    Calls Try.prog 22 #[.slice ao n cap, .int .i64 m] w fun e w' => ∃ a1 c1 a2 c2, e = .returned (.tuple #[.slice a1 m c1, .slice a2 (n - 3 * m) c2, .int .i64 0]) ∧
      OwnI w' w.heap.size 3 .i64 a1 c1 (getN zs m) ∧ OwnI w' w.heap.size 5 .u8 a2 c2 (zs.drop (3 * m)) ∧ Below w.heap.size w w' := by
  have hle := hrd.le
  go_enter Try.func22, Try.ntmps22
  go_wp2_with (at_make; refine wpList_makeNI _ rfl _ _ 57 rfl w.heap.size 3 .i64 8 Try.underlying57 info3 m rfl rfl rfl rfl (by omega) (by unfold maxLen; omega) (Nat.le_refl _) ?_; intro g w1 hg ho1 hb1)
  go_loopw [25] (fun i wr => ∃ (k : Nat), k ≤ m ∧ i = .int .i64 k ∧ OwnI wr w.heap.size 3 .i64 (some ⟨g, 0, none⟩) m (getN zs k ++ List.replicate (m - k) 0) ∧ Below w.heap.size w wr) (fun i _ => m - (intOf i).toNat)
  case atStart => exact ⟨0, Nat.zero_le _, rfl, ho1, hb1⟩
  case round =>
    obtain ⟨k, hk, rfl, ho, hbel⟩ := hrel
    by_cases hlt : k < m
    · have hcut := (hrd.below hbel).cut (3 * k) (3 * (k + 1)) (by omega) (by omega)
      rw [if_neg (by omega), show 3 * (k + 1) - 3 * k = 3 by omega] at hcut
      have hf1 := ho.frozenAt k
      have hc1 := ho.cellAt k (by simp; omega)
      have hp := part3_bd zs (3 * k) hb
      have hp1 := hp.1
      have hp2 := hp.2
      have HST : Hid (OwnI (wr.setCell ⟨g, k, none⟩ (.int .i64 (rdN ((zs.drop (3 * k)).take 3)))) w.heap.size 3 .i64 (some ⟨g, 0, none⟩) m ((getN zs k ++ List.replicate (m - k) 0).set k (rdN ((zs.drop (3 * k)).take 3)))) := ho.stored k _
      rw [getN_step zs m k hlt] at HST
      clear hp
      go_wp2_with (go_at_call 47; refine (readForm_any _ _ _ _ _ hcut (by simp; omega) (by omega) (part_bd zs _ _ hb)).mono ?_; rintro e w' ⟨rfl, rfl⟩)
      go_roundw
      case rel => exact ⟨k + 1, by omega, by go_num, HST.out, hbel.setCell hg _⟩
      case measure => simp [intOf]; omega
    · have hkm : k = m := by omega
      subst hkm
      rw [Nat.sub_self, List.replicate_zero, List.append_nil] at ho
      go_wp2_with (go_at_call 48; refine (rest_any _ _ _ (3 * k) _ _ (hrd.below hbel) hn (by omega) hlen).mono ?_; rintro e w2 ⟨ao2, cap2, rfl, ho2, hb2⟩)
      go_ret3
      exact ⟨_, _, _, _, rfl, ho.below hb2, ho2.mono hbel.size, hbel.trans (hb2.mono hbel.size)⟩

end Go.Proofs.Ytgeoeaadeemmcaa
