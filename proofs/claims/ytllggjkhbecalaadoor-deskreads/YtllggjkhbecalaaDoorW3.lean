/- What Cycle, Victim, Reach and Without of package waits do, walked. -/
import Derived.Test.YtllggjkhbecalaaDoorW2
namespace Go.Proofs.YtllggjkhbecalaaDoor.Wai
open Go.RowKit
set_option linter.unusedVariables false
set_option maxRecDepth 8000

theorem cy_nat {E : List (Int × Int)} {k : Nat} (h : k < 4) : cyB E (k : Int) = rB E k k := by simp [cyB, cl_nat h]
theorem has_pm (E : List (Int × Int)) (i k : Nat) (hk : k < 4) (w : World) : Calls Tryd.prog 50 #[.int .u64 (pm E i : Nat), .int .i64 (k : Int)] w fun e w' => e = .returned (.bool (rB E i k)) ∧ w' = w := by
  have h := has_in (pm E i) k (pm_lt E i) hk w
  rw [pm_bit E i k hk] at h
  exact h

theorem vc_yes {E : List (Int × Int)} {m : Nat} (hm : m < 4) (h : rB E m m = true) (hu : ∀ j, m < j → j < 4 → rB E j j = false) : vcI E = m ∧ vcB E = true := by
  unfold vcI vcB
  match m, hm with
  | 0, _ => simp [h, hu 1 (by decide) (by decide), hu 2 (by decide) (by decide), hu 3 (by decide) (by decide)]
  | 1, _ => simp [h, hu 2 (by decide) (by decide), hu 3 (by decide) (by decide)]
  | 2, _ => simp [h, hu 3 (by decide) (by decide)]
  | 3, _ => simp [h]
theorem vc_no {E : List (Int × Int)} (hu : ∀ j, j < 4 → rB E j j = false) : vcI E = 0 ∧ vcB E = false := by
  unfold vcI vcB
  simp [hu 0 (by decide), hu 1 (by decide), hu 2 (by decide), hu 3 (by decide)]

set_option maxHeartbeats 800000 in
theorem victim_any (w : World) (ao : Option Addr) (n cap : Nat) (E : List (Int × Int)) (hr : RdE w ao cap E) (hn : E.length = n) (H : Tz w) : Calls Tryd.prog 38 #[.slice ao n cap] w fun e w' => e = .returned (.tuple #[.int .i64 (vcI E), .bool (vcB E)]) ∧ Below w.heap.size w w' := by
  go_enter Tryd.func38, Tryd.ntmps38
  go_wp2_with (go_at_call 48; refine (graph_any _ ao n cap E hr hn).mono ?_; rintro e w2 ⟨rfl, hb2⟩; have hs2 := hb2.size)
  go_loopw [5] (fun i wr => ∃ (z : Int) (k : Nat), i = .int .i64 z ∧ z + 1 = k ∧ k ≤ 4 ∧ Hid (∀ j, k ≤ j → j < 4 → rB E j j = false) ∧ G4 wr w2.heap.size (gA E) ∧ Below w.heap.size w wr) (fun i _ => (intOf i + 1).toNat)
  case atStart => exact ⟨3, 4, rfl, by omega, by omega, fun j h1 h2 => by omega, ⟨heap_alloc_new w2 _⟩, hb2.alloc hb2.size _⟩
  case round =>
    obtain ⟨z, k, rfl, hz, hk, HV, hG, hbel⟩ := hrel
    rename World => wr
    have hT := H.on hbel
    cases k with
    | zero =>
      obtain rfl : z = -1 := by omega
      clear hz
      go_wp2
      go_returns
      have := vc_no (fun j hj => HV.out j (by omega) hj)
      exact ⟨by rw [this.1, this.2]; rfl, hbel⟩
    | succ m =>
      obtain rfl : z = m := by omega
      have hm : m < 4 := by omega
      clear hz
      have c0 := hG.cell 0 (by decide)
      have c1 := hG.cell 1 (by decide)
      have c2 := hG.cell 2 (by decide)
      have c3 := hG.cell 3 (by decide)
      have hr1 := reach_in E m hm wr hT
      have e3 : decide ((m : Int) ≥ 0) = true := by simp
      cases hb : rB E m m
      · have HB : Hid (rB E m m = false) := hb
        have hh := has_pm E m m hm
        rw [hb] at hh
        clear hb
        go_wp2_with (first
          | (go_at_call 49; refine hr1.mono ?_; rintro e w3 ⟨rfl, hb3⟩)
          | (go_at_call 50; refine (hh _).mono ?_; rintro e w4 ⟨rfl, hw⟩; subst w4))
        go_roundw
        case rel =>
          refine ⟨(m : Int) - 1, m, by go_num, by omega, by omega, fun j h1 h2 => ?_, hG.below hb3, below_step hbel hb3⟩
          rcases Nat.lt_or_ge m j with h | h
          · exact HV.out j h h2
          · have : j = m := by omega
            subst this
            exact HB.out
        case measure => simp [intOf]
      · have HB : Hid (rB E m m = true) := hb
        have hh := has_pm E m m hm
        rw [hb] at hh
        clear hb
        go_wp2_with (first
          | (go_at_call 49; refine hr1.mono ?_; rintro e w3 ⟨rfl, hb3⟩)
          | (go_at_call 50; refine (hh _).mono ?_; rintro e w4 ⟨rfl, hw⟩; subst w4))
        go_returns
        have := vc_yes hm HB.out (fun j h1 h2 => HV.out j h1 h2)
        exact ⟨by rw [this.1, this.2]; rfl, below_step hbel hb3⟩

theorem rl_no {E : List (Int × Int)} {c k : Nat} (h : rB E c k = false) : rl E c (k + 1) = rl E c k := by simp [rl, h]
theorem rl_yes {E : List (Int × Int)} {c k : Nat} (h : rB E c k = true) : rl E c (k + 1) = rl E c k ++ [(k : Int)] := by simp [rl, h]
theorem rlI_len (E : List (Int × Int)) (c : Int) : (rlI E c).length ≤ 4 := by
  unfold rlI
  split
  · exact rl_len _ _ _
  · simp

theorem OwnE.alloc {w : World} {base : Nat} {ao : Option Addr} {cap : Nat} {E : List (Int × Int)} (h : OwnE w base ao cap E) (o : Obj) : OwnE (w.alloc o) base ao cap E := h.below ((Below.refl _ _).alloc (Nat.le_refl _) o)
theorem RdE.alloc {w : World} {ao : Option Addr} {cap : Nat} {E : List (Int × Int)} (h : RdE w ao cap E) (o : Obj) : RdE (w.alloc o) ao cap E := h.below ((Below.refl _ _).alloc (Nat.le_refl _) o)
theorem RdE.built2 (w : World) (o : Obj) (cs : Array Value) (E : List (Int × Int)) (hc : cs.toList = ec E) (hm : E.length ≤ maxLen) (n : Nat) (hn : E.length = n) : RdE ((w.alloc o).alloc (.cells cs 64)) (some ⟨w.heap.size + 1, 0, none⟩) n E := by
  have h := RdE.built (w.alloc o) cs E hc hm n hn
  rwa [show (w.alloc o).heap.size = w.heap.size + 1 by simp] at h

theorem wo_no {E : List (Int × Int)} {c : Int} {k : Nat} {e : Int × Int} (h : E[k]? = some e) (hc : (e.1 != c) = false) : wo (E.take (k + 1)) c = wo (E.take k) c := by
  unfold wo
  rw [List.take_add_one, h, List.filter_append]
  simp [hc]
theorem wo_yes {E : List (Int × Int)} {c : Int} {k : Nat} {e : Int × Int} (h : E[k]? = some e) (hc : (e.1 != c) = true) : wo (E.take (k + 1)) c = wo (E.take k) c ++ [e] := by
  unfold wo
  rw [List.take_add_one, h, List.filter_append]
  simp [hc]

end Go.Proofs.YtllggjkhbecalaaDoor.Wai
