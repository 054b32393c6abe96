/- What Cycle, Victim, Reach and Without of package waits do, walked. -/
import Derived.Test.YteofipheoipeoaaDoorW2
namespace Go.Proofs.YteofipheoipeoaaDoor
open Go.RowKit
set_option linter.unusedVariables false

theorem cy_nat {E : List (Int × Int)} {k : Nat} (h : k < 4) : cyB E (k : Int) = rB E k k := by simp [cyB, cl_nat h]
theorem has_pm (E : List (Int × Int)) (i k : Nat) (hk : k < 4) (w : World) : Calls Tryd.prog 23 #[.int .u64 (pm E i : Nat), .int .i64 (k : Int)] w fun e w' => e = .returned (.bool (rB E i k)) ∧ w' = w := by
  have h := has_in (pm E i) k (pm_lt E i) hk w
  rw [pm_bit E i k hk] at h
  exact h

theorem cycle_any (w : World) (ao : Option Addr) (n cap : Nat) (E : List (Int × Int)) (hr : RdE w ao cap E) (hn : E.length = n) (H : Tz w) (c : Int) : Calls Tryd.prog 12 #[.slice ao n cap, .int .i64 c] w fun e w' => e = .returned (.bool (cyB E c)) ∧ Below w.heap.size w w' := by
  cases h1 : clB c
  · go_enter Tryd.func12, Tryd.ntmps12
    go_wp2_with (go_at_call 24; refine (client_any c _).mono ?_; rw [h1]; rintro e w1 ⟨rfl, hw⟩; subst w1)
    go_ret
    exact ⟨ret_bool (by simp [cyB, h1]), Below.refl _ _⟩
  · obtain ⟨k, hk, rfl⟩ := nat_of_cl h1
    rw [cy_nat hk]
    go_enter Tryd.func12, Tryd.ntmps12
    go_wp2_with (first
      | (go_at_call 24; refine (client_any k _).mono ?_; rw [h1]; rintro e w1 ⟨rfl, hw⟩; subst w1)
      | (go_at_call 21; refine (graph_any _ ao n cap E hr hn).mono ?_; rintro e w2 ⟨rfl, hb2⟩; have hT2 := H.on hb2)
      | (go_at_call 22; refine (reach_in E k hk _ hT2).mono ?_; rintro e w3 ⟨rfl, hb3⟩)
      | (go_at_call 23; refine (has_pm E k k hk _).mono ?_; rintro e w4 ⟨rfl, hw⟩; subst w4))
    go_ret
    exact ⟨rfl, below_step hb2 hb3⟩

theorem vc_yes {E : List (Int × Int)} {m : Nat} (hm : m < 4) (h : rB E m m = true) (hu : ∀ j, m < j → j < 4 → rB E j j = false) : vcI E = m ∧ vcB E = true := by
  unfold vcI vcB
  match m, hm with
  | 0, _ => simp [h, hu 1 (by decide) (by decide), hu 2 (by decide) (by decide), hu 3 (by decide) (by decide)]
  | 1, _ => simp [h, hu 2 (by decide) (by decide), hu 3 (by decide) (by decide)]
  | 2, _ => simp [h, hu 3 (by decide) (by decide)]
  | 3, _ => simp [h]
theorem vc_no {E : List (Int × Int)} (hu : ∀ j, j < 4 → rB E j j = false) : vcI E = 0 ∧ vcB E = false := by
  unfold vcI vcB
  simp [hu 0 (by decide), hu 1 (by decide), hu 2 (by decide), hu 3 (by decide)]

set_option maxHeartbeats 800000 in
theorem victim_any (w : World) (ao : Option Addr) (n cap : Nat) (E : List (Int × Int)) (hr : RdE w ao cap E) (hn : E.length = n) (H : Tz w) : Calls Tryd.prog 9 #[.slice ao n cap] w fun e w' => e = .returned (.tuple #[.int .i64 (vcI E), .bool (vcB E)]) ∧ Below w.heap.size w w' := by
  go_enter Tryd.func9, Tryd.ntmps9
  go_wp2_with (go_at_call 21; refine (graph_any _ ao n cap E hr hn).mono ?_; rintro e w2 ⟨rfl, hb2⟩; have hs2 := hb2.size)
  go_loopw [5] (fun i wr => ∃ (z : Int) (k : Nat), i = .int .i64 z ∧ z + 1 = k ∧ k ≤ 4 ∧ Hid (∀ j, k ≤ j → j < 4 → rB E j j = false) ∧ G4 wr w2.heap.size (gA E) ∧ Below w.heap.size w wr) (fun i _ => (intOf i + 1).toNat)
  case atStart => exact ⟨3, 4, rfl, by omega, by omega, fun j h1 h2 => by omega, ⟨heap_alloc_new w2 _⟩, hb2.alloc hb2.size _⟩
  case round =>
    obtain ⟨z, k, rfl, hz, hk, HV, hG, hbel⟩ := hrel
    rename World => wr
    have hT := H.on hbel
    cases k with
    | zero =>
      obtain rfl : z = -1 := by omega
      clear hz
      go_wp2
      go_returns
      have := vc_no (fun j hj => HV.out j (by omega) hj)
      exact ⟨by rw [this.1, this.2]; rfl, hbel⟩
    | succ m =>
      obtain rfl : z = m := by omega
      have hm : m < 4 := by omega
      clear hz
      have c0 := hG.cell 0 (by decide)
      have c1 := hG.cell 1 (by decide)
      have c2 := hG.cell 2 (by decide)
      have c3 := hG.cell 3 (by decide)
      have hr1 := reach_in E m hm wr hT
      have e3 : decide ((m : Int) ≥ 0) = true := by simp
      cases hb : rB E m m
      · have HB : Hid (rB E m m = false) := hb
        have hh := has_pm E m m hm
        rw [hb] at hh
        clear hb
        go_wp2_with (first
          | (go_at_call 22; refine hr1.mono ?_; rintro e w3 ⟨rfl, hb3⟩)
          | (go_at_call 23; refine (hh _).mono ?_; rintro e w4 ⟨rfl, hw⟩; subst w4))
        go_roundw
        case rel =>
          refine ⟨(m : Int) - 1, m, by go_num, by omega, by omega, fun j h1 h2 => ?_, hG.below hb3, below_step hbel hb3⟩
          rcases Nat.lt_or_ge m j with h | h
          · exact HV.out j h h2
          · have : j = m := by omega
            subst this
            exact HB.out
        case measure => simp [intOf]
      · have HB : Hid (rB E m m = true) := hb
        have hh := has_pm E m m hm
        rw [hb] at hh
        clear hb
        go_wp2_with (first
          | (go_at_call 22; refine hr1.mono ?_; rintro e w3 ⟨rfl, hb3⟩)
          | (go_at_call 23; refine (hh _).mono ?_; rintro e w4 ⟨rfl, hw⟩; subst w4))
        go_returns
        have := vc_yes hm HB.out (fun j h1 h2 => HV.out j h1 h2)
        exact ⟨by rw [this.1, this.2]; rfl, below_step hbel hb3⟩

theorem rl_no {E : List (Int × Int)} {c k : Nat} (h : rB E c k = false) : rl E c (k + 1) = rl E c k := by simp [rl, h]
theorem rl_yes {E : List (Int × Int)} {c k : Nat} (h : rB E c k = true) : rl E c (k + 1) = rl E c k ++ [(k : Int)] := by simp [rl, h]
theorem rlI_len (E : List (Int × Int)) (c : Int) : (rlI E c).length ≤ 4 := by
  unfold rlI
  split
  · exact rl_len _ _ _
  · simp

set_option maxHeartbeats 800000 in
theorem reach_any (w : World) (ao : Option Addr) (n cap : Nat) (E : List (Int × Int)) (hr : RdE w ao cap E) (hn : E.length = n) (H : Tz w) (c : Int) : Calls Tryd.prog 11 #[.slice ao n cap, .int .i64 c] w fun e w' => ∃ ao2 n2 cap2, e = .returned (.slice ao2 n2 cap2) ∧ OwnI w' w.heap.size 3 .i64 ao2 cap2 (rlI E c) ∧ (rlI E c).length = n2 ∧ Below w.heap.size w w' := by
  cases h1 : clB c
  · have e0 : rlI E c = [] := by simp [rlI, h1]
    rw [e0]
    clear e0
    go_enter Tryd.func11, Tryd.ntmps11
    go_wp2_with (go_at_call 24; refine (client_any c _).mono ?_; rw [h1]; rintro e w1 ⟨rfl, hw⟩; subst w1)
    go_ret
    exact ⟨none, 0, 0, rfl, OwnI.nil _ _ _ _, rfl, Below.refl _ _⟩
  · obtain ⟨k, hk, rfl⟩ := nat_of_cl h1
    have e0 : rlI E (k : Int) = rl E k 4 := by simp [rlI, h1]
    rw [e0]
    clear e0
    go_enter Tryd.func11, Tryd.ntmps11
    go_wp2_with (first
      | (go_at_call 24; refine (client_any k _).mono ?_; rw [h1]; rintro e w1 ⟨rfl, hw⟩; subst w1)
      | (go_at_call 21; refine (graph_any _ ao n cap E hr hn).mono ?_; rintro e w2 ⟨rfl, hb2⟩; have hT2 := H.on hb2)
      | (go_at_call 22; refine (reach_in E k hk _ hT2).mono ?_; rintro e w3 ⟨rfl, hb3⟩; have hB3 := below_step hb2 hb3))
    go_loopw [6, 15] (fun v i wq => ∃ (t : Nat) (ao : Option Addr) (n cap : Nat), t ≤ 4 ∧ i = .int .i64 t ∧ v = .slice ao n cap ∧ Hid (OwnI wq w.heap.size 3 .i64 ao cap (rl E k t) ∧ (rl E k t).length = n) ∧ Below w.heap.size w wq) (fun _ i _ => 4 - (intOf i).toNat)
    case atStart => exact ⟨0, none, 0, 0, by omega, rfl, rfl, ⟨by simpa [rl] using OwnI.nil _ _ _ _, rfl⟩, hB3⟩
    case round =>
      obtain ⟨t, ao, n, cap, ht, rfl, rfl, HI, hbel⟩ := hrel
      rename World => wq
      by_cases hlt : t < 4
      · have hn4 := rl_len E k t
        have hn := HI.out.2
        rw [hn] at hn4
        clear hn
        cases hb : rB E k t
        · have HB : Hid (rB E k t = false) := hb
          have hh := has_pm E k t hlt
          rw [hb] at hh
          clear hb
          go_wp2_with (go_at_call 23; refine (hh _).mono ?_; rintro e w4 ⟨rfl, hw⟩; subst w4)
          go_roundw
          case rel => exact ⟨t + 1, ao, n, cap, by omega, by go_num, rfl, by rw [rl_no HB.out]; exact HI.out, hbel⟩
          case measure => simp [intOf]; omega
        · have HB : Hid (rB E k t = true) := hb
          have hh := has_pm E k t hlt
          rw [hb] at hh
          clear hb
          go_wp2_with (first
            | (go_at_call 23; refine (hh _).mono ?_; rintro e w4 ⟨rfl, hw⟩; subst w4)
            | (at_builtin; refine wpList_append_rdI _ rfl _ _ 25 rfl w.heap.size 3 .i64 (.int .i64 0) 8 Tryd.underlying25 info3 rfl rfl rfl (HI.out.1.alloc _) (RdI.built _ 3 .i64 #[.int .i64 (t : Int)] 1 [(t : Int)] rfl rfl (by simp [maxLen])) HI.out.2 rfl (by omega) (by unfold maxLen; omega) (by have := hbel.size; simp; omega) ?_; intro ao2 cap2 w3 ho3 hb3))
          go_roundw
          case rel => exact ⟨t + 1, ao2, n + 1, cap2, by omega, by go_num, rfl, by rw [rl_yes HB.out]; exact ⟨ho3, by simp [HI.out.2]⟩, hbel.trans (((Below.refl _ _).alloc hbel.size _).trans hb3)⟩
          case measure => simp [intOf]; omega
      · obtain rfl : t = 4 := by omega
        go_wp2
        go_ret
        exact ⟨ao, n, cap, rfl, HI.out.1, HI.out.2, hbel⟩

theorem OwnE.alloc {w : World} {base : Nat} {ao : Option Addr} {cap : Nat} {E : List (Int × Int)} (h : OwnE w base ao cap E) (o : Obj) : OwnE (w.alloc o) base ao cap E := h.below ((Below.refl _ _).alloc (Nat.le_refl _) o)
theorem RdE.alloc {w : World} {ao : Option Addr} {cap : Nat} {E : List (Int × Int)} (h : RdE w ao cap E) (o : Obj) : RdE (w.alloc o) ao cap E := h.below ((Below.refl _ _).alloc (Nat.le_refl _) o)
theorem RdE.built2 (w : World) (o : Obj) (cs : Array Value) (E : List (Int × Int)) (hc : cs.toList = ec E) (hm : E.length ≤ maxLen) (n : Nat) (hn : E.length = n) : RdE ((w.alloc o).alloc (.cells cs 29)) (some ⟨w.heap.size + 1, 0, none⟩) n E := by
  have h := RdE.built (w.alloc o) cs E hc hm n hn
  rwa [show (w.alloc o).heap.size = w.heap.size + 1 by simp] at h

theorem wo_no {E : List (Int × Int)} {c : Int} {k : Nat} {e : Int × Int} (h : E[k]? = some e) (hc : (e.1 != c) = false) : wo (E.take (k + 1)) c = wo (E.take k) c := by
  unfold wo
  rw [List.take_add_one, h, List.filter_append]
  simp [hc]
theorem wo_yes {E : List (Int × Int)} {c : Int} {k : Nat} {e : Int × Int} (h : E[k]? = some e) (hc : (e.1 != c) = true) : wo (E.take (k + 1)) c = wo (E.take k) c ++ [e] := by
  unfold wo
  rw [List.take_add_one, h, List.filter_append]
  simp [hc]

set_option maxHeartbeats 800000 in
theorem without_any (w : World) (ao : Option Addr) (n cap : Nat) (E : List (Int × Int)) (hr : RdE w ao cap E) (hn : E.length = n) (hsz : n * 16 ≤ 140737488355328) (c : Int) : Calls Tryd.prog 18 #[.slice ao n cap, .int .i64 c] w fun e w' => ∃ ao2 n2 cap2, e = .returned (.slice ao2 n2 cap2) ∧ OwnE w' w.heap.size ao2 cap2 (wo E c) ∧ (wo E c).length = n2 ∧ Below w.heap.size w w' := by
  have hle := hr.le
  have hmx := hr.mx
  simp only [maxLen] at hmx
  go_enter Tryd.func18, Tryd.ntmps18
  go_wp2
  go_loopw [5, 10] (fun v i wq => ∃ (t : Nat) (ao : Option Addr) (m cap : Nat), t ≤ n ∧ i = .int .i64 t ∧ v = .slice ao m cap ∧ Hid (OwnE wq w.heap.size ao cap (wo (E.take t) c) ∧ (wo (E.take t) c).length = m) ∧ m ≤ t ∧ Below w.heap.size w wq) (fun _ i _ => n - (intOf i).toNat)
  case atStart => exact ⟨0, none, 0, 0, by omega, rfl, rfl, ⟨by simpa [wo] using OwnE.nil _ _, rfl⟩, by omega, by go_grown⟩
  case round =>
    obtain ⟨t, ao, m, cap, ht, rfl, rfl, HI, hmt, hbel⟩ := hrel
    rename World => wq
    by_cases hlt : t < n
    · obtain ⟨b, off, rfl, hbl, c0, c1⟩ := (hr.below hbel).at (t := t) (by omega)
      have he : E[t]? = some E[t] := List.getElem?_eq_getElem (by omega)
      generalize E[t] = x at *
      obtain ⟨x, y⟩ := x
      have HE : Hid (E[t]? = some (x, y)) := he
      clear he
      cases hb : (x != c)
      · have HB : Hid ((x != c) = false) := hb
        go_wp2
        go_roundw
        case rel => exact ⟨t + 1, ao, m, cap, by omega, by go_num, rfl, by rw [wo_no HE.out HB.out]; exact ⟨HI.out.1.alloc _, HI.out.2⟩, by omega, hbel.alloc hbel.size _⟩
        case measure => simp [intOf]; omega
      · have HB : Hid ((x != c) = true) := hb
        go_wp2_with (at_builtin; refine wpList_append_rdE _ rfl _ _ rfl w.heap.size rfl rfl ((HI.out.1.alloc _).alloc _) (RdE.built2 _ _ #[.int .i64 x, .int .i64 y] [(x, y)] rfl (by simp [maxLen]) 1 rfl) HI.out.2 rfl (by omega) (by have := hbel.size; simp; omega) ?_; intro ao2 cap2 w3 ho3 hb3)
        go_roundw
        case rel => exact ⟨t + 1, ao2, m + 1, cap2, by omega, by go_num, rfl, by rw [wo_yes HE.out HB.out]; exact ⟨ho3, by simp [HI.out.2]⟩, by omega, hbel.trans ((((Below.refl _ _).alloc hbel.size _).alloc (by have := hbel.size; simp; omega) _).trans hb3)⟩
        case measure => simp [intOf]; omega
    · obtain rfl : t = n := by omega
      go_wp2
      go_ret
      refine ⟨ao, m, cap, rfl, ?_, ?_, hbel⟩
      · have := HI.out.1
        rwa [List.take_of_length_le (by omega)] at this
      · have := HI.out.2
        rwa [List.take_of_length_le (by omega)] at this

end Go.Proofs.YteofipheoipeoaaDoor
