/- What the document's answer for packets does, walked: Packet and Frame. -/
import Derived.Test.YtgeoeaadeemmcaaPc
import Derived.Test.YtgeoeaadeemmcaaPr1
import Derived.Test.YtgeoeaadeemmcaaRf2
namespace Go.Proofs.Ytgeoeaadeemmcaa
open Go.RowKit
set_option linter.unusedVariables false

theorem refFlag_any (b : Bool) (w : World) : Calls Try.prog 35 #[.bool b] w fun e w' => e = .returned (.int .i64 (flgI b)) ∧ w' = w := by
  cases b
  all_goals
    go_enter Try.func35, Try.ntmps35
    go_wp2
    go_ret
    exact ⟨rfl, rfl⟩

theorem refNums_at (W : World) (g m q : Nat) (hg : W.heap.size = g) (xs : Array Value) (zs : List Int) (hx : xs.toList = zs.map (Value.int .i64)) (hm : zs.length = m) (hq : q = 3 * m) (hz : ∀ z ∈ zs, 0 ≤ z ∧ z ≤ 16777215) (hs : m ≤ 1000) :
    Calls Try.prog 34 #[.slice (some ⟨g, 0, none⟩) m m] (W.alloc (.cells xs 3)) fun e w' => ∃ ao cap, e = .returned (.tuple #[.slice ao q cap, .int .i64 0]) ∧
      OwnI w' W.heap.size 5 .u8 ao cap (formsN zs) ∧ Below W.heap.size W w' := by
  subst hg hq
  have hr := RdI.built W 3 .i64 xs m zs hx hm (by unfold maxLen; omega)
  refine (refNums_good _ m m zs _ hr hm (by omega) hz).mono ?_
  rintro e w2 ⟨ao2, cap2, rfl, ho2, hb2⟩
  have hs3 : (W.alloc (.cells xs 3)).heap.size = W.heap.size + 1 := by simp
  rw [hs3] at ho2 hb2
  exact ⟨_, _, rfl, ho2.mono (by omega), (below_box W _).trans (hb2.mono (by omega))⟩

set_option maxRecDepth 100000 in
/-- Four numbers, one by one. -/
theorem idxI4 (a b c d : Int) (W : World) :
    (Instr.index 95 (.agg #[.int .i64 a, .int .i64 b, .int .i64 c, .int .i64 d]) (.int .i64 0)).run Try.prog W = .ok (.int .i64 a) W ∧
    (Instr.index 95 (.agg #[.int .i64 a, .int .i64 b, .int .i64 c, .int .i64 d]) (.int .i64 1)).run Try.prog W = .ok (.int .i64 b) W ∧
    (Instr.index 95 (.agg #[.int .i64 a, .int .i64 b, .int .i64 c, .int .i64 d]) (.int .i64 2)).run Try.prog W = .ok (.int .i64 c) W ∧
    (Instr.index 95 (.agg #[.int .i64 a, .int .i64 b, .int .i64 c, .int .i64 d]) (.int .i64 3)).run Try.prog W = .ok (.int .i64 d) W := by
  refine ⟨?_, ?_, ?_, ?_⟩
  all_goals rfl

def ok24 (z : Int) : Bool := btw z 0 16777215

theorem packB_bad {P : PkG} {n : Nat} (h : ok24 P.ep = false ∨ ok24 P.bo = false ∨ ok24 P.sq = false ∨ ok24 P.ak = false) : packB P n = false := by
  unfold ok24 at h
  unfold packB
  rcases h with h | h | h | h
  all_goals simp [h]

set_option maxHeartbeats 800000 in
theorem refPacket_any (P : PkG) (ao : Option Addr) (n cap : Nat) (w : World) : Calls Try.prog 33 #[pkV P ao n cap] w fun x w' => x = .returned (.bool (packB P n)) ∧ Below w.heap.size w w' := by
  have i0 := fun W => (idxI4 P.ep P.bo P.sq P.ak W).1
  have i1 := fun W => (idxI4 P.ep P.bo P.sq P.ak W).2.1
  have i2 := fun W => (idxI4 P.ep P.bo P.sq P.ak W).2.2.1
  have i3 := fun W => (idxI4 P.ep P.bo P.sq P.ak W).2.2.2
  go_enter Try.func33, Try.ntmps33
  go_wp2
  go_loopw [14] (fun i wr => ∃ k : Nat, k ≤ 4 ∧ i = .int .i64 k ∧ ([P.ep, P.bo, P.sq, P.ak].take k).all ok24 = true ∧ wr = w.alloc (pkO P ao n cap)) (fun i _ => 4 - (intOf i).toNat)
  case atStart => exact ⟨0, Nat.zero_le _, rfl, rfl, rfl⟩
  case round =>
    obtain ⟨k, hk, rfl, hall, hwr⟩ := hrel
    subst wr
    have HA : Hid (([P.ep, P.bo, P.sq, P.ak].take k).all ok24 = true) := hall
    clear hall
    by_cases hlt : k < 4
    · obtain rfl | rfl | rfl | rfl : k = 0 ∨ k = 1 ∨ k = 2 ∨ k = 3 := by omega
      · by_cases hlo : P.ep < 0
        · have HB : Hid (packB P n = false) := packB_bad (by have h : ok24 P.ep = false := (by simp [ok24, btw]; omega); exact .inl h)
          go_wp2
          go_ret
          exact ⟨ret_bool HB.out.symm, below_box _ _⟩
        · by_cases hhi : 16777215 < P.ep
          · have HB : Hid (packB P n = false) := packB_bad (by have h : ok24 P.ep = false := (by simp [ok24, btw]; omega); exact .inl h)
            go_wp2
            go_ret
            exact ⟨ret_bool HB.out.symm, below_box _ _⟩
          · have HO : Hid (ok24 P.ep = true) := by simp [Hid, ok24, btw]; omega
            go_wp2
            go_roundw
            case rel => exact ⟨1, by omega, by go_num, by have h1 := HA.out; have h2 := HO.out; simp only [List.take, List.all_cons, List.all_nil, Bool.and_true] at h1 ⊢; simp_all, by first | rfl | trivial⟩
            case measure => simp [intOf]
      · by_cases hlo : P.bo < 0
        · have HB : Hid (packB P n = false) := packB_bad (by have h : ok24 P.bo = false := (by simp [ok24, btw]; omega); exact .inr (.inl h))
          go_wp2
          go_ret
          exact ⟨ret_bool HB.out.symm, below_box _ _⟩
        · by_cases hhi : 16777215 < P.bo
          · have HB : Hid (packB P n = false) := packB_bad (by have h : ok24 P.bo = false := (by simp [ok24, btw]; omega); exact .inr (.inl h))
            go_wp2
            go_ret
            exact ⟨ret_bool HB.out.symm, below_box _ _⟩
          · have HO : Hid (ok24 P.bo = true) := by simp [Hid, ok24, btw]; omega
            go_wp2
            go_roundw
            case rel => exact ⟨2, by omega, by go_num, by have h1 := HA.out; have h2 := HO.out; simp only [List.take, List.all_cons, List.all_nil, Bool.and_true, Bool.and_eq_true] at h1 ⊢; simp_all, by first | rfl | trivial⟩
            case measure => simp [intOf]
      · by_cases hlo : P.sq < 0
        · have HB : Hid (packB P n = false) := packB_bad (by have h : ok24 P.sq = false := (by simp [ok24, btw]; omega); exact .inr (.inr (.inl h)))
          go_wp2
          go_ret
          exact ⟨ret_bool HB.out.symm, below_box _ _⟩
        · by_cases hhi : 16777215 < P.sq
          · have HB : Hid (packB P n = false) := packB_bad (by have h : ok24 P.sq = false := (by simp [ok24, btw]; omega); exact .inr (.inr (.inl h)))
            go_wp2
            go_ret
            exact ⟨ret_bool HB.out.symm, below_box _ _⟩
          · have HO : Hid (ok24 P.sq = true) := by simp [Hid, ok24, btw]; omega
            go_wp2
            go_roundw
            case rel => exact ⟨3, by omega, by go_num, by have h1 := HA.out; have h2 := HO.out; simp only [List.take, List.all_cons, List.all_nil, Bool.and_true, Bool.and_eq_true] at h1 ⊢; simp_all, by first | rfl | trivial⟩
            case measure => simp [intOf]
      · by_cases hlo : P.ak < 0
        · have HB : Hid (packB P n = false) := packB_bad (by have h : ok24 P.ak = false := (by simp [ok24, btw]; omega); exact .inr (.inr (.inr h)))
          go_wp2
          go_ret
          exact ⟨ret_bool HB.out.symm, below_box _ _⟩
        · by_cases hhi : 16777215 < P.ak
          · have HB : Hid (packB P n = false) := packB_bad (by have h : ok24 P.ak = false := (by simp [ok24, btw]; omega); exact .inr (.inr (.inr h)))
            go_wp2
            go_ret
            exact ⟨ret_bool HB.out.symm, below_box _ _⟩
          · have HO : Hid (ok24 P.ak = true) := by simp [Hid, ok24, btw]; omega
            go_wp2
            go_roundw
            case rel => exact ⟨4, by omega, by go_num, by have h1 := HA.out; have h2 := HO.out; simp only [List.take, List.all_cons, List.all_nil, Bool.and_true, Bool.and_eq_true] at h1 ⊢; simp_all, by first | rfl | trivial⟩
            case measure => simp [intOf]
    · obtain rfl : k = 4 := by omega
      have hA := HA.out
      simp only [List.take, List.all_cons, List.all_nil, Bool.and_true, Bool.and_eq_true, ok24] at hA
      obtain ⟨a1, a2, a3, a4⟩ := hA
      have HP : Hid (packB P n = (btw P.cl 0 3 && decide ((n : Int) ≤ 700))) := by simp [Hid, packB, a1, a2, a3, a4]
      clear a1 a2 a3 a4
      go_wp2
      all_goals
        go_ret
        exact ⟨ret_bool (by rw [HP.out]; first | (simp_all [btw]; done) | (simp_all [btw]; omega)), below_box _ _⟩

set_option maxHeartbeats 400000 in
theorem refFrame_bad (P : PkG) (ao : Option Addr) (n cap : Nat) (w : World) (hp : packB P n = false) :
    Calls Try.prog 12 #[pkV P ao n cap] w fun x w' => x = .returned (.tuple #[.slice none 0 0, .int .i64 101]) ∧ Below w.heap.size w w' := by
  go_enter Try.func12, Try.ntmps12
  go_wp2_with (first
    | (go_at_call 33; refine (refPacket_any P ao n cap _).mono ?_; rw [hp]; rintro x w1 ⟨rfl, hb⟩))
  go_ret2
  exact ⟨rfl, below_alloc (hb.mono (by simp))⟩

set_option maxHeartbeats 1600000 in
theorem refFrame_ok (P : PkG) (ao : Option Addr) (n cap : Nat) (w : World) (h : Rd8 w ao n cap P.bs) (hp : packB P n = true) :
    Calls Try.prog 12 #[pkV P ao n cap] w fun x w' => ∃ a2 c2, x = .returned (.tuple #[.slice a2 (n + 20) c2, .int .i64 0]) ∧ Own8 w' w.heap.size a2 (n + 20) c2 (frN P) ∧ Below w.heap.size w w' := by
  have HZ : Hid ((∀ z ∈ [P.cl, P.ep, P.bo, P.sq, P.ak, flgI P.sv], 0 ≤ z ∧ z ≤ 16777215) ∧ n ≤ 700) := by
    simp only [packB, Bool.and_eq_true, btw_iff, decide_eq_true_eq] at hp
    have := flgI_bd P.sv
    refine ⟨?_, by omega⟩
    intro z hz
    simp only [List.mem_cons, List.not_mem_nil, or_false] at hz
    omega
  have hn := HZ.out.2
  have hl := h.len
  have HR : Hid (Rd8 w ao n cap P.bs) := h
  have HPZ : Hid (formsN [P.cl, P.ep, P.bo, P.sq, P.ak, flgI P.sv] = pkZ P) := rfl
  clear h
  go_enter Try.func12, Try.ntmps12
  go_upto_region 3 with (first
    | (go_at_call 33; refine (refPacket_any P ao n cap _).mono ?_; rw [hp]; rintro x w1 ⟨rfl, hb⟩; have HB1 : Hid (Below w.heap.size w w1) := below_alloc (hb.mono (by simp)); have hM := (PkAt.new w P ao n cap).below hb; have HM : Hid (∀ W, Below w1.heap.size w1 W → PkAt W w.heap.size P ao n cap) := fun W hW => hM.below hW; clear hb hM)
    | (fail))
  have HS : Hid (∀ W, Below w1.heap.size w1 W → (W.cell? ⟨w.heap.size, 0, none⟩ = some (.int .i64 P.cl) ∧ W.cell? ⟨w.heap.size, 1, none⟩ = some (.int .i64 P.ep) ∧ W.cell? ⟨w.heap.size, 2, none⟩ = some (.int .i64 P.bo) ∧ W.cell? ⟨w.heap.size, 3, none⟩ = some (.int .i64 P.sq) ∧ W.cell? ⟨w.heap.size, 4, none⟩ = some (.int .i64 P.ak) ∧ W.cell? ⟨w.heap.size, 5, none⟩ = some (.bool P.sv))) := fun W hW => by
    have t := HM.out W hW
    exact ⟨t.c0, t.c1, t.c2, t.c3, t.c4, t.c5⟩
  first
    | go_region_held (fun W => (W.cell? ⟨w.heap.size, 0, none⟩ = some (.int .i64 P.cl) ∧ W.cell? ⟨w.heap.size, 1, none⟩ = some (.int .i64 P.ep) ∧ W.cell? ⟨w.heap.size, 2, none⟩ = some (.int .i64 P.bo) ∧ W.cell? ⟨w.heap.size, 3, none⟩ = some (.int .i64 P.sq) ∧ W.cell? ⟨w.heap.size, 4, none⟩ = some (.int .i64 P.ak) ∧ W.cell? ⟨w.heap.size, 5, none⟩ = some (.bool P.sv)))
      (first | exact HS.out _ (Below.refl _ _) | exact HS.out _ (Below.refl _ _).drew | exact HS.out _ ((Below.refl _ _).drew.alloc (Nat.le_refl _) _) | exact HS.out _ hb2 | fail)
      (first
        | (go_at_call 35; refine (refFlag_any _ _).mono ?_; rintro x w0 ⟨rfl, hw⟩; subst w0)
        | (go_at_call 34; refine (refNums_at w1.drew _ 6 18 rfl _ [P.cl, P.ep, P.bo, P.sq, P.ak, flgI P.sv] rfl rfl rfl HZ.out.1 (by omega)).mono ?_; rintro x w2 ⟨ao2, cap2, rfl, ho2', hb2'⟩; have hb2 : Below w1.heap.size w1 w2 := ⟨hb2'.os, hb2'.tape, hb2'.output, hb2'.size, hb2'.block⟩; clear hb2'))
    | fail
  have ho2 : OwnI w2 w1.heap.size 5 .u8 ao2 cap2 (pkZ P) := ho2'
  have t6 := (HM.out w2 hb2).c6
  have hr2 := (HR.out.below HB1.out).below hb2
  have hs1 := hb2.size
  have hzl : (pkZ P).length = 18 := formsN_length _
  clear ho2' HPZ
  go_wp2_with (first
    | (go_at_call 36; refine (refSeal_any _ (18 + n) _ (nb (pkZ P) ++ P.bs) _ hr4 (by omega)).mono ?_; rintro x w4 ⟨ao4, cap4, rfl, ho4, hb4⟩)
    | (at_builtin; refine wpList_append_rdI _ rfl (.tmp 27) (.tmp 29) 22 rfl w1.heap.size 5 .u8 (.int .u8 0) 1 Try.underlying22 info5 rfl rfl rfl ho2 hr2.rd hzl (by rw [ci_length]; exact hl) (by omega) (by unfold maxLen; omega) hs1 ?_; intro ao3 cap3 w3 ho3 hb3; have hr4 : Rd8 w3 ao3 (18 + n) cap3 (nb (pkZ P) ++ P.bs) := ⟨by rw [ci_append, ci_nb (pkZ_bd P)]; exact ho3.rd, by rw [List.length_append, nb_length, hzl, hl], fun b hb => (List.mem_append.1 hb).elim (nb_bytes (pkZ_bd P) b) (HR.out.byte b)⟩)
    | (fail))
  go_ret2
  have e20 : n + 20 = 18 + n + 2 := by omega
  refine ⟨ao4, cap4, by rw [e20]; rfl, ?_, ?_⟩
  · rw [e20]
    have hs3 := (hb2.trans hb3).size
    exact ⟨ho4.own.mono (Nat.le_trans HB1.out.size hs3), ho4.len, ho4.byte⟩
  · exact below_step HB1.out (below_step (hb2.trans hb3) hb4)

/-- Frame, whatever the packet is. -/
theorem refFrame_any (P : PkG) (ao : Option Addr) (n cap : Nat) (w : World) (h : Rd8 w ao n cap P.bs) :
    Calls Try.prog 12 #[pkV P ao n cap] w fun x w' => ∃ a2 n2 c2, x = .returned (.tuple #[.slice a2 n2 c2, .int .i64 (frE P n)]) ∧ Rd8 w' a2 n2 c2 (frB P n) ∧ Below w.heap.size w w' := by
  cases hp : packB P n
  · refine (refFrame_bad P ao n cap w hp).mono ?_
    rintro x w' ⟨rfl, hb⟩
    exact ⟨none, 0, 0, by simp [frE, hp], by simp only [frB, hp]; exact Rd8.empty _, hb⟩
  · refine (refFrame_ok P ao n cap w h hp).mono ?_
    rintro x w' ⟨a2, c2, rfl, ho, hb⟩
    exact ⟨a2, n + 20, c2, by simp only [frE, hp]; rfl, by simp only [frB, hp]; exact ho.rd, hb⟩

end Go.Proofs.Ytgeoeaadeemmcaa
