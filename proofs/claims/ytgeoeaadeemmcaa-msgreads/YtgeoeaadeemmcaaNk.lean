/- What the document's answers for puts and messages do, walked: which puts can be, which values are the same. What the document's answer for messages does, walked: values and kinds. Which messages can be, kind by kind. No walk. -/
import Derived.Test.YtgeoeaadeemmcaaN1
import Derived.Test.YtgeoeaadeemmcaaM7
import Derived.Deep.DeepCutAuto
import Derived.Deep.CutBlock
import Derived.Test.YtgeoeaadeemmcaaM5
namespace Go.Proofs.Ytgeoeaadeemmcaa
open Go.RowKit
set_option linter.unusedVariables false

theorem refIn_any (n a b : Int) (w : World) : Calls Try.prog 75 #[.int .i64 n, .int .i64 a, .int .i64 b] w fun e w' => e = .returned (.bool (btw n a b)) ∧ w' = w := by
  go_enter Try.func75, Try.ntmps75
  go_wp2
  all_goals
    go_ret
    exact ⟨ret_bool (by first | (simp_all [btw]; done) | (simp_all [btw]; omega)), rfl⟩

/-- The place ahead of the k-th put. -/
def prevZ (ps : List PutG) (k : Nat) : Int := if k = 0 then -1 else ((ps.getD (k - 1) ⟨0, 0, (0, 0)⟩).place : Int)

set_option maxHeartbeats 800000 in
theorem refPuts_any (ao : Option Addr) (n cap : Nat) (ps : List PutG) (w : World) (h : RdP w ao n cap ps) (hn : n ≤ 140737488355328) :
    Calls Try.prog 66 #[.slice ao n cap] w fun e w' => e = .returned (.bool (putsB ps)) ∧ Below w.heap.size w w' := by
  have hl := h.len
  have HR : Hid (RdP w ao n cap ps) := h
  clear h
  have hst := fun (ad : Addr) (re im : Nat) (W : World) => run_store Try.prog W ad (.complex .f64 re im) .plain rfl
  go_enter Try.func66, Try.ntmps66
  go_wp2
  go_loopw [7] (fun i wr => ∃ (k : Nat), k ≤ n ∧ i = .int .i64 k ∧ putsFrom (-1) ps = putsFrom (prevZ ps k) (ps.drop k) ∧ (∀ j q, k = j + 1 → ps[j]? = some q → q.ob ≤ 3) ∧ Below w.heap.size w wr) (fun i _ => n - (intOf i).toNat)
  case atStart => exact ⟨0, Nat.zero_le _, rfl, rfl, fun j q h => by omega, Below.refl _ _⟩
  case round =>
    obtain ⟨k, hk, rfl, hz, hob, hbel⟩ := hrel
    by_cases hlt : k < n
    · have hkl : k < ps.length := by omega
      obtain ⟨b, off, rfl, hb, q0, q1, q2⟩ := (HR.out.below hbel).cell k hkl
      rw [putsFrom_at _ ps k hkl] at hz
      have HB5 : Hid (Below w.heap.size w (wr.alloc (wputO ps[k]))) := hbel.alloc hbel.size _
      have HNX : Hid (prevZ ps (k + 1) = (ps[k].place : Int)) := by
        simp only [Hid, prevZ, Nat.succ_ne_zero, if_false, Nat.add_sub_cancel, List.getD_eq_getElem?_getD, List.getElem?_eq_getElem hkl, Option.getD_some]
      have HKK : Hid (ps[k]? = some ps[k]) := List.getElem?_eq_getElem _
      by_cases h1 : (ps[k].pg : Int) ≤ 5
      · by_cases h2 : (ps[k].ob : Int) ≤ 3
        · have e1 : btw (ps[k].pg : Int) 0 5 = true := by simp [btw]; omega
          have e2 : btw (ps[k].ob : Int) 0 3 = true := by simp [btw]; omega
          have HRL : Hid (∀ W, Below w.heap.size w W → prevZ ps (k + 1) = (ps[k].place : Int) → putsFrom (-1) ps = (decide (prevZ ps k < (ps[k].place : Int)) && putsFrom (prevZ ps (k + 1)) (ps.drop (k + 1)))) := fun W _ e => by
            rw [hz, decide_eq_true h1, decide_eq_true h2, e]; simp
          have HOB : Hid (∀ j q, k + 1 = j + 1 → ps[j]? = some q → q.ob ≤ 3) := fun j q hj hq => by
            obtain rfl : k = j := by omega
            rw [HKK.out] at hq; cases hq; omega
          have HFN : Hid (¬ prevZ ps k < (ps[k].place : Int) → putsB ps = false) := fun hh => by
            rw [putsB, HRL.out w (Below.refl _ _) HNX.out, decide_eq_false hh]; simp
          have HGO : Hid (prevZ ps k < (ps[k].place : Int) → putsFrom (-1) ps = putsFrom (prevZ ps (k + 1)) (ps.drop (k + 1))) := fun hh => by
            rw [HRL.out w (Below.refl _ _) HNX.out, decide_eq_true hh]; simp
          clear HRL hz
          by_cases hk0 : k = 0
          · subst hk0
            have HG : Hid (putsFrom (-1) ps = putsFrom (prevZ ps (0 + 1)) (ps.drop (0 + 1))) := HGO.out (by simp [prevZ]; omega)
            clear HFN HGO hob
            generalize ps[0] = p at *
            simp only [Nat.zero_mul, Nat.add_zero] at q0 q1 q2
            go_upto_region 6 with (first
                | (go_at_call 75; refine (refIn_any _ _ _ _).mono ?_; rw [e2]; rintro e w' ⟨rfl, hw⟩; subst w')
                | (go_at_call 75; refine (refIn_any _ _ _ _).mono ?_; rw [e1]; rintro e w' ⟨rfl, hw⟩; subst w')
                | (fail))
            go_quiet (fail)
            go_wp2
            go_roundw
            case rel => exact ⟨0 + 1, by omega, by go_num, HG.out, HOB.out, ⟨HB5.out.os, HB5.out.tape, HB5.out.output, HB5.out.size, HB5.out.block⟩⟩
            case measure => simp [intOf]; omega
          · obtain ⟨j, rfl⟩ : ∃ j, k = j + 1 := ⟨k - 1, by omega⟩
            have hjl : j < ps.length := by omega
            obtain ⟨b', off', eb, hb', s0, s1, s2⟩ := (HR.out.below hbel).cell j hjl
            simp only [Option.some.injEq, Addr.mk.injEq, and_true] at eb
            obtain ⟨rfl, rfl⟩ := eb
            have hqo := hob j ps[j] rfl (List.getElem?_eq_getElem _)
            have hpz : prevZ ps (j + 1) = (ps[j].pg : Int) * 4 + ps[j].ob := by
              simp only [prevZ, Nat.succ_ne_zero, if_false, Nat.add_sub_cancel, List.getD_eq_getElem?_getD, List.getElem?_eq_getElem hjl, Option.getD_some]
              simp [PutG.place]
            have hpp : (ps[j + 1].place : Int) = (ps[j + 1].pg : Int) * 4 + ps[j + 1].ob := by simp [PutG.place]
            rw [hpz, hpp] at HFN HGO
            clear hpz hpp hob s2
            generalize ps[j] = q at *
            generalize ps[j + 1] = p at *
            have f0 : (wr.alloc (wputO p)).cell? ⟨b, off + j * 3, none⟩ = some (.int .i64 (q.pg : Int)) := ((below_box wr (wputO p)).cell (p := ⟨b, off + j * 3, none⟩) hb).trans s0
            have f1 : (wr.alloc (wputO p)).cell? ⟨b, off + j * 3 + 1, none⟩ = some (.int .i64 (q.ob : Int)) := ((below_box wr (wputO p)).cell (p := ⟨b, off + j * 3 + 1, none⟩) hb).trans s1
            have hs : ((j : Int) + 1) - 1 = (j : Int) := by omega
            have hwj : IntKind.i64.wrap ((j : Int) + 1 - 1) = (j : Int) := by rw [IntKind.wrap_i64]; omega
            have hwk : IntKind.i64.wrap (j : Int) = (j : Int) := by rw [IntKind.wrap_i64]; omega
            have hjn : (j : Int) < (n : Int) := by omega
            have HW5 : Hid (∀ i, Below w.heap.size w ((wr.alloc (wputO p)).drewN i)) := fun i => ⟨HB5.out.os, HB5.out.tape, HB5.out.output, HB5.out.size, HB5.out.block⟩
            by_cases c1 : (p.pg : Int) < (q.pg : Int)
            · have d1 : decide (p.pg < q.pg) = true := decide_eq_true (by omega)
              have HF : Hid (putsB ps = false) := HFN.out (by omega)
              clear HFN HGO c1 HOB
              go_upto_region 6 with (first
                | (go_at_call 75; refine (refIn_any _ _ _ _).mono ?_; rw [e2]; rintro e w' ⟨rfl, hw⟩; subst w')
                | (go_at_call 75; refine (refIn_any _ _ _ _).mono ?_; rw [e1]; rintro e w' ⟨rfl, hw⟩; subst w')
                | (fail))
              go_quiet (fail)
              go_wp2
              go_ret
              exact ⟨ret_bool HF.out.symm, HW5.out _⟩
            · have d1 : decide (p.pg < q.pg) = false := decide_eq_false (by omega)
              by_cases c2 : (q.pg : Int) = (p.pg : Int)
              · have d2 : ((q.pg : Int) == (p.pg : Int)) = true := by simpa using c2
                have d2' : (q.pg == p.pg) = true := by simp; omega
                by_cases c3 : (p.ob : Int) ≤ (q.ob : Int)
                · have d3 : decide (p.ob ≤ q.ob) = true := decide_eq_true (by omega)
                  have HF : Hid (putsB ps = false) := HFN.out (by omega)
                  clear HFN HGO c1 c2 c3 HOB
                  go_upto_region 6 with (first
                | (go_at_call 75; refine (refIn_any _ _ _ _).mono ?_; rw [e2]; rintro e w' ⟨rfl, hw⟩; subst w')
                | (go_at_call 75; refine (refIn_any _ _ _ _).mono ?_; rw [e1]; rintro e w' ⟨rfl, hw⟩; subst w')
                | (fail))
                  go_quiet (fail)
                  go_wp2
                  go_ret
                  exact ⟨ret_bool HF.out.symm, HW5.out _⟩
                · have d3 : decide (p.ob ≤ q.ob) = false := decide_eq_false (by omega)
                  have HG := HGO.out (by omega)
                  have HGG : Hid _ := HG
                  clear HFN HGO c1 c2 c3 HG
                  go_upto_region 6 with (first
                | (go_at_call 75; refine (refIn_any _ _ _ _).mono ?_; rw [e2]; rintro e w' ⟨rfl, hw⟩; subst w')
                | (go_at_call 75; refine (refIn_any _ _ _ _).mono ?_; rw [e1]; rintro e w' ⟨rfl, hw⟩; subst w')
                | (fail))
                  go_quiet (fail)
                  go_wp2
                  go_roundw
                  case rel => exact ⟨j + 1 + 1, by omega, by go_num, HGG.out, HOB.out, HW5.out _⟩
                  case measure => simp [intOf]; omega
              · have d2 : ((q.pg : Int) == (p.pg : Int)) = false := by simpa using c2
                have d2' : (q.pg == p.pg) = false := by simp; omega
                have HG := HGO.out (by omega)
                have HGG : Hid _ := HG
                clear HFN HGO c1 c2 HG
                go_upto_region 6 with (first
                | (go_at_call 75; refine (refIn_any _ _ _ _).mono ?_; rw [e2]; rintro e w' ⟨rfl, hw⟩; subst w')
                | (go_at_call 75; refine (refIn_any _ _ _ _).mono ?_; rw [e1]; rintro e w' ⟨rfl, hw⟩; subst w')
                | (fail))
                go_quiet (fail)
                go_wp2
                go_roundw
                case rel => exact ⟨j + 1 + 1, by omega, by go_num, HGG.out, HOB.out, HW5.out _⟩
                case measure => simp [intOf]; omega
        · have e1 : btw (ps[k].pg : Int) 0 5 = true := by simp [btw]; omega
          have e2 : btw (ps[k].ob : Int) 0 3 = false := by simp [btw]; omega
          have HF : Hid (putsB ps = false) := by rw [Hid, putsB, hz, decide_eq_false h2]; simp
          clear hz hob
          generalize ps[k] = p at *
          go_wp2_with (first
                | (go_at_call 75; refine (refIn_any _ _ _ _).mono ?_; rw [e2]; rintro e w' ⟨rfl, hw⟩; subst w')
                | (go_at_call 75; refine (refIn_any _ _ _ _).mono ?_; rw [e1]; rintro e w' ⟨rfl, hw⟩; subst w')
                | (fail))
          go_ret
          exact ⟨ret_bool HF.out.symm, HB5.out⟩
      · have e1 : btw (ps[k].pg : Int) 0 5 = false := by simp [btw]; omega
        have HF : Hid (putsB ps = false) := by rw [Hid, putsB, hz, decide_eq_false h1]; simp
        clear hz hob
        generalize ps[k] = p at *
        go_wp2_with (first
          | (go_at_call 75; refine (refIn_any _ _ _ _).mono ?_; rw [e1]; rintro e w' ⟨rfl, hw⟩; subst w')
          | (fail))
        go_ret
        exact ⟨ret_bool HF.out.symm, HB5.out⟩
    · obtain rfl : k = n := by omega
      have HP : Hid (putsB ps = decide ((k : Int) ≤ 24)) := by
        rw [Hid, putsB, hz, List.drop_of_length_le (by omega), hl]
        by_cases h24 : k ≤ 24 <;> simp [putsFrom, h24] <;> omega
      go_wp2
      go_ret
      exact ⟨ret_bool HP.out.symm, hbel⟩

end Go.Proofs.Ytgeoeaadeemmcaa

namespace Go.Proofs.Ytgeoeaadeemmcaa
open Go.RowKit
set_option linter.unusedVariables false

theorem words4 {a b c d : Nat × Nat} (ha : wordB a) (hb : wordB b) (hc : wordB c) (hd : wordB d) : ∀ x ∈ [a, b, c, d], wordB x := by
  intro x hx
  simp only [List.mem_cons, List.not_mem_nil, or_false] at hx
  rcases hx with e | e | e | e
  all_goals (subst e; assumption)

set_option maxHeartbeats 800000 in
theorem refValues_any (a0 a1 a2 a3 b0 b1 b2 b3 : Nat × Nat) (ha : ∀ x ∈ [a0, a1, a2, a3], wordB x) (hb : ∀ x ∈ [b0, b1, b2, b3], wordB x) (w : World) :
    Calls Try.prog 29 #[v4V a0 a1 a2 a3, v4V b0 b1 b2 b3] w fun x w' => x = .returned (.bool (allSame [a0, a1, a2, a3] [b0, b1, b2, b3])) ∧ Below w.heap.size w w' := by
  have hA : ((w.alloc (v4O a0 a1 a2 a3)).alloc (v4O b0 b1 b2 b3)).heap[w.heap.size]? = some (v4O a0 a1 a2 a3) := by
    rw [(below_box (w.alloc (v4O a0 a1 a2 a3)) (v4O b0 b1 b2 b3)).block w.heap.size (by simp)]
    exact heap_alloc_new w _
  have hB : ((w.alloc (v4O a0 a1 a2 a3)).alloc (v4O b0 b1 b2 b3)).heap[w.heap.size + 1]? = some (v4O b0 b1 b2 b3) := by
    have := heap_alloc_new (w.alloc (v4O a0 a1 a2 a3)) (v4O b0 b1 b2 b3)
    rwa [show (w.alloc (v4O a0 a1 a2 a3)).heap.size = w.heap.size + 1 by simp] at this
  have HA := v4_at hA
  have HB := v4_at hB
  clear hA hB
  have lx : [a0, a1, a2, a3].length = 4 := rfl
  have ly : [b0, b1, b2, b3].length = 4 := rfl
  generalize hxs : [a0, a1, a2, a3] = xs at *
  generalize hys : [b0, b1, b2, b3] = ys at *
  have HX : Hid (∀ k (h : k < xs.length), ((w.alloc (v4O a0 a1 a2 a3)).alloc (v4O b0 b1 b2 b3)).cell? ⟨w.heap.size, k, none⟩ = some (.complex .f64 xs[k].1 xs[k].2)) := HA
  have HY : Hid (∀ k (h : k < ys.length), ((w.alloc (v4O a0 a1 a2 a3)).alloc (v4O b0 b1 b2 b3)).cell? ⟨w.heap.size + 1, k, none⟩ = some (.complex .f64 ys[k].1 ys[k].2)) := HB
  have WX : Hid (∀ x ∈ xs, wordB x) := ha
  have WY : Hid (∀ x ∈ ys, wordB x) := hb
  clear HA HB hxs hys ha hb
  go_enter Try.func29, Try.ntmps29
  go_wp2
  generalize hW : (w.alloc (v4O a0 a1 a2 a3)).alloc (v4O b0 b1 b2 b3) = W0 at *
  have HBW : Hid (Below w.heap.size w W0) := by rw [← hW]; exact below2 _ _ _
  clear hW
  go_loopw [5] (fun i wr => ∃ (k j : Nat), k ≤ 4 ∧ i = .int .i64 k ∧ allSame xs ys = allSame (xs.drop k) (ys.drop k) ∧ wr = W0.drewN j) (fun i _ => 4 - (intOf i).toNat)
  case atStart => exact ⟨0, 0, Nat.zero_le _, rfl, rfl, rfl⟩
  case round =>
    obtain ⟨k, j, hk, rfl, hsm, rfl⟩ := hrel
    by_cases hlt : k < 4
    · rw [allSame_at xs ys k (by omega) (by omega)] at hsm
      have HSM : Hid (allSame xs ys = (sameB (xs[k]'(by omega)).1 (xs[k]'(by omega)).2 (ys[k]'(by omega)).1 (ys[k]'(by omega)).2 && allSame (xs.drop (k + 1)) (ys.drop (k + 1)))) := hsm
      have q1 := HX.out k (by omega)
      have q2 := HY.out k (by omega)
      have u1 := WX.out _ (List.getElem_mem (show k < xs.length by omega))
      have u2 := WY.out _ (List.getElem_mem (show k < ys.length by omega))
      clear hsm
      cases hs : sameB (xs[k]'(by omega)).1 (xs[k]'(by omega)).2 (ys[k]'(by omega)).1 (ys[k]'(by omega)).2
      · go_wp2
        go_quiet ((first
          | (go_at_call 55; refine (refSame_any _ _ u1 u2 _).mono ?_; rw [hs]; rintro x w0 ⟨rfl, hw⟩; subst w0; exact ⟨rfl, _, rfl⟩)))
        go_wp2
        go_ret
        exact ⟨ret_bool (by rw [HSM.out, hs]; rfl), ⟨HBW.out.os, HBW.out.tape, HBW.out.output, HBW.out.size, HBW.out.block⟩⟩
      · go_wp2
        go_quiet ((first
          | (go_at_call 55; refine (refSame_any _ _ u1 u2 _).mono ?_; rw [hs]; rintro x w0 ⟨rfl, hw⟩; subst w0; exact ⟨rfl, _, rfl⟩)))
        go_wp2
        go_roundw
        case rel => exact ⟨k + 1, _, by omega, by go_num, by rw [HSM.out, hs]; rfl, rfl⟩
        case measure => simp [intOf]; omega
    · go_wp2
      go_ret
      exact ⟨ret_bool (by rw [hsm, List.drop_of_length_le (by omega), List.drop_of_length_le (by omega)]; rfl), ⟨HBW.out.os, HBW.out.tape, HBW.out.output, HBW.out.size, HBW.out.block⟩⟩

/-- What a kind has. -/
abbrev hasV (a b c d e f : Bool) : Value := .agg #[.bool a, .bool b, .bool c, .bool d, .bool e, .bool f]

theorem has_01 (k : Int) (hk : k = 0 ∨ k = 1) (w : World) : Calls Try.prog 65 #[.int .i64 k] w fun x w' => x = .returned (hasV true false false false false false) ∧ Below w.heap.size w w' := by
  rcases hk with rfl | rfl
  all_goals
    go_enter Try.func65, Try.ntmps65
    go_wp2
    go_returns
    exact ⟨rfl, below_box _ _⟩

theorem has_2 (w : World) : Calls Try.prog 65 #[.int .i64 2] w fun x w' => x = .returned (hasV false true false false true false) ∧ Below w.heap.size w w' := by
  go_enter Try.func65, Try.ntmps65
  go_wp2
  go_returns
  exact ⟨rfl, below_box _ _⟩

theorem has_3 (w : World) : Calls Try.prog 65 #[.int .i64 3] w fun x w' => x = .returned (hasV false false true false false false) ∧ Below w.heap.size w w' := by
  go_enter Try.func65, Try.ntmps65
  go_wp2
  go_returns
  exact ⟨rfl, below_box _ _⟩

theorem has_46 (k : Int) (hk : k = 4 ∨ k = 6) (w : World) : Calls Try.prog 65 #[.int .i64 k] w fun x w' => x = .returned (hasV true false false true false false) ∧ Below w.heap.size w w' := by
  rcases hk with rfl | rfl
  all_goals
    go_enter Try.func65, Try.ntmps65
    go_wp2
    go_returns
    exact ⟨rfl, below_box _ _⟩

theorem has_5 (w : World) : Calls Try.prog 65 #[.int .i64 5] w fun x w' => x = .returned (hasV false false true false false true) ∧ Below w.heap.size w w' := by
  go_enter Try.func65, Try.ntmps65
  go_wp2
  go_returns
  exact ⟨rfl, below_box _ _⟩

theorem has_78 (k : Int) (hk : k = 7 ∨ k = 8) (w : World) : Calls Try.prog 65 #[.int .i64 k] w fun x w' => x = .returned (hasV false true false false false false) ∧ Below w.heap.size w w' := by
  rcases hk with rfl | rfl
  all_goals
    go_enter Try.func65, Try.ntmps65
    go_wp2
    go_returns
    exact ⟨rfl, below_box _ _⟩

end Go.Proofs.Ytgeoeaadeemmcaa

namespace Go.Proofs.Ytgeoeaadeemmcaa
open Go.RowKit
set_option linter.unusedVariables false

theorem sameB_self (a b : Nat) : sameB a b a b = true := by simp [sameB]

theorem allSame_self : ∀ xs : List (Nat × Nat), allSame xs xs = true
  | [] => rfl
  | x :: r => by rw [allSame, sameB_self, allSame_self r]; rfl

theorem samePs_self : ∀ ps : List PutG, samePs ps ps = true
  | [] => rfl
  | p :: r => by rw [samePs, samePs_self r, samePutB, sameB_self]; simp

theorem samePs_nil (ps : List PutG) (nn : Nat) (h : ps.length = nn) : samePs ps [] = true ↔ nn = 0 := by
  subst h
  cases ps with
  | nil => simp [samePs]
  | cons p r => simp [samePs]

/-- The numbers of a message are within what any may have. -/
structure Nb (k p o t n : Int) : Prop where
  p : 0 ≤ p ∧ p ≤ 5
  o : 0 ≤ o ∧ o ≤ 3
  t : 0 ≤ t ∧ t ≤ 16777215
  n : 0 ≤ n ∧ n ≤ 15

theorem within_nb {k p o t c n : Int} {wr : Bool} {ps : List PutG} {v0 v1 v2 v3 : Nat × Nat} (h : Nb k p o t n) : withinB ⟨k, p, o, t, c, n, wr, ps, v0, v1, v2, v3⟩ = (copyB k c && putsB ps) := by
  have e1 : btw p 0 5 = true := (btw_iff _ _ _).2 h.p
  have e2 : btw o 0 3 = true := (btw_iff _ _ _).2 h.o
  have e3 : btw t 0 16777215 = true := (btw_iff _ _ _).2 h.t
  have e4 : btw n 0 15 = true := (btw_iff _ _ _).2 h.n
  simp [withinB, e1, e2, e3, e4]

theorem iff_0 (p o t c n : Int) (wr : Bool) (ps : List PutG) (nn : Nat) (v0 v1 v2 v3 : Nat × Nat) (h : Nb 0 p o t n) (hl : ps.length = nn) :
    rightB ⟨0, p, o, t, c, n, wr, ps, v0, v1, v2, v3⟩ = true ↔ (0 ≤ c ∧ c ≤ 15) ∧ t = 0 ∧ n = 0 ∧ c = 0 ∧ wr = false ∧ nn = 0 ∧ allSame [v0, v1, v2, v3] [z2, z2, z2, z2] = true ∧ putsB ps = true := by
  have e := samePs_nil ps nn hl
  rw [rightB, within_nb h]
  simp only [thereB, copyB, sameM, ownM, Mg.vs, Bool.and_eq_true]
  simp [btw_iff, e]
  constructor
  · intro hh
    simp [hh]
  · intro hh
    simp [hh]

theorem iff_1 (p o t c n : Int) (wr : Bool) (ps : List PutG) (nn : Nat) (v0 v1 v2 v3 : Nat × Nat) (h : Nb 1 p o t n) (hl : ps.length = nn) :
    rightB ⟨1, p, o, t, c, n, wr, ps, v0, v1, v2, v3⟩ = true ↔ (0 ≤ c ∧ c ≤ 15) ∧ t = 0 ∧ n = 0 ∧ c = 0 ∧ wr = false ∧ nn = 0 ∧ allSame [v0, v1, v2, v3] [z2, z2, z2, z2] = true ∧ putsB ps = true := by
  have e := samePs_nil ps nn hl
  rw [rightB, within_nb h]
  simp only [thereB, copyB, sameM, ownM, Mg.vs, Bool.and_eq_true]
  simp [btw_iff, e]
  constructor
  · intro hh
    simp [hh]
  · intro hh
    simp [hh]

theorem iff_2 (p o t c n : Int) (wr : Bool) (ps : List PutG) (nn : Nat) (v0 v1 v2 v3 : Nat × Nat) (h : Nb 2 p o t n) (hl : ps.length = nn) :
    rightB ⟨2, p, o, t, c, n, wr, ps, v0, v1, v2, v3⟩ = true ↔ (0 ≤ c ∧ c ≤ 15) ∧ o = 0 ∧ p = 0 ∧ n = 0 ∧ c = 0 ∧ wr = false ∧ allSame [v0, v1, v2, v3] [z2, z2, z2, z2] = true ∧ putsB ps = true := by
  rw [rightB, within_nb h]
  simp only [thereB, copyB, sameM, ownM, Mg.vs, Bool.and_eq_true]
  simp [btw_iff, samePs_self]
  constructor
  · intro hh
    simp [hh]
  · intro hh
    simp [hh]

theorem iff_3 (p o t c n : Int) (wr : Bool) (ps : List PutG) (nn : Nat) (v0 v1 v2 v3 : Nat × Nat) (h : Nb 3 p o t n) (hl : ps.length = nn) :
    rightB ⟨3, p, o, t, c, n, wr, ps, v0, v1, v2, v3⟩ = true ↔ (0 ≤ c ∧ c ≤ 15) ∧ o = 0 ∧ t = 0 ∧ wr = false ∧ nn = 0 ∧ allSame [v0, v1, v2, v3] [z2, z2, z2, z2] = true ∧ putsB ps = true := by
  have e := samePs_nil ps nn hl
  rw [rightB, within_nb h]
  simp only [thereB, copyB, sameM, ownM, Mg.vs, Bool.and_eq_true]
  simp [btw_iff, e]
  constructor
  · intro hh
    simp [hh]
  · intro hh
    simp [hh]

theorem iff_4 (p o t c n : Int) (wr : Bool) (ps : List PutG) (nn : Nat) (v0 v1 v2 v3 : Nat × Nat) (h : Nb 4 p o t n) (hl : ps.length = nn) :
    rightB ⟨4, p, o, t, c, n, wr, ps, v0, v1, v2, v3⟩ = true ↔ (0 ≤ c ∧ c ≤ 15) ∧ t = 0 ∧ n = 0 ∧ c = 0 ∧ nn = 0 ∧ allSame [v0, v1, v2, v3] [z2, z2, z2, z2] = true ∧ putsB ps = true := by
  have e := samePs_nil ps nn hl
  rw [rightB, within_nb h]
  simp only [thereB, copyB, sameM, ownM, Mg.vs, Bool.and_eq_true]
  simp [btw_iff, e]
  constructor
  · intro hh
    simp [hh]
  · intro hh
    simp [hh]

theorem iff_5 (p o t c n : Int) (wr : Bool) (ps : List PutG) (nn : Nat) (v0 v1 v2 v3 : Nat × Nat) (h : Nb 5 p o t n) (hl : ps.length = nn) :
    rightB ⟨5, p, o, t, c, n, wr, ps, v0, v1, v2, v3⟩ = true ↔ (0 ≤ c ∧ c ≤ 15) ∧ o = 0 ∧ t = 0 ∧ wr = false ∧ nn = 0 ∧ putsB ps = true := by
  have e := samePs_nil ps nn hl
  rw [rightB, within_nb h]
  simp only [thereB, copyB, sameM, ownM, Mg.vs, Bool.and_eq_true]
  simp [btw_iff, e, allSame_self]
  constructor
  · intro hh
    simp [hh]
  · intro hh
    simp [hh]

theorem iff_6 (p o t c n : Int) (wr : Bool) (ps : List PutG) (nn : Nat) (v0 v1 v2 v3 : Nat × Nat) (h : Nb 6 p o t n) (hl : ps.length = nn) :
    rightB ⟨6, p, o, t, c, n, wr, ps, v0, v1, v2, v3⟩ = true ↔ (0 ≤ c ∧ c ≤ 15) ∧ t = 0 ∧ n = 0 ∧ c = 0 ∧ nn = 0 ∧ allSame [v0, v1, v2, v3] [z2, z2, z2, z2] = true ∧ putsB ps = true := by
  have e := samePs_nil ps nn hl
  rw [rightB, within_nb h]
  simp only [thereB, copyB, sameM, ownM, Mg.vs, Bool.and_eq_true]
  simp [btw_iff, e]
  constructor
  · intro hh
    simp [hh]
  · intro hh
    simp [hh]

theorem iff_7 (p o t c n : Int) (wr : Bool) (ps : List PutG) (nn : Nat) (v0 v1 v2 v3 : Nat × Nat) (h : Nb 7 p o t n) (hl : ps.length = nn) :
    rightB ⟨7, p, o, t, c, n, wr, ps, v0, v1, v2, v3⟩ = true ↔ (0 ≤ c ∧ c ≤ 15) ∧ o = 0 ∧ p = 0 ∧ n = 0 ∧ c = 0 ∧ wr = false ∧ nn = 0 ∧ allSame [v0, v1, v2, v3] [z2, z2, z2, z2] = true ∧ putsB ps = true := by
  have e := samePs_nil ps nn hl
  rw [rightB, within_nb h]
  simp only [thereB, copyB, sameM, ownM, Mg.vs, Bool.and_eq_true]
  simp [btw_iff, e]
  constructor
  · intro hh
    simp [hh]
  · intro hh
    simp [hh]

theorem iff_8 (p o t c n : Int) (wr : Bool) (ps : List PutG) (nn : Nat) (v0 v1 v2 v3 : Nat × Nat) (h : Nb 8 p o t n) (hl : ps.length = nn) :
    rightB ⟨8, p, o, t, c, n, wr, ps, v0, v1, v2, v3⟩ = true ↔ (1 ≤ c ∧ c ≤ 999) ∧ o = 0 ∧ p = 0 ∧ n = 0 ∧ wr = false ∧ nn = 0 ∧ allSame [v0, v1, v2, v3] [z2, z2, z2, z2] = true ∧ putsB ps = true := by
  have e := samePs_nil ps nn hl
  rw [rightB, within_nb h]
  simp only [thereB, copyB, sameM, ownM, Mg.vs, Bool.and_eq_true]
  simp [btw_iff, e]
  constructor
  · intro hh
    simp [hh]
  · intro hh
    simp [hh]

end Go.Proofs.Ytgeoeaadeemmcaa
