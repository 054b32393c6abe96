/- What the document's answer for package pack does, walked. What the document's answers for packages cnum and pack do, walked: numbers' bits, and values. What the document's answer for package pack does, walked: a value's bytes. What the document's answer for package pack does, walked: the value with which bytes begin. What the document's answer for packets does, walked: Packet and Frame. What the document's answers for puts and messages do, walked: which puts can be, which values are the same. What the document's answer for messages does, walked: values and kinds. Which messages can be, kind by kind. No walk. Which messages can be: the document's answer, walked. Which messages can be: the document's answer, walked. What the document's answer for messages does, walked: Bytes. What the law of package host says and reads: two messages, their bytes, and back. -/
import Derived.Test.YtpofihiojhbfgaaGreatDoorA2
import Derived.Deep.RegionHeldLaw
import Derived.Test.YtpofihiojhbfgaaGreatDoorB8
import Derived.Deep.QuietTactic
import Derived.BigQuiet
import Derived.Deep.DeepCutAuto
import Derived.Deep.CutBlock
import Derived.Test.YtpofihiojhbfgaaGreatDoorM5
namespace Go.Proofs.YtpofihiojhbfgaaGreatDoor.Msg
open Go.RowKit
set_option linter.unusedVariables false
set_option maxRecDepth 8000

theorem wr3 (z : Int) (h0 : 0 ≤ z) (h1 : z ≤ 16777215) : [z / 65536, z / 256 % 256, z % 256] = wrN 3 z := by
  simp only [wrN, List.nil_append, List.cons_append]
  rw [show z / 65536 = z / 256 / 256 % 256 by omega]

set_option maxHeartbeats 800000 in
theorem refNums_good (ao : Option Addr) (cap n : Nat) (zs : List Int) (w : World) (hrd : RdI w .i64 ao cap zs) (hn : zs.length = n) (hlen : n * 8 ≤ 140737488355328) (hz : ∀ z ∈ zs, 0 ≤ z ∧ z ≤ 16777215) :
    Calls Tryz.prog 61 #[.slice ao n cap] w fun e w' => ∃ ao' cap', e = .returned (.tuple #[.slice ao' (3 * n) cap', .int .i64 0]) ∧ OwnI w' w.heap.size 5 .u8 ao' cap' (formsN zs) ∧ Below w.heap.size w w' := by
  have hle := hrd.le
  go_enter Tryz.func61, Tryz.ntmps61
  go_wp2
  go_loopw [4, 10] (fun t i wr => ∃ (k : Nat) (a : Option Addr) (c : Nat), k ≤ n ∧ i = .int .i64 k ∧ t = .slice a (3 * k) c ∧ OwnI wr w.heap.size 5 .u8 a c (formsN (zs.take k)) ∧ Below w.heap.size w wr) (fun _ i _ => n - (intOf i).toNat)
  case atStart => exact ⟨0, _, _, Nat.zero_le _, rfl, rfl, OwnI.fresh w _ _ _ (Nat.le_refl _), (Below.refl _ _).alloc (Nat.le_refl _) _⟩
  case round =>
    obtain ⟨k, a, c, hk, rfl, rfl, ho, hbel⟩ := hrel
    by_cases hlt : k < n
    · obtain ⟨b, off, rfl, _, hc⟩ := (hrd.below hbel).at (t := k) (by omega)
      have hc1 := hc k (by omega)
      have hzk := hz zs[k] (List.getElem_mem _)
      have hz1 := hzk.1
      have hz2 := hzk.2
      have hsz := hbel.size
      go_wp2_with (at_builtin; refine wpList_append_rdI _ rfl _ _ 31 rfl w.heap.size 5 .u8 (.int .u8 0) 1 Tryz.underlying31 info5 rfl rfl rfl (OwnI.alloc ho _) (RdI.built wr 5 .u8 _ 3 [_, _, _] rfl rfl (by decide)) (by rw [formsN_length, List.length_take]; omega) rfl (by omega) (by unfold maxLen; omega) (by simp; omega) ?_; intro ao2 cap2 w2 ho2 hb2)
      rw [wr3 _ hz1 hz2, formsN_snoc zs k (by omega)] at ho2
      go_roundw
      case rel => exact ⟨k + 1, _, _, by omega, by go_num, rfl, ho2, (hbel.alloc hsz _).trans hb2⟩
      case measure => simp [intOf]; omega
    · go_wp2
      go_ret2
      have : k = n := by omega
      subst this
      exact ⟨_, _, rfl, by rw [List.take_of_length_le (by omega)] at ho; exact ho, hbel⟩

end Go.Proofs.YtpofihiojhbfgaaGreatDoor.Msg

namespace Go.Proofs.YtpofihiojhbfgaaGreatDoor.Msg
open Go.RowKit
set_option linter.unusedVariables false
set_option maxRecDepth 8000

set_option maxHeartbeats 400000 in
theorem refBits_any (a b : Nat) (ha : a < 18446744073709551616) (hb : b < 18446744073709551616) (w : World) :
    Calls Tryz.prog 101 #[.complex .f64 a b] w fun e w' => e = .returned (.tuple #[.int .u64 (formN a : Int), .int .u64 (formN b : Int)]) ∧ w' = w := by
  have hf := bits_run
  go_enter Tryz.func101, Tryz.ntmps101
  go_wp2_with (first
    | (go_at_call_of 133 (Value.int IntKind.u64 (a : Int)); refine (refForm_any a ha _).mono ?_; rintro e w' ⟨rfl, hw⟩; subst w')
    | (go_at_call 133; refine (refForm_any b hb _).mono ?_; rintro e w' ⟨rfl, hw⟩; subst w'))
  go_ret2
  exact ⟨rfl, rfl⟩

set_option maxHeartbeats 400000 in
theorem refSame_any (x y : Nat × Nat) (hx : wordB x) (hy : wordB y) (w : World) :
    Calls Tryz.prog 131 #[.complex .f64 x.1 x.2, .complex .f64 y.1 y.2] w fun e w' => e = .returned (.bool (sameB x.1 x.2 y.1 y.2)) ∧ w' = w := by
  obtain ⟨a, b⟩ := x
  obtain ⟨c, d⟩ := y
  obtain ⟨h1, h2⟩ := hx
  obtain ⟨h3, h4⟩ := hy
  simp only at h1 h2 h3 h4 ⊢
  cases h : ((formN a : Int) == (formN c : Int))
  · go_enter Tryz.func131, Tryz.ntmps131
    go_wp2_with (first
      | (go_at_call_of 101 (Value.complex FloatKind.f64 a b); refine (refBits_any a b h1 h2 _).mono ?_; rintro e w' ⟨rfl, hw⟩; subst w')
      | (go_at_call 101; refine (refBits_any c d h3 h4 _).mono ?_; rintro e w' ⟨rfl, hw⟩; subst w'))
    go_ret
    exact ⟨ret_bool (by simp only [sameB, h, Bool.false_and]), rfl⟩
  · go_enter Tryz.func131, Tryz.ntmps131
    go_wp2_with (first
      | (go_at_call_of 101 (Value.complex FloatKind.f64 a b); refine (refBits_any a b h1 h2 _).mono ?_; rintro e w' ⟨rfl, hw⟩; subst w')
      | (go_at_call 101; refine (refBits_any c d h3 h4 _).mono ?_; rintro e w' ⟨rfl, hw⟩; subst w'))
    go_ret
    exact ⟨ret_bool (by simp only [sameB, h, Bool.true_and]), rfl⟩

end Go.Proofs.YtpofihiojhbfgaaGreatDoor.Msg

namespace Go.Proofs.YtpofihiojhbfgaaGreatDoor.Msg
open Go.RowKit
set_option linter.unusedVariables false
set_option maxRecDepth 8000

theorem wrN_cons (k : Nat) : ∀ v : Int, wrN (k + 1) v = [v / 256 ^ k % 256] ++ wrN k v := by
  induction k with
  | zero => intro v; simp [wrN]
  | succ k ih =>
    intro v
    have e : wrN (k + 1 + 1) v = wrN (k + 1) (v / 256) ++ [v % 256] := rfl
    rw [e, ih (v / 256)]
    have e2 : wrN (k + 1) v = wrN k (v / 256) ++ [v % 256] := rfl
    rw [e2, List.append_assoc, Int.pow_succ, Int.mul_comm (256 ^ k) 256, Int.ediv_ediv_of_nonneg (by omega)]

theorem _root_.Go.Proofs.YtpofihiojhbfgaaGreatDoor.OwnI.one (w : World) (base : Nat) (e : TypeId) (k : IntKind) (z : Int) (hb : base ≤ w.heap.size) : OwnI (w.alloc (.cells #[.int k z] e)) base e k (some ⟨w.heap.size, 0, none⟩) 1 [z] := OwnS.built w base e [.int k z] (by simp [maxLen]) hb

set_option maxHeartbeats 400000 in
theorem refPart_any (v : Int) (h0 : 0 ≤ v) (h1 : v < 18446744073709551616) (w : World) :
    Calls Tryz.prog 102 #[.int .u64 v] w fun e w' => ∃ ao cap, e = .returned (.slice ao 8 cap) ∧ OwnI w' w.heap.size 5 .u8 ao cap (wrN 8 v) ∧ Below w.heap.size w w' := by
  go_enter Tryz.func102, Tryz.ntmps102
  go_wp2
  go_loopw [0, 3, 4] (fun n t i wr => ∃ (k : Nat) (a : Option Addr) (c : Nat), k ≤ 8 ∧ i = .int .i64 k ∧ n = .int .u64 (v / 256 ^ k) ∧ t = .slice a k c ∧ OwnI wr w.heap.size 5 .u8 a c (wrN k v) ∧ Below w.heap.size w wr) (fun _ _ i _ => 8 - (intOf i).toNat)
  case atStart => exact ⟨0, _, _, Nat.zero_le _, rfl, by simp, rfl, OwnI.fresh w _ _ _ (Nat.le_refl _), below_box _ _⟩
  case round =>
    obtain ⟨k, a, c, hk, rfl, rfl, rfl, ho, hbel⟩ := hrel
    have hsz := hbel.size
    by_cases hlt : k < 8
    · have HC : Hid ([v / 256 ^ k % 256] ++ wrN k v = wrN (k + 1) v) := (wrN_cons k v).symm
      have HD : Hid (v / 256 ^ k / 256 = v / 256 ^ (k + 1)) := by
        rw [Hid, Int.pow_succ, Int.ediv_ediv_of_nonneg (Int.le_of_lt (Int.pow_pos (by omega)))]
      have hp : (0 : Int) < 256 ^ k := Int.pow_pos (by omega)
      have q0 : 0 ≤ v / 256 ^ k := Int.ediv_nonneg h0 (Int.le_of_lt hp)
      have q1 : v / 256 ^ k < 18446744073709551616 := Int.lt_of_le_of_lt (Int.ediv_le_self _ h0) h1
      clear hp
      generalize v / 256 ^ k = r at *
      go_wp2_with (first
        | (at_builtin; refine wpList_append_rdI _ rfl (.tmp 13) (.tmp 14) 31 rfl w.heap.size 5 .u8 (.int .u8 0) 1 Tryz.underlying31 info5 rfl rfl rfl (OwnI.one wr w.heap.size 5 .u8 _ hsz) (ho.alloc _).rd rfl (wrN_length k v) (by omega) (by unfold maxLen; omega) (by simp; omega) ?_; intro ao2 cap2 w2 ho2 hb2)
        | (fail))
      go_roundw
      case rel => exact ⟨k + 1, ao2, cap2, by omega, by go_num, by rw [← HD.out], by rw [Nat.add_comm], by rw [← HC.out]; exact ho2, (hbel.alloc hsz _).trans hb2⟩
      case measure => simp [intOf]; omega
    · obtain rfl : k = 8 := by omega
      go_wp2
      go_ret
      exact ⟨_, _, rfl, ho, hbel⟩

set_option maxHeartbeats 400000 in
theorem refValue_any (a b : Nat) (w : World) (ha : a < 18446744073709551616) (hb : b < 18446744073709551616) :
    Calls Tryz.prog 63 #[.complex .f64 a b] w fun e w' => ∃ ao cap, e = .returned (.slice ao 16 cap) ∧ OwnI w' w.heap.size 5 .u8 ao cap (valN a b) ∧ Below w.heap.size w w' := by
  have fa := formN_lt a ha
  have fb := formN_lt b hb
  go_enter Tryz.func63, Tryz.ntmps63
  go_wp2_with (first
    | (go_at_call 101; refine (refBits_any a b ha hb _).mono ?_; rintro e w' ⟨rfl, hw⟩; subst w')
    | (at_builtin; refine wpList_append_rdI _ rfl (.tmp 11) (.tmp 13) 31 rfl w.heap.size 5 .u8 (.int .u8 0) 1 Tryz.underlying31 info5 rfl rfl rfl (ho1.below hb2) ho2.rd (wrN_length 8 _) (wrN_length 8 _) (by omega) (by unfold maxLen; omega) (below_step hb1 hb2).size ?_; intro ao3 cap3 w3 ho3 hb3)
    | (go_at_call_of 102 (Value.int IntKind.u64 (formN a : Int)); refine (refPart_any (formN a : Int) (by omega) (by omega) w).mono ?_; rintro e w1 ⟨ao1, cap1, rfl, ho1, hb1⟩)
    | (go_at_call 102; refine (refPart_any (formN b : Int) (by omega) (by omega) _).mono ?_; rintro e w2 ⟨ao2, cap2, rfl, ho2, hb2⟩))
  go_ret
  exact ⟨_, _, rfl, ho3, (below_step hb1 hb2).trans hb3⟩

end Go.Proofs.YtpofihiojhbfgaaGreatDoor.Msg

namespace Go.Proofs.YtpofihiojhbfgaaGreatDoor.Msg
open Go.RowKit
set_option linter.unusedVariables false
set_option maxRecDepth 8000

end Go.Proofs.YtpofihiojhbfgaaGreatDoor.Msg

namespace Go.Proofs.YtpofihiojhbfgaaGreatDoor.Msg
open Go.RowKit
set_option linter.unusedVariables false
set_option maxRecDepth 8000

theorem refFlag_any (b : Bool) (w : World) : Calls Tryz.prog 62 #[.bool b] w fun e w' => e = .returned (.int .i64 (flgI b)) ∧ w' = w := by
  cases b
  all_goals
    go_enter Tryz.func62, Tryz.ntmps62
    go_wp2
    go_ret
    exact ⟨rfl, rfl⟩

theorem refNums_at (W : World) (g m q : Nat) (hg : W.heap.size = g) (xs : Array Value) (zs : List Int) (hx : xs.toList = zs.map (Value.int .i64)) (hm : zs.length = m) (hq : q = 3 * m) (hz : ∀ z ∈ zs, 0 ≤ z ∧ z ≤ 16777215) (hs : m ≤ 1000) :
    Calls Tryz.prog 61 #[.slice (some ⟨g, 0, none⟩) m m] (W.alloc (.cells xs 3)) fun e w' => ∃ ao cap, e = .returned (.tuple #[.slice ao q cap, .int .i64 0]) ∧
      OwnI w' W.heap.size 5 .u8 ao cap (formsN zs) ∧ Below W.heap.size W w' := by
  subst hg hq
  have hr := RdI.built W 3 .i64 xs m zs hx hm (by unfold maxLen; omega)
  refine (refNums_good _ m m zs _ hr hm (by omega) hz).mono ?_
  rintro e w2 ⟨ao2, cap2, rfl, ho2, hb2⟩
  have hs3 : (W.alloc (.cells xs 3)).heap.size = W.heap.size + 1 := by simp
  rw [hs3] at ho2 hb2
  exact ⟨_, _, rfl, ho2.mono (by omega), (below_box W _).trans (hb2.mono (by omega))⟩

end Go.Proofs.YtpofihiojhbfgaaGreatDoor.Msg

namespace Go.Proofs.YtpofihiojhbfgaaGreatDoor.Msg
open Go.RowKit
set_option linter.unusedVariables false
set_option maxRecDepth 8000

theorem refIn_any (n a b : Int) (w : World) : Calls Tryz.prog 132 #[.int .i64 n, .int .i64 a, .int .i64 b] w fun e w' => e = .returned (.bool (btw n a b)) ∧ w' = w := by
  go_enter Tryz.func132, Tryz.ntmps132
  go_wp2
  all_goals
    go_ret
    exact ⟨ret_bool (by first | (simp_all [btw]; done) | (simp_all [btw]; omega)), rfl⟩

def prevZ (ps : List PutG) (k : Nat) : Int := if k = 0 then -1 else ((ps.getD (k - 1) ⟨0, 0, (0, 0)⟩).place : Int)

set_option maxHeartbeats 800000 in
theorem refPuts_any (ao : Option Addr) (n cap : Nat) (ps : List PutG) (w : World) (h : RdP w ao n cap ps) (hn : n ≤ 140737488355328) :
    Calls Tryz.prog 100 #[.slice ao n cap] w fun e w' => e = .returned (.bool (putsB ps)) ∧ Below w.heap.size w w' := by
  have hl := h.len
  have HR : Hid (RdP w ao n cap ps) := h
  clear h
  have hst := fun (ad : Addr) (re im : Nat) (W : World) => run_store Tryz.prog W ad (.complex .f64 re im) .plain rfl
  go_enter Tryz.func100, Tryz.ntmps100
  go_wp2
  go_loopw [7] (fun i wr => ∃ (k : Nat), k ≤ n ∧ i = .int .i64 k ∧ putsFrom (-1) ps = putsFrom (prevZ ps k) (ps.drop k) ∧ (∀ j q, k = j + 1 → ps[j]? = some q → q.ob ≤ 3) ∧ Below w.heap.size w wr) (fun i _ => n - (intOf i).toNat)
  case atStart => exact ⟨0, Nat.zero_le _, rfl, rfl, fun j q h => by omega, Below.refl _ _⟩
  case round =>
    obtain ⟨k, hk, rfl, hz, hob, hbel⟩ := hrel
    by_cases hlt : k < n
    · have hkl : k < ps.length := by omega
      obtain ⟨b, off, rfl, hb, q0, q1, q2⟩ := (HR.out.below hbel).cell k hkl
      rw [putsFrom_at _ ps k hkl] at hz
      have HB5 : Hid (Below w.heap.size w (wr.alloc (wputO ps[k]))) := hbel.alloc hbel.size _
      have HNX : Hid (prevZ ps (k + 1) = (ps[k].place : Int)) := by
        simp only [Hid, prevZ, Nat.succ_ne_zero, if_false, Nat.add_sub_cancel, List.getD_eq_getElem?_getD, List.getElem?_eq_getElem hkl, Option.getD_some]
      have HKK : Hid (ps[k]? = some ps[k]) := List.getElem?_eq_getElem _
      by_cases h1 : (ps[k].pg : Int) ≤ 5
      · by_cases h2 : (ps[k].ob : Int) ≤ 3
        · have e1 : btw (ps[k].pg : Int) 0 5 = true := by simp [btw]; omega
          have e2 : btw (ps[k].ob : Int) 0 3 = true := by simp [btw]; omega
          have HRL : Hid (∀ W, Below w.heap.size w W → prevZ ps (k + 1) = (ps[k].place : Int) → putsFrom (-1) ps = (decide (prevZ ps k < (ps[k].place : Int)) && putsFrom (prevZ ps (k + 1)) (ps.drop (k + 1)))) := fun W _ e => by
            rw [hz, decide_eq_true h1, decide_eq_true h2, e]; simp
          have HOB : Hid (∀ j q, k + 1 = j + 1 → ps[j]? = some q → q.ob ≤ 3) := fun j q hj hq => by
            obtain rfl : k = j := by omega
            rw [HKK.out] at hq; cases hq; omega
          have HFN : Hid (¬ prevZ ps k < (ps[k].place : Int) → putsB ps = false) := fun hh => by
            rw [putsB, HRL.out w (Below.refl _ _) HNX.out, decide_eq_false hh]; simp
          have HGO : Hid (prevZ ps k < (ps[k].place : Int) → putsFrom (-1) ps = putsFrom (prevZ ps (k + 1)) (ps.drop (k + 1))) := fun hh => by
            rw [HRL.out w (Below.refl _ _) HNX.out, decide_eq_true hh]; simp
          clear HRL hz
          by_cases hk0 : k = 0
          · subst hk0
            have HG : Hid (putsFrom (-1) ps = putsFrom (prevZ ps (0 + 1)) (ps.drop (0 + 1))) := HGO.out (by simp [prevZ]; omega)
            clear HFN HGO hob
            generalize ps[0] = p at *
            simp only [Nat.zero_mul, Nat.add_zero] at q0 q1 q2
            go_upto_region 6 with (first
                | (go_at_call 132; refine (refIn_any _ _ _ _).mono ?_; rw [e2]; rintro e w' ⟨rfl, hw⟩; subst w')
                | (go_at_call 132; refine (refIn_any _ _ _ _).mono ?_; rw [e1]; rintro e w' ⟨rfl, hw⟩; subst w')
                | (fail))
            go_quiet (fail)
            go_wp2
            go_roundw
            case rel => exact ⟨0 + 1, by omega, by go_num, HG.out, HOB.out, ⟨HB5.out.os, HB5.out.tape, HB5.out.output, HB5.out.size, HB5.out.block⟩⟩
            case measure => simp [intOf]; omega
          · obtain ⟨j, rfl⟩ : ∃ j, k = j + 1 := ⟨k - 1, by omega⟩
            have hjl : j < ps.length := by omega
            obtain ⟨b', off', eb, hb', s0, s1, s2⟩ := (HR.out.below hbel).cell j hjl
            simp only [Option.some.injEq, Addr.mk.injEq, and_true] at eb
            obtain ⟨rfl, rfl⟩ := eb
            have hqo := hob j ps[j] rfl (List.getElem?_eq_getElem _)
            have hpz : prevZ ps (j + 1) = (ps[j].pg : Int) * 4 + ps[j].ob := by
              simp only [prevZ, Nat.succ_ne_zero, if_false, Nat.add_sub_cancel, List.getD_eq_getElem?_getD, List.getElem?_eq_getElem hjl, Option.getD_some]
              simp [PutG.place]
            have hpp : (ps[j + 1].place : Int) = (ps[j + 1].pg : Int) * 4 + ps[j + 1].ob := by simp [PutG.place]
            rw [hpz, hpp] at HFN HGO
            clear hpz hpp hob s2
            generalize ps[j] = q at *
            generalize ps[j + 1] = p at *
            have f0 : (wr.alloc (wputO p)).cell? ⟨b, off + j * 3, none⟩ = some (.int .i64 (q.pg : Int)) := ((below_box wr (wputO p)).cell (p := ⟨b, off + j * 3, none⟩) hb).trans s0
            have f1 : (wr.alloc (wputO p)).cell? ⟨b, off + j * 3 + 1, none⟩ = some (.int .i64 (q.ob : Int)) := ((below_box wr (wputO p)).cell (p := ⟨b, off + j * 3 + 1, none⟩) hb).trans s1
            have hs : ((j : Int) + 1) - 1 = (j : Int) := by omega
            have hwj : IntKind.i64.wrap ((j : Int) + 1 - 1) = (j : Int) := by rw [IntKind.wrap_i64]; omega
            have hwk : IntKind.i64.wrap (j : Int) = (j : Int) := by rw [IntKind.wrap_i64]; omega
            have hjn : (j : Int) < (n : Int) := by omega
            have HW5 : Hid (∀ i, Below w.heap.size w ((wr.alloc (wputO p)).drewN i)) := fun i => ⟨HB5.out.os, HB5.out.tape, HB5.out.output, HB5.out.size, HB5.out.block⟩
            by_cases c1 : (p.pg : Int) < (q.pg : Int)
            · have d1 : decide (p.pg < q.pg) = true := decide_eq_true (by omega)
              have HF : Hid (putsB ps = false) := HFN.out (by omega)
              clear HFN HGO c1 HOB
              go_upto_region 6 with (first
                | (go_at_call 132; refine (refIn_any _ _ _ _).mono ?_; rw [e2]; rintro e w' ⟨rfl, hw⟩; subst w')
                | (go_at_call 132; refine (refIn_any _ _ _ _).mono ?_; rw [e1]; rintro e w' ⟨rfl, hw⟩; subst w')
                | (fail))
              go_quiet (fail)
              go_wp2
              go_ret
              exact ⟨ret_bool HF.out.symm, HW5.out _⟩
            · have d1 : decide (p.pg < q.pg) = false := decide_eq_false (by omega)
              by_cases c2 : (q.pg : Int) = (p.pg : Int)
              · have d2 : ((q.pg : Int) == (p.pg : Int)) = true := by simpa using c2
                have d2' : (q.pg == p.pg) = true := by simp; omega
                by_cases c3 : (p.ob : Int) ≤ (q.ob : Int)
                · have d3 : decide (p.ob ≤ q.ob) = true := decide_eq_true (by omega)
                  have HF : Hid (putsB ps = false) := HFN.out (by omega)
                  clear HFN HGO c1 c2 c3 HOB
                  go_upto_region 6 with (first
                | (go_at_call 132; refine (refIn_any _ _ _ _).mono ?_; rw [e2]; rintro e w' ⟨rfl, hw⟩; subst w')
                | (go_at_call 132; refine (refIn_any _ _ _ _).mono ?_; rw [e1]; rintro e w' ⟨rfl, hw⟩; subst w')
                | (fail))
                  go_quiet (fail)
                  go_wp2
                  go_ret
                  exact ⟨ret_bool HF.out.symm, HW5.out _⟩
                · have d3 : decide (p.ob ≤ q.ob) = false := decide_eq_false (by omega)
                  have HG := HGO.out (by omega)
                  have HGG : Hid _ := HG
                  clear HFN HGO c1 c2 c3 HG
                  go_upto_region 6 with (first
                | (go_at_call 132; refine (refIn_any _ _ _ _).mono ?_; rw [e2]; rintro e w' ⟨rfl, hw⟩; subst w')
                | (go_at_call 132; refine (refIn_any _ _ _ _).mono ?_; rw [e1]; rintro e w' ⟨rfl, hw⟩; subst w')
                | (fail))
                  go_quiet (fail)
                  go_wp2
                  go_roundw
                  case rel => exact ⟨j + 1 + 1, by omega, by go_num, HGG.out, HOB.out, HW5.out _⟩
                  case measure => simp [intOf]; omega
              · have d2 : ((q.pg : Int) == (p.pg : Int)) = false := by simpa using c2
                have d2' : (q.pg == p.pg) = false := by simp; omega
                have HG := HGO.out (by omega)
                have HGG : Hid _ := HG
                clear HFN HGO c1 c2 HG
                go_upto_region 6 with (first
                | (go_at_call 132; refine (refIn_any _ _ _ _).mono ?_; rw [e2]; rintro e w' ⟨rfl, hw⟩; subst w')
                | (go_at_call 132; refine (refIn_any _ _ _ _).mono ?_; rw [e1]; rintro e w' ⟨rfl, hw⟩; subst w')
                | (fail))
                go_quiet (fail)
                go_wp2
                go_roundw
                case rel => exact ⟨j + 1 + 1, by omega, by go_num, HGG.out, HOB.out, HW5.out _⟩
                case measure => simp [intOf]; omega
        · have e1 : btw (ps[k].pg : Int) 0 5 = true := by simp [btw]; omega
          have e2 : btw (ps[k].ob : Int) 0 3 = false := by simp [btw]; omega
          have HF : Hid (putsB ps = false) := by rw [Hid, putsB, hz, decide_eq_false h2]; simp
          clear hz hob
          generalize ps[k] = p at *
          go_wp2_with (first
                | (go_at_call 132; refine (refIn_any _ _ _ _).mono ?_; rw [e2]; rintro e w' ⟨rfl, hw⟩; subst w')
                | (go_at_call 132; refine (refIn_any _ _ _ _).mono ?_; rw [e1]; rintro e w' ⟨rfl, hw⟩; subst w')
                | (fail))
          go_ret
          exact ⟨ret_bool HF.out.symm, HB5.out⟩
      · have e1 : btw (ps[k].pg : Int) 0 5 = false := by simp [btw]; omega
        have HF : Hid (putsB ps = false) := by rw [Hid, putsB, hz, decide_eq_false h1]; simp
        clear hz hob
        generalize ps[k] = p at *
        go_wp2_with (first
          | (go_at_call 132; refine (refIn_any _ _ _ _).mono ?_; rw [e1]; rintro e w' ⟨rfl, hw⟩; subst w')
          | (fail))
        go_ret
        exact ⟨ret_bool HF.out.symm, HB5.out⟩
    · obtain rfl : k = n := by omega
      have HP : Hid (putsB ps = decide ((k : Int) ≤ 24)) := by
        rw [Hid, putsB, hz, List.drop_of_length_le (by omega), hl]
        by_cases h24 : k ≤ 24 <;> simp [putsFrom, h24] <;> omega
      go_wp2
      go_ret
      exact ⟨ret_bool HP.out.symm, hbel⟩

end Go.Proofs.YtpofihiojhbfgaaGreatDoor.Msg

namespace Go.Proofs.YtpofihiojhbfgaaGreatDoor.Msg
open Go.RowKit
set_option linter.unusedVariables false
set_option maxRecDepth 8000

theorem words4 {a b c d : Nat × Nat} (ha : wordB a) (hb : wordB b) (hc : wordB c) (hd : wordB d) : ∀ x ∈ [a, b, c, d], wordB x := by
  intro x hx
  simp only [List.mem_cons, List.not_mem_nil, or_false] at hx
  rcases hx with e | e | e | e
  all_goals (subst e; assumption)

set_option maxHeartbeats 800000 in
theorem refValues_any (a0 a1 a2 a3 b0 b1 b2 b3 : Nat × Nat) (ha : ∀ x ∈ [a0, a1, a2, a3], wordB x) (hb : ∀ x ∈ [b0, b1, b2, b3], wordB x) (w : World) :
    Calls Tryz.prog 99 #[v4V a0 a1 a2 a3, v4V b0 b1 b2 b3] w fun x w' => x = .returned (.bool (allSame [a0, a1, a2, a3] [b0, b1, b2, b3])) ∧ Below w.heap.size w w' := by
  have hA : ((w.alloc (v4O a0 a1 a2 a3)).alloc (v4O b0 b1 b2 b3)).heap[w.heap.size]? = some (v4O a0 a1 a2 a3) := by
    rw [(below_box (w.alloc (v4O a0 a1 a2 a3)) (v4O b0 b1 b2 b3)).block w.heap.size (by simp)]
    exact heap_alloc_new w _
  have hB : ((w.alloc (v4O a0 a1 a2 a3)).alloc (v4O b0 b1 b2 b3)).heap[w.heap.size + 1]? = some (v4O b0 b1 b2 b3) := by
    have := heap_alloc_new (w.alloc (v4O a0 a1 a2 a3)) (v4O b0 b1 b2 b3)
    rwa [show (w.alloc (v4O a0 a1 a2 a3)).heap.size = w.heap.size + 1 by simp] at this
  have HA := v4_at hA
  have HB := v4_at hB
  clear hA hB
  have lx : [a0, a1, a2, a3].length = 4 := rfl
  have ly : [b0, b1, b2, b3].length = 4 := rfl
  generalize hxs : [a0, a1, a2, a3] = xs at *
  generalize hys : [b0, b1, b2, b3] = ys at *
  have HX : Hid (∀ k (h : k < xs.length), ((w.alloc (v4O a0 a1 a2 a3)).alloc (v4O b0 b1 b2 b3)).cell? ⟨w.heap.size, k, none⟩ = some (.complex .f64 xs[k].1 xs[k].2)) := HA
  have HY : Hid (∀ k (h : k < ys.length), ((w.alloc (v4O a0 a1 a2 a3)).alloc (v4O b0 b1 b2 b3)).cell? ⟨w.heap.size + 1, k, none⟩ = some (.complex .f64 ys[k].1 ys[k].2)) := HB
  have WX : Hid (∀ x ∈ xs, wordB x) := ha
  have WY : Hid (∀ x ∈ ys, wordB x) := hb
  clear HA HB hxs hys ha hb
  go_enter Tryz.func99, Tryz.ntmps99
  go_wp2
  generalize hW : (w.alloc (v4O a0 a1 a2 a3)).alloc (v4O b0 b1 b2 b3) = W0 at *
  have HBW : Hid (Below w.heap.size w W0) := by rw [← hW]; exact below2 _ _ _
  clear hW
  go_loopw [5] (fun i wr => ∃ (k j : Nat), k ≤ 4 ∧ i = .int .i64 k ∧ allSame xs ys = allSame (xs.drop k) (ys.drop k) ∧ wr = W0.drewN j) (fun i _ => 4 - (intOf i).toNat)
  case atStart => exact ⟨0, 0, Nat.zero_le _, rfl, rfl, rfl⟩
  case round =>
    obtain ⟨k, j, hk, rfl, hsm, rfl⟩ := hrel
    by_cases hlt : k < 4
    · rw [allSame_at xs ys k (by omega) (by omega)] at hsm
      have HSM : Hid (allSame xs ys = (sameB (xs[k]'(by omega)).1 (xs[k]'(by omega)).2 (ys[k]'(by omega)).1 (ys[k]'(by omega)).2 && allSame (xs.drop (k + 1)) (ys.drop (k + 1)))) := hsm
      have q1 := HX.out k (by omega)
      have q2 := HY.out k (by omega)
      have u1 := WX.out _ (List.getElem_mem (show k < xs.length by omega))
      have u2 := WY.out _ (List.getElem_mem (show k < ys.length by omega))
      clear hsm
      cases hs : sameB (xs[k]'(by omega)).1 (xs[k]'(by omega)).2 (ys[k]'(by omega)).1 (ys[k]'(by omega)).2
      · go_wp2
        go_quiet ((first
          | (go_at_call 131; refine (refSame_any _ _ u1 u2 _).mono ?_; rw [hs]; rintro x w0 ⟨rfl, hw⟩; subst w0; exact ⟨rfl, _, rfl⟩)))
        go_wp2
        go_ret
        exact ⟨ret_bool (by rw [HSM.out, hs]; rfl), ⟨HBW.out.os, HBW.out.tape, HBW.out.output, HBW.out.size, HBW.out.block⟩⟩
      · go_wp2
        go_quiet ((first
          | (go_at_call 131; refine (refSame_any _ _ u1 u2 _).mono ?_; rw [hs]; rintro x w0 ⟨rfl, hw⟩; subst w0; exact ⟨rfl, _, rfl⟩)))
        go_wp2
        go_roundw
        case rel => exact ⟨k + 1, _, by omega, by go_num, by rw [HSM.out, hs]; rfl, rfl⟩
        case measure => simp [intOf]; omega
    · go_wp2
      go_ret
      exact ⟨ret_bool (by rw [hsm, List.drop_of_length_le (by omega), List.drop_of_length_le (by omega)]; rfl), ⟨HBW.out.os, HBW.out.tape, HBW.out.output, HBW.out.size, HBW.out.block⟩⟩

abbrev hasV (a b c d e f : Bool) : Value := .agg #[.bool a, .bool b, .bool c, .bool d, .bool e, .bool f]

theorem has_01 (k : Int) (hk : k = 0 ∨ k = 1) (w : World) : Calls Tryz.prog 98 #[.int .i64 k] w fun x w' => x = .returned (hasV true false false false false false) ∧ Below w.heap.size w w' := by
  rcases hk with rfl | rfl
  all_goals
    go_enter Tryz.func98, Tryz.ntmps98
    go_wp2
    go_returns
    exact ⟨rfl, below_box _ _⟩

theorem has_2 (w : World) : Calls Tryz.prog 98 #[.int .i64 2] w fun x w' => x = .returned (hasV false true false false true false) ∧ Below w.heap.size w w' := by
  go_enter Tryz.func98, Tryz.ntmps98
  go_wp2
  go_returns
  exact ⟨rfl, below_box _ _⟩

end Go.Proofs.YtpofihiojhbfgaaGreatDoor.Msg

namespace Go.Proofs.YtpofihiojhbfgaaGreatDoor.Msg
open Go.RowKit
set_option linter.unusedVariables false
set_option maxRecDepth 8000

theorem sameB_self (a b : Nat) : sameB a b a b = true := by simp [sameB]

theorem samePs_self : ∀ ps : List PutG, samePs ps ps = true
  | [] => rfl
  | p :: r => by rw [samePs, samePs_self r, samePutB, sameB_self]; simp

theorem samePs_nil (ps : List PutG) (nn : Nat) (h : ps.length = nn) : samePs ps [] = true ↔ nn = 0 := by
  subst h
  cases ps with
  | nil => simp [samePs]
  | cons p r => simp [samePs]

structure Nb (k p o t n : Int) : Prop where
  p : 0 ≤ p ∧ p ≤ 5
  o : 0 ≤ o ∧ o ≤ 3
  t : 0 ≤ t ∧ t ≤ 16777215
  n : 0 ≤ n ∧ n ≤ 15

theorem within_nb {k p o t c n : Int} {wr : Bool} {ps : List PutG} {v0 v1 v2 v3 : Nat × Nat} (h : Nb k p o t n) : withinB ⟨k, p, o, t, c, n, wr, ps, v0, v1, v2, v3⟩ = (copyB k c && putsB ps) := by
  have e1 : btw p 0 5 = true := (btw_iff _ _ _).2 h.p
  have e2 : btw o 0 3 = true := (btw_iff _ _ _).2 h.o
  have e3 : btw t 0 16777215 = true := (btw_iff _ _ _).2 h.t
  have e4 : btw n 0 15 = true := (btw_iff _ _ _).2 h.n
  simp [withinB, e1, e2, e3, e4]

theorem iff_0 (p o t c n : Int) (wr : Bool) (ps : List PutG) (nn : Nat) (v0 v1 v2 v3 : Nat × Nat) (h : Nb 0 p o t n) (hl : ps.length = nn) :
    rightB ⟨0, p, o, t, c, n, wr, ps, v0, v1, v2, v3⟩ = true ↔ (0 ≤ c ∧ c ≤ 15) ∧ t = 0 ∧ n = 0 ∧ c = 0 ∧ wr = false ∧ nn = 0 ∧ allSame [v0, v1, v2, v3] [z2, z2, z2, z2] = true ∧ putsB ps = true := by
  have e := samePs_nil ps nn hl
  rw [rightB, within_nb h]
  simp only [thereB, copyB, sameM, ownM, Mg.vs, Bool.and_eq_true]
  simp [btw_iff, e]
  constructor
  · intro hh
    simp [hh]
  · intro hh
    simp [hh]

theorem iff_1 (p o t c n : Int) (wr : Bool) (ps : List PutG) (nn : Nat) (v0 v1 v2 v3 : Nat × Nat) (h : Nb 1 p o t n) (hl : ps.length = nn) :
    rightB ⟨1, p, o, t, c, n, wr, ps, v0, v1, v2, v3⟩ = true ↔ (0 ≤ c ∧ c ≤ 15) ∧ t = 0 ∧ n = 0 ∧ c = 0 ∧ wr = false ∧ nn = 0 ∧ allSame [v0, v1, v2, v3] [z2, z2, z2, z2] = true ∧ putsB ps = true := by
  have e := samePs_nil ps nn hl
  rw [rightB, within_nb h]
  simp only [thereB, copyB, sameM, ownM, Mg.vs, Bool.and_eq_true]
  simp [btw_iff, e]
  constructor
  · intro hh
    simp [hh]
  · intro hh
    simp [hh]

theorem iff_2 (p o t c n : Int) (wr : Bool) (ps : List PutG) (nn : Nat) (v0 v1 v2 v3 : Nat × Nat) (h : Nb 2 p o t n) (hl : ps.length = nn) :
    rightB ⟨2, p, o, t, c, n, wr, ps, v0, v1, v2, v3⟩ = true ↔ (0 ≤ c ∧ c ≤ 15) ∧ o = 0 ∧ p = 0 ∧ n = 0 ∧ c = 0 ∧ wr = false ∧ allSame [v0, v1, v2, v3] [z2, z2, z2, z2] = true ∧ putsB ps = true := by
  rw [rightB, within_nb h]
  simp only [thereB, copyB, sameM, ownM, Mg.vs, Bool.and_eq_true]
  simp [btw_iff, samePs_self]
  constructor
  · intro hh
    simp [hh]
  · intro hh
    simp [hh]

end Go.Proofs.YtpofihiojhbfgaaGreatDoor.Msg

namespace Go.Proofs.YtpofihiojhbfgaaGreatDoor.Msg
open Go.RowKit
set_option linter.unusedVariables false
set_option maxRecDepth 8000

set_option maxHeartbeats 4000000 in
set_option maxRecDepth 100000 in
theorem refRight_01z (k : Int) (hk : k = 0 ∨ k = 1) (p o t c n : Int) (wr : Bool) (ps : List PutG) (v0 v1 v2 v3 : Nat × Nat) (ao : Option Addr) (cap : Nat) (w : World) (h : RdP w ao 0 cap ps) (hN : Nb k p o t n) (hv : ∀ x ∈ [v0, v1, v2, v3], wordB x) :
    Calls Tryz.prog 60 #[msV ⟨k, p, o, t, c, n, wr, ps, v0, v1, v2, v3⟩ ao 0 cap] w fun x w' => x = .returned (.bool (rightB ⟨k, p, o, t, c, n, wr, ps, v0, v1, v2, v3⟩)) ∧ Below w.heap.size w w' := by
  have HK : Hid (k = 0 ∨ k = 1) := hk
  have HI : Hid (rightB ⟨k, p, o, t, c, n, wr, ps, v0, v1, v2, v3⟩ = true ↔ (0 ≤ c ∧ c ≤ 15) ∧ t = 0 ∧ n = 0 ∧ c = 0 ∧ wr = false ∧ 0 = 0 ∧ allSame [v0, v1, v2, v3] [z2, z2, z2, z2] = true ∧ putsB ps = true) := by
    rcases hk with e | e
    · subst e; exact iff_0 p o t c n wr ps 0 v0 v1 v2 v3 ⟨hN.p, hN.o, hN.t, hN.n⟩ h.len
    · subst e; exact iff_1 p o t c n wr ps 0 v0 v1 v2 v3 ⟨hN.p, hN.o, hN.t, hN.n⟩ h.len
  have k1 : ¬ k < 0 := by omega
  have k2 : ¬ 8 < k := by omega
  have k8 : (k == 8) = false := by simp; omega
  have k9 : (k != 8) = true := by simp; omega
  clear hk
  have HR : Hid (RdP w ao 0 cap ps) := h
  have HV : Hid (∀ x ∈ [v0, v1, v2, v3], wordB x) := hv
  have HM : Hid (MgAt (w.alloc (msO ⟨k, p, o, t, c, n, wr, ps, v0, v1, v2, v3⟩ ao 0 cap)) w.heap.size ⟨k, p, o, t, c, n, wr, ps, v0, v1, v2, v3⟩ ao 0 cap) := MgAt.new w _ ao 0 cap
  obtain ⟨⟨p0, p1⟩, ⟨o0, o1⟩, ⟨t0, t1⟩, n0, n1⟩ := hN
  have hB0 : Below w.heap.size w (w.alloc (msO ⟨k, p, o, t, c, n, wr, ps, v0, v1, v2, v3⟩ ao 0 cap)) := below_box _ _
  clear h hv
  go_enter Tryz.func60, Tryz.ntmps60
  go_wp2_with (first
    | (go_at_call 100; refine (refPuts_any ao 0 cap ps _ (HR.out.below hBy) (by omega)).mono ?_; rintro x w3 ⟨rfl, hb3⟩; have hB3 : Below w.heap.size w w3 := below_step hBy hb3; clear hb3)
    | (go_at_call 100; refine (refPuts_any ao 0 cap ps _ (HR.out.below hBx) (by omega)).mono ?_; rintro x w3 ⟨rfl, hb3⟩; have hB3 : Below w.heap.size w w3 := below_step hBx hb3; clear hb3)
    | (go_at_call 99; refine (refValues_any v0 v1 v2 v3 z2 z2 z2 z2 HV.out (words4 ⟨by decide, by decide⟩ ⟨by decide, by decide⟩ ⟨by decide, by decide⟩ ⟨by decide, by decide⟩) _).mono ?_; rintro x w2 ⟨rfl, hb2⟩; have hBy : Below w.heap.size w w2 := below_step hBx hb2; have s7 : w2.cell? ⟨w.heap.size, 7, none⟩ = some (.slice ao 0 cap) := (HMx.out.below hb2).c7; clear hb2)
    | (go_at_call 98; refine (has_01 k HK.out _).mono ?_; rintro x w1 ⟨rfl, hb1⟩; have HMx : Hid (MgAt (w1.alloc (.cells #[.bool true, .bool false, .bool false, .bool false, .bool false, .bool false] 177)) w.heap.size ⟨k, p, o, t, c, n, wr, ps, v0, v1, v2, v3⟩ ao 0 cap) := (HM.out.below hb1).below (below_box _ _); have tm := HMx.out; have q0 : (w1.alloc (.cells #[.bool true, .bool false, .bool false, .bool false, .bool false, .bool false] 177)).cell? ⟨w.heap.size, 0, none⟩ = some (.int .i64 k) := tm.c0; have q1 : (w1.alloc (.cells #[.bool true, .bool false, .bool false, .bool false, .bool false, .bool false] 177)).cell? ⟨w.heap.size, 1, none⟩ = some (.int .i64 p) := tm.c1; have q2 : (w1.alloc (.cells #[.bool true, .bool false, .bool false, .bool false, .bool false, .bool false] 177)).cell? ⟨w.heap.size, 2, none⟩ = some (.int .i64 o) := tm.c2; have q3 : (w1.alloc (.cells #[.bool true, .bool false, .bool false, .bool false, .bool false, .bool false] 177)).cell? ⟨w.heap.size, 3, none⟩ = some (.int .i64 t) := tm.c3; have q4 : (w1.alloc (.cells #[.bool true, .bool false, .bool false, .bool false, .bool false, .bool false] 177)).cell? ⟨w.heap.size, 4, none⟩ = some (.int .i64 c) := tm.c4; have q5 : (w1.alloc (.cells #[.bool true, .bool false, .bool false, .bool false, .bool false, .bool false] 177)).cell? ⟨w.heap.size, 5, none⟩ = some (.int .i64 n) := tm.c5; have q6 : (w1.alloc (.cells #[.bool true, .bool false, .bool false, .bool false, .bool false, .bool false] 177)).cell? ⟨w.heap.size, 6, none⟩ = some (.bool wr) := tm.c6; have q7 : (w1.alloc (.cells #[.bool true, .bool false, .bool false, .bool false, .bool false, .bool false] 177)).cell? ⟨w.heap.size, 7, none⟩ = some (.slice ao 0 cap) := tm.c7; have q8 : (w1.alloc (.cells #[.bool true, .bool false, .bool false, .bool false, .bool false, .bool false] 177)).cell? ⟨w.heap.size, 8, none⟩ = some (.complex .f64 v0.1 v0.2) := tm.c8; have q9 : (w1.alloc (.cells #[.bool true, .bool false, .bool false, .bool false, .bool false, .bool false] 177)).cell? ⟨w.heap.size, 9, none⟩ = some (.complex .f64 v1.1 v1.2) := tm.c9; have q10 : (w1.alloc (.cells #[.bool true, .bool false, .bool false, .bool false, .bool false, .bool false] 177)).cell? ⟨w.heap.size, 10, none⟩ = some (.complex .f64 v2.1 v2.2) := tm.cA; have q11 : (w1.alloc (.cells #[.bool true, .bool false, .bool false, .bool false, .bool false, .bool false] 177)).cell? ⟨w.heap.size, 11, none⟩ = some (.complex .f64 v3.1 v3.2) := tm.cB; have hBx : Below w.heap.size w (w1.alloc (.cells #[.bool true, .bool false, .bool false, .bool false, .bool false, .bool false] 177)) := below_step (below_alloc (hb1.mono (by simp))) (below_box _ _); clear tm hb1 p0 p1 o0 o1 t0 t1 n0 n1)
    | (fail))
  all_goals
    go_ret
    refine ⟨ret_bool (Bool.eq_iff_iff.2 ?_), ?_⟩
    · refine Iff.trans ?_ HI.out.symm
      clear HI HR HV HM
      first
        | (simp_all; done)
        | (simp_all; omega)
        | (constructor <;> intro hh <;> simp_all <;> omega)
    · first | exact hB3 | exact hBy | exact hBx | exact hB0

end Go.Proofs.YtpofihiojhbfgaaGreatDoor.Msg

namespace Go.Proofs.YtpofihiojhbfgaaGreatDoor.Msg
open Go.RowKit
set_option linter.unusedVariables false
set_option maxRecDepth 8000

set_option maxHeartbeats 4000000 in
set_option maxRecDepth 100000 in
theorem refRight_2 (p o t c n : Int) (wr : Bool) (ps : List PutG) (v0 v1 v2 v3 : Nat × Nat) (ao : Option Addr) (nn cap : Nat) (w : World) (h : RdP w ao nn cap ps) (hnn : nn ≤ 140737488355328) (hN : Nb 2 p o t n) (hv : ∀ x ∈ [v0, v1, v2, v3], wordB x) :
    Calls Tryz.prog 60 #[msV ⟨2, p, o, t, c, n, wr, ps, v0, v1, v2, v3⟩ ao nn cap] w fun x w' => x = .returned (.bool (rightB ⟨2, p, o, t, c, n, wr, ps, v0, v1, v2, v3⟩)) ∧ Below w.heap.size w w' := by
  have HI : Hid _ := iff_2 p o t c n wr ps nn v0 v1 v2 v3 hN h.len
  have HR : Hid (RdP w ao nn cap ps) := h
  have HV : Hid (∀ x ∈ [v0, v1, v2, v3], wordB x) := hv
  have HM : Hid (MgAt (w.alloc (msO ⟨2, p, o, t, c, n, wr, ps, v0, v1, v2, v3⟩ ao nn cap)) w.heap.size ⟨2, p, o, t, c, n, wr, ps, v0, v1, v2, v3⟩ ao nn cap) := MgAt.new w _ ao nn cap
  obtain ⟨⟨p0, p1⟩, ⟨o0, o1⟩, ⟨t0, t1⟩, n0, n1⟩ := hN
  have hB0 : Below w.heap.size w (w.alloc (msO ⟨2, p, o, t, c, n, wr, ps, v0, v1, v2, v3⟩ ao nn cap)) := below_box _ _
  clear h hv
  go_enter Tryz.func60, Tryz.ntmps60
  go_wp2_with (first
    | (go_at_call 100; refine (refPuts_any ao nn cap ps _ (HR.out.below hBy) hnn).mono ?_; rintro x w3 ⟨rfl, hb3⟩; have hB3 : Below w.heap.size w w3 := below_step hBy hb3; clear hb3)
    | (go_at_call 100; refine (refPuts_any ao nn cap ps _ (HR.out.below hBx) hnn).mono ?_; rintro x w3 ⟨rfl, hb3⟩; have hB3 : Below w.heap.size w w3 := below_step hBx hb3; clear hb3)
    | (go_at_call 99; refine (refValues_any v0 v1 v2 v3 z2 z2 z2 z2 HV.out (words4 ⟨by decide, by decide⟩ ⟨by decide, by decide⟩ ⟨by decide, by decide⟩ ⟨by decide, by decide⟩) _).mono ?_; rintro x w2 ⟨rfl, hb2⟩; have hBy : Below w.heap.size w w2 := below_step hBx hb2; have s7 : w2.cell? ⟨w.heap.size, 7, none⟩ = some (.slice ao nn cap) := (HMx.out.below hb2).c7; clear hb2)
    | (go_at_call 98; refine (has_2 _).mono ?_; rintro x w1 ⟨rfl, hb1⟩; have HMx : Hid (MgAt (w1.alloc (.cells #[.bool false, .bool true, .bool false, .bool false, .bool true, .bool false] 177)) w.heap.size ⟨2, p, o, t, c, n, wr, ps, v0, v1, v2, v3⟩ ao nn cap) := (HM.out.below hb1).below (below_box _ _); have tm := HMx.out; have q0 : (w1.alloc (.cells #[.bool false, .bool true, .bool false, .bool false, .bool true, .bool false] 177)).cell? ⟨w.heap.size, 0, none⟩ = some (.int .i64 2) := tm.c0; have q1 : (w1.alloc (.cells #[.bool false, .bool true, .bool false, .bool false, .bool true, .bool false] 177)).cell? ⟨w.heap.size, 1, none⟩ = some (.int .i64 p) := tm.c1; have q2 : (w1.alloc (.cells #[.bool false, .bool true, .bool false, .bool false, .bool true, .bool false] 177)).cell? ⟨w.heap.size, 2, none⟩ = some (.int .i64 o) := tm.c2; have q3 : (w1.alloc (.cells #[.bool false, .bool true, .bool false, .bool false, .bool true, .bool false] 177)).cell? ⟨w.heap.size, 3, none⟩ = some (.int .i64 t) := tm.c3; have q4 : (w1.alloc (.cells #[.bool false, .bool true, .bool false, .bool false, .bool true, .bool false] 177)).cell? ⟨w.heap.size, 4, none⟩ = some (.int .i64 c) := tm.c4; have q5 : (w1.alloc (.cells #[.bool false, .bool true, .bool false, .bool false, .bool true, .bool false] 177)).cell? ⟨w.heap.size, 5, none⟩ = some (.int .i64 n) := tm.c5; have q6 : (w1.alloc (.cells #[.bool false, .bool true, .bool false, .bool false, .bool true, .bool false] 177)).cell? ⟨w.heap.size, 6, none⟩ = some (.bool wr) := tm.c6; have q7 : (w1.alloc (.cells #[.bool false, .bool true, .bool false, .bool false, .bool true, .bool false] 177)).cell? ⟨w.heap.size, 7, none⟩ = some (.slice ao nn cap) := tm.c7; have q8 : (w1.alloc (.cells #[.bool false, .bool true, .bool false, .bool false, .bool true, .bool false] 177)).cell? ⟨w.heap.size, 8, none⟩ = some (.complex .f64 v0.1 v0.2) := tm.c8; have q9 : (w1.alloc (.cells #[.bool false, .bool true, .bool false, .bool false, .bool true, .bool false] 177)).cell? ⟨w.heap.size, 9, none⟩ = some (.complex .f64 v1.1 v1.2) := tm.c9; have q10 : (w1.alloc (.cells #[.bool false, .bool true, .bool false, .bool false, .bool true, .bool false] 177)).cell? ⟨w.heap.size, 10, none⟩ = some (.complex .f64 v2.1 v2.2) := tm.cA; have q11 : (w1.alloc (.cells #[.bool false, .bool true, .bool false, .bool false, .bool true, .bool false] 177)).cell? ⟨w.heap.size, 11, none⟩ = some (.complex .f64 v3.1 v3.2) := tm.cB; have hBx : Below w.heap.size w (w1.alloc (.cells #[.bool false, .bool true, .bool false, .bool false, .bool true, .bool false] 177)) := below_step (below_alloc (hb1.mono (by simp))) (below_box _ _); clear tm hb1 p0 p1 o0 o1 t0 t1 n0 n1)
    | (fail))
  all_goals
    go_ret
    refine ⟨ret_bool (Bool.eq_iff_iff.2 ?_), ?_⟩
    · refine Iff.trans ?_ HI.out.symm
      clear HI HR HV HM
      first
        | (simp_all; done)
        | (simp_all; omega)
        | (constructor <;> intro hh <;> simp_all <;> omega)
    · first | exact hB3 | exact hBy | exact hBx | exact hB0

end Go.Proofs.YtpofihiojhbfgaaGreatDoor.Msg

namespace Go.Proofs.YtpofihiojhbfgaaGreatDoor.Msg
open Go.RowKit
set_option linter.unusedVariables false
set_option maxRecDepth 8000

set_option maxHeartbeats 1600000 in
theorem refBytes_ok (M : Mg) (ao : Option Addr) (n cap : Nat) (w : World) (HRt : ∀ W : World, RdP W ao n cap M.ps → Calls Tryz.prog 60 #[msV M ao n cap] W fun x w' => x = .returned (.bool (rightB M)) ∧ Below W.heap.size W w') (h : RdP w ao n cap M.ps) (hr : rightB M = true) (hw : Wd M) :
    Calls Tryz.prog 33 #[msV M ao n cap] w fun x w' => ∃ a2 c2, x = .returned (.tuple #[.slice a2 (msgZ M).length c2, .int .i64 0]) ∧ OwnI w' w.heap.size 5 .u8 a2 c2 (msgZ M) ∧ Below w.heap.size w w' := by
  have HRT : Hid _ := HRt
  clear HRt
  have hbd := bd_of_right hr
  have hpm := putsB_mem hbd.ps
  have hln := h.len
  have hn : n ≤ 24 := by omega
  have h2 := h.below (below_box w (msO M ao n cap))
  have HR : Hid (RdP w ao n cap M.ps) := h
  have HW : Hid (Wd M) := hw
  have HPM : Hid (M.ps.length ≤ 24 ∧ ∀ p ∈ M.ps, p.pg ≤ 5 ∧ p.ob ≤ 3) := hpm
  have HZ : Hid (∀ z ∈ [M.k, M.p, M.o, M.t, M.c, M.n, flgI M.wr, (n : Int)], 0 ≤ z ∧ z ≤ 16777215) := by
    intro z hz
    obtain ⟨b1, b2, b3, b4, b5, b6, -⟩ := hbd
    have := flgI_bd M.wr
    simp only [List.mem_cons, List.not_mem_nil, or_false] at hz
    omega
  have HH : Hid (formsN [M.k, M.p, M.o, M.t, M.c, M.n, flgI M.wr, (n : Int)] = partZ M 0) := by
    rw [Hid, partZ, headZ, hln]; simp [putsZ]
  have HL : Hid (M.ps.length = n) := hln
  clear h hw hpm hbd hln
  have hst := fun (ad : Addr) (re im : Nat) (W : World) => run_store Tryz.prog W ad (.complex .f64 re im) .plain rfl
  go_enter Tryz.func33, Tryz.ntmps33
  go_upto_region 3 with (first
    | (go_at_call 60; refine (HRT.out _ h2).mono ?_; rw [hr]; rintro x w1 ⟨rfl, hb⟩; have HB1 : Hid (Below w.heap.size w w1) := below_alloc (hb.mono (by simp)); have hM := (MgAt.new w M ao n cap).below hb; have HM : Hid (∀ W, Below w1.heap.size w1 W → MgAt W w.heap.size M ao n cap) := fun W hW => hM.below hW; clear hb h2)
    | (fail))
  have HS : Hid (∀ W, Below w1.heap.size w1 W → (W.cell? ⟨w.heap.size, 0, none⟩ = some (.int .i64 M.k) ∧ W.cell? ⟨w.heap.size, 1, none⟩ = some (.int .i64 M.p) ∧ W.cell? ⟨w.heap.size, 2, none⟩ = some (.int .i64 M.o) ∧ W.cell? ⟨w.heap.size, 3, none⟩ = some (.int .i64 M.t) ∧ W.cell? ⟨w.heap.size, 4, none⟩ = some (.int .i64 M.c) ∧ W.cell? ⟨w.heap.size, 5, none⟩ = some (.int .i64 M.n) ∧ W.cell? ⟨w.heap.size, 6, none⟩ = some (.bool M.wr) ∧ W.cell? ⟨w.heap.size, 7, none⟩ = some (.slice ao n cap))) := fun W hW => by
    have t := HM.out W hW
    exact ⟨t.c0, t.c1, t.c2, t.c3, t.c4, t.c5, t.c6, t.c7⟩
  clear hM
  first
    | go_region_held (fun W => (W.cell? ⟨w.heap.size, 0, none⟩ = some (.int .i64 M.k) ∧ W.cell? ⟨w.heap.size, 1, none⟩ = some (.int .i64 M.p) ∧ W.cell? ⟨w.heap.size, 2, none⟩ = some (.int .i64 M.o) ∧ W.cell? ⟨w.heap.size, 3, none⟩ = some (.int .i64 M.t) ∧ W.cell? ⟨w.heap.size, 4, none⟩ = some (.int .i64 M.c) ∧ W.cell? ⟨w.heap.size, 5, none⟩ = some (.int .i64 M.n) ∧ W.cell? ⟨w.heap.size, 6, none⟩ = some (.bool M.wr) ∧ W.cell? ⟨w.heap.size, 7, none⟩ = some (.slice ao n cap)))
      (first | exact HS.out _ (Below.refl _ _) | exact HS.out _ (Below.refl _ _).drew | exact HS.out _ ((Below.refl _ _).drew.alloc (Nat.le_refl _) _) | exact HS.out _ hb2 | fail)
      (first
        | (go_at_call 62; refine (refFlag_any _ _).mono ?_; rintro x w0 ⟨rfl, hw⟩; subst w0)
        | (go_at_call 61; refine (refNums_at w1.drew _ 8 24 rfl _ [M.k, M.p, M.o, M.t, M.c, M.n, flgI M.wr, (n : Int)] rfl rfl rfl HZ.out (by omega)).mono ?_; rintro x w2 ⟨ao2, cap2, rfl, ho2, hb2'⟩; have hb2 : Below w1.heap.size w1 w2 := ⟨hb2'.os, hb2'.tape, hb2'.output, hb2'.size, hb2'.block⟩; clear hb2'))
    | fail
  have ho2' : OwnI w2 w1.heap.size 5 .u8 ao2 cap2 (partZ M 0) := by rw [← HH.out]; exact ho2
  have t7 := (HS.out w2 hb2).2.2.2.2.2.2.2
  clear ho2 HH HZ
  go_wp2
  go_loopw [4, 40] (fun s i wr => ∃ (k : Nat) (a : Option Addr) (cc : Nat), k ≤ n ∧ i = .int .i64 k ∧ s = .slice a (24 + 22 * k) cc ∧ OwnI wr w1.heap.size 5 .u8 a cc (partZ M k) ∧ Below w1.heap.size w1 wr) (fun _ i _ => n - (intOf i).toNat)
  case atStart => exact ⟨0, _, _, Nat.zero_le _, rfl, rfl, ho2', hb2⟩
  case round =>
    obtain ⟨k, a, cc, hk, rfl, rfl, ho, hbel⟩ := hrel
    clear ho2' hb2 t7
    have hsz := hbel.size
    by_cases hlt : k < n
    · have hkl : k < M.ps.length := by have := HL.out; omega
      obtain ⟨b, off, rfl, hb, q0, q1, q2⟩ := ((HR.out.below HB1.out).below hbel).cell k hkl
      obtain ⟨hp1, hp2⟩ := HPM.out.2 M.ps[k] (List.getElem_mem _)
      have hp3 := HW.out.ps M.ps[k] (List.getElem_mem _)
      have HSn : Hid (partZ M k ++ formsN [(M.ps[k].pg : Int), (M.ps[k].ob : Int)] ++ valN M.ps[k].c.1 M.ps[k].c.2 = partZ M (k + 1)) := partZ_snoc M k hkl
      have HLn : Hid ((partZ M k).length = 24 + 22 * k) := partZ_length M k (by omega)
      generalize M.ps[k] = p at *
      obtain ⟨pg, ob, x1, x2⟩ := p
      simp only at hp1 hp2 hp3 q0 q1 q2 HSn
      have HF : Hid (x1 < 18446744073709551616 ∧ x2 < 18446744073709551616) := ⟨hp3.1, hp3.2⟩
      clear hp3
      have HBL : Hid (∀ y, a = some y → w1.heap.size ≤ y.block ∧ y.block < wr.heap.size) := ho.blk
      go_wp2_with (first
        | (at_builtin; refine wpList_append_at _ rfl (.tmp 56) (.tmp 59) 31 rfl w1.heap.size 5 .u8 (.int .u8 0) 1 Tryz.underlying31 info5 rfl rfl rfl (ho4.below hb5) ho5.rd (by rw [List.length_append, HLn.out, formsN_length]; rfl) (valN_length _ _) (by omega) (by unfold maxLen; omega) hB5.size ?_; intro ao6 cap6 w6 ho6 hg6 _; have hB6 : Below w1.heap.size w1 w6 := hB5.trans (grown_below hg6 (fun y hy => ((ho4.below hb5).blk y hy).1) hB5.size))
        | (go_at_call 63; refine (refValue_any _ _ _ HF.out.1 HF.out.2).mono ?_; rintro x w5 ⟨ao5, cap5, rfl, ho5, hb5⟩; have hB5 : Below w1.heap.size w1 w5 := below_step hB4 hb5)
        | (at_builtin; refine wpList_append_at _ rfl (.tmp 53) (.tmp 54) 31 rfl w1.heap.size 5 .u8 (.int .u8 0) 1 Tryz.underlying31 info5 rfl rfl rfl ho3 ho3'.rd HLn.out rfl (by omega) (by unfold maxLen; omega) hB3.size ?_; intro ao4 cap4 w4 ho4 hg4 _; have hB4 : Below w1.heap.size w1 w4 := hB3.trans (grown_below hg4 (fun y hy => (HBL.out y hy).1) hB3.size); have v4 := grown_cell hg4 v3 (fun y hy => by have := (HBL.out y hy).2; omega))
        | (go_at_call 61; refine (refNums_at (wr.alloc (wputO ⟨pg, ob, x1, x2⟩)) _ 2 6 (by simp) _ [(pg : Int), ob] rfl rfl rfl ?_ (by omega)).mono ?_; (intro z hz; simp only [List.mem_cons, List.not_mem_nil, or_false] at hz; omega); rintro x w3 ⟨ao3, cap3, rfl, ho3', hb3⟩; have hB3 : Below w1.heap.size w1 w3 := (hbel.alloc hbel.size _).trans (hb3.mono (by simp; omega)); have hw3 : Below wr.heap.size wr w3 := (below_box wr _).trans (hb3.mono (by simp)); have ho3 := ho.below hw3; have v3 : w3.cell? ⟨wr.heap.size, 2, none⟩ = some (.complex .f64 x1 x2) := (hb3.cell (p := ⟨wr.heap.size, 2, none⟩) (by simp)).trans (by rw [cell_of_row _ _ _ _ _ _ (heap_alloc_new wr (wputO ⟨pg, ob, x1, x2⟩))]; rfl))
        | (fail))
      rw [HSn.out] at ho6
      go_roundw
      case rel => exact ⟨k + 1, ao6, cap6, by omega, by go_num, by rw [show 24 + 22 * (k + 1) = 24 + 22 * k + 6 + 16 by omega], ho6, hB6⟩
      case measure => simp [intOf]; omega
    · obtain rfl : k = n := by omega
      have t0 := (HS.out wr hbel).1
      have tM := HM.out wr hbel
      have HPk : Hid (partZ M k = headZ M ++ putsZ M.ps) := by have := HL.out; simp only [Hid, partZ]; rw [List.take_of_length_le (by omega)]
      have HLn : Hid ((partZ M k).length = 24 + 22 * k) := partZ_length M k (by have := HL.out; omega)
      have hk0 := t0
      by_cases h5 : M.k = 5
      · have HZ5 : Hid (msgZ M = partZ M k ++ objsZ M.vs) := by rw [Hid, HPk.out, msgZ, if_pos h5]
        have hk5 : (M.k == 5) = true := by simp [h5]
        clear tM h5
        go_wp2
        go_loopw [4, 10] (fun s i wq => ∃ (j : Nat) (a' : Option Addr) (cc' : Nat), j ≤ 4 ∧ i = .int .i64 j ∧ s = .slice a' (24 + 22 * k + 16 * j) cc' ∧ OwnI wq w1.heap.size 5 .u8 a' cc' (partZ M k ++ objsZ (M.vs.take j)) ∧ Below w1.heap.size w1 wq) (fun _ i _ => 4 - (intOf i).toNat)
        case atStart => exact ⟨0, a, cc, Nat.zero_le _, rfl, rfl, by simpa [objsZ] using ho, hbel⟩
        case round =>
          rename World => wq
          obtain ⟨j, a', c', hj, rfl, rfl, ho', hbq⟩ := hrel
          have hsq := hbq.size
          have tq := HM.out wq hbq
          have u0 := tq.c0
          have u8 := tq.c8
          have u9 := tq.c9
          have uA := tq.cA
          have uB := tq.cB
          clear tq hk0 t0
          by_cases hj4 : j < 4
          · obtain rfl | rfl | rfl | rfl : j = 0 ∨ j = 1 ∨ j = 2 ∨ j = 3 := by omega
            · have e5 : (partZ M k ++ objsZ (M.vs.take 0)) ++ valN M.v0.1 M.v0.2 = partZ M k ++ objsZ (M.vs.take 1) := by simp [objsZ, Mg.vs]
              have HE : Hid _ := e5
              have HLj : Hid ((partZ M k ++ objsZ (M.vs.take 0)).length = 24 + 22 * k + 16 * 0) := by rw [Hid, List.length_append, HLn.out, objsZ_length]; simp [Mg.vs]
              clear e5
              go_wp2_with (first
                | (at_builtin; refine wpList_append_rdI _ rfl (.tmp 71) (.tmp 76) 31 rfl w1.heap.size 5 .u8 (.int .u8 0) 1 Tryz.underlying31 info5 rfl rfl rfl (ho'.below hb5) ho5.rd HLj.out (valN_length _ _) (by omega) (by unfold maxLen; omega) hB5.size ?_; intro ao6 cap6 w6 ho6 hb6)
                | (go_at_call 63; refine (refValue_any _ _ _ HW.out.v0.1 HW.out.v0.2).mono ?_; rintro x w5 ⟨ao5, cap5, rfl, ho5, hb5⟩; have hB5 : Below w1.heap.size w1 w5 := below_step hbq hb5)
                | (fail))
              rw [HE.out] at ho6
              go_roundw
              case rel => exact ⟨1, ao6, cap6, by omega, by go_num, rfl, ho6, hB5.trans hb6⟩
              case measure => simp [intOf]
            · have e5 : (partZ M k ++ objsZ (M.vs.take 1)) ++ valN M.v1.1 M.v1.2 = partZ M k ++ objsZ (M.vs.take 2) := by simp [objsZ, Mg.vs]
              have HE : Hid _ := e5
              have HLj : Hid ((partZ M k ++ objsZ (M.vs.take 1)).length = 24 + 22 * k + 16 * 1) := by rw [Hid, List.length_append, HLn.out, objsZ_length]; simp [Mg.vs]
              clear e5
              go_wp2_with (first
                | (at_builtin; refine wpList_append_rdI _ rfl (.tmp 71) (.tmp 76) 31 rfl w1.heap.size 5 .u8 (.int .u8 0) 1 Tryz.underlying31 info5 rfl rfl rfl (ho'.below hb5) ho5.rd HLj.out (valN_length _ _) (by omega) (by unfold maxLen; omega) hB5.size ?_; intro ao6 cap6 w6 ho6 hb6)
                | (go_at_call 63; refine (refValue_any _ _ _ HW.out.v1.1 HW.out.v1.2).mono ?_; rintro x w5 ⟨ao5, cap5, rfl, ho5, hb5⟩; have hB5 : Below w1.heap.size w1 w5 := below_step hbq hb5)
                | (fail))
              rw [HE.out] at ho6
              go_roundw
              case rel => exact ⟨2, ao6, cap6, by omega, by go_num, rfl, ho6, hB5.trans hb6⟩
              case measure => simp [intOf]
            · have e5 : (partZ M k ++ objsZ (M.vs.take 2)) ++ valN M.v2.1 M.v2.2 = partZ M k ++ objsZ (M.vs.take 3) := by simp [objsZ, Mg.vs]
              have HE : Hid _ := e5
              have HLj : Hid ((partZ M k ++ objsZ (M.vs.take 2)).length = 24 + 22 * k + 16 * 2) := by rw [Hid, List.length_append, HLn.out, objsZ_length]; simp [Mg.vs]
              clear e5
              go_wp2_with (first
                | (at_builtin; refine wpList_append_rdI _ rfl (.tmp 71) (.tmp 76) 31 rfl w1.heap.size 5 .u8 (.int .u8 0) 1 Tryz.underlying31 info5 rfl rfl rfl (ho'.below hb5) ho5.rd HLj.out (valN_length _ _) (by omega) (by unfold maxLen; omega) hB5.size ?_; intro ao6 cap6 w6 ho6 hb6)
                | (go_at_call 63; refine (refValue_any _ _ _ HW.out.v2.1 HW.out.v2.2).mono ?_; rintro x w5 ⟨ao5, cap5, rfl, ho5, hb5⟩; have hB5 : Below w1.heap.size w1 w5 := below_step hbq hb5)
                | (fail))
              rw [HE.out] at ho6
              go_roundw
              case rel => exact ⟨3, ao6, cap6, by omega, by go_num, rfl, ho6, hB5.trans hb6⟩
              case measure => simp [intOf]
            · have e5 : (partZ M k ++ objsZ (M.vs.take 3)) ++ valN M.v3.1 M.v3.2 = partZ M k ++ objsZ (M.vs.take 4) := by simp [objsZ, Mg.vs]
              have HE : Hid _ := e5
              have HLj : Hid ((partZ M k ++ objsZ (M.vs.take 3)).length = 24 + 22 * k + 16 * 3) := by rw [Hid, List.length_append, HLn.out, objsZ_length]; simp [Mg.vs]
              clear e5
              go_wp2_with (first
                | (at_builtin; refine wpList_append_rdI _ rfl (.tmp 71) (.tmp 76) 31 rfl w1.heap.size 5 .u8 (.int .u8 0) 1 Tryz.underlying31 info5 rfl rfl rfl (ho'.below hb5) ho5.rd HLj.out (valN_length _ _) (by omega) (by unfold maxLen; omega) hB5.size ?_; intro ao6 cap6 w6 ho6 hb6)
                | (go_at_call 63; refine (refValue_any _ _ _ HW.out.v3.1 HW.out.v3.2).mono ?_; rintro x w5 ⟨ao5, cap5, rfl, ho5, hb5⟩; have hB5 : Below w1.heap.size w1 w5 := below_step hbq hb5)
                | (fail))
              rw [HE.out] at ho6
              go_roundw
              case rel => exact ⟨4, ao6, cap6, by omega, by go_num, rfl, ho6, hB5.trans hb6⟩
              case measure => simp [intOf]
          · obtain rfl : j = 4 := by omega
            go_wp2
            go_ret2
            refine ⟨a', c', ?_, ?_, below_step HB1.out hbq⟩
            · rw [HZ5.out, List.length_append, HLn.out, objsZ_length]; rfl
            · rw [HZ5.out]; exact ho'.mono HB1.out.size
      · have HZ5 : Hid (msgZ M = partZ M k) := by rw [Hid, HPk.out, msgZ, if_neg h5]; simp
        have hk5 : (M.k == 5) = false := by simpa using h5
        clear tM h5
        go_wp2
        go_loopw [4, 10] (fun s i wq => i = .int .i64 0 ∧ s = .slice a (24 + 22 * k) cc ∧ wq = wr) (fun _ i _ => 4 - (intOf i).toNat)
        case atStart => exact ⟨rfl, rfl, rfl⟩
        case round =>
          rename World => wq
          obtain ⟨rfl, rfl, hwq⟩ := hrel
          subst wq
          go_wp2
          go_ret2
          refine ⟨a, cc, ?_, ?_, below_step HB1.out hbel⟩
          · rw [HZ5.out, HLn.out]; rfl
          · rw [HZ5.out]; exact ho.mono HB1.out.size

end Go.Proofs.YtpofihiojhbfgaaGreatDoor.Msg

namespace Go.Proofs.YtpofihiojhbfgaaGreatDoor.Msg
open Go.RowKit
set_option linter.unusedVariables false
set_option maxRecDepth 8000

abbrev mW : Mg := ⟨1, 2, 1, 0, 0, 0, false, [], (0, 0), (0, 0), (0, 0), (0, 0)⟩
abbrev p7 : PutG := ⟨2, 1, (4619567317775286272, 0)⟩
abbrev mC : Mg := ⟨2, 0, 0, 1, 0, 0, false, [p7], (0, 0), (0, 0), (0, 0), (0, 0)⟩
theorem right_W : rightB mW = true := by kernel_rfl
theorem right_C : rightB mC = true := by kernel_rfl
theorem z_word : wordB (0, 0) := ⟨by decide, by decide⟩
theorem wd_W : Wd mW := ⟨fun p hp => (by cases hp), z_word, z_word, z_word, z_word⟩
theorem wd_C : Wd mC := ⟨fun p hp => (by simp only [List.mem_cons, List.not_mem_nil, or_false] at hp; subst hp; exact ⟨by decide, by decide⟩), z_word, z_word, z_word, z_word⟩
theorem len_W : (msgZ mW).length = 24 := by kernel_rfl
theorem len_C : (msgZ mC).length = 46 := by kernel_rfl

theorem k_W : nAt (msgZ mW) 0 = 1 := by kernel_rfl
theorem k_C : nAt (msgZ mC) 0 = 2 := by kernel_rfl

theorem refBytes_W (w : World) : Calls Tryz.prog 33 #[msV mW none 0 0] w fun x w' => ∃ a2 c2, x = .returned (.tuple #[.slice a2 24 c2, .int .i64 0]) ∧ OwnI w' w.heap.size 5 .u8 a2 c2 (msgZ mW) ∧ Below w.heap.size w w' := by
  refine (refBytes_ok mW none 0 0 w (fun W hW => refRight_01z 1 (.inr rfl) 2 1 0 0 0 false [] (0, 0) (0, 0) (0, 0) (0, 0) none 0 W hW ⟨by decide, by decide, by decide, by decide⟩ (by simp [z_word])) (RdP.none w) right_W wd_W).mono ?_
  rintro x w' ⟨a2, c2, rfl, ho, hb⟩
  exact ⟨a2, c2, by rw [len_W], ho, hb⟩

theorem refBytes_C (w : World) (ao : Option Addr) (cap : Nat) (h : RdP w ao 1 cap [p7]) : Calls Tryz.prog 33 #[msV mC ao 1 cap] w fun x w' => ∃ a2 c2, x = .returned (.tuple #[.slice a2 46 c2, .int .i64 0]) ∧ OwnI w' w.heap.size 5 .u8 a2 c2 (msgZ mC) ∧ Below w.heap.size w w' := by
  refine (refBytes_ok mC ao 1 cap w (fun W hW => refRight_2 0 0 1 0 0 false [p7] (0, 0) (0, 0) (0, 0) (0, 0) ao 1 cap W hW (by decide) ⟨by decide, by decide, by decide, by decide⟩ (by simp [z_word])) h right_C wd_C).mono ?_
  rintro x w' ⟨a2, c2, rfl, ho, hb⟩
  exact ⟨a2, c2, by rw [len_C], ho, hb⟩

theorem read_W (ao : Option Addr) (cap : Nat) (w : World) (h : RdI w .u8 ao cap (msgZ mW)) : Calls Tryz.prog 48 #[.slice ao 24 cap] w fun x w' => ∃ a' c', x = .returned (.tuple #[msV mW a' 0 c', .int .i64 0]) ∧ RdP w' a' 0 c' [] ∧ (∀ y, a' = some y → w.heap.size ≤ y.block) ∧ Below w.heap.size w w' := by
  refine (read_new ao cap 24 0 (msgZ mW) w h len_W (msgZ_bd _) (by decide) (by decide) (by kernel_rfl) (by kernel_rfl) (by decide) [] [] (by kernel_rfl) (by rw [k_W]; decide) rfl (by kernel_rfl)).mono ?_
  rintro x w' ⟨a', c', hx, hr, hn, hb⟩
  have e : mg0 (msgZ mW) [] = mW := by kernel_rfl
  rw [e] at hx
  exact ⟨a', c', hx, hr, hn, hb⟩

theorem read_C (ao : Option Addr) (cap : Nat) (w : World) (h : RdI w .u8 ao cap (msgZ mC)) : Calls Tryz.prog 48 #[.slice ao 46 cap] w fun x w' => ∃ a' c', x = .returned (.tuple #[msV mC a' 1 c', .int .i64 0]) ∧ RdP w' a' 1 c' [p7] ∧ (∀ y, a' = some y → w.heap.size ≤ y.block) ∧ Below w.heap.size w w' := by
  refine (read_new ao cap 46 1 (msgZ mC) w h len_C (msgZ_bd _) (by decide) (by decide) (by kernel_rfl) (by kernel_rfl) (by decide) [p7] [] (by kernel_rfl) (by rw [k_C]; decide) rfl (by kernel_rfl)).mono ?_
  rintro x w' ⟨a', c', hx, hr, hn, hb⟩
  have e : mg0 (msgZ mC) [p7] = mC := by kernel_rfl
  rw [e] at hx
  exact ⟨a', c', hx, hr, hn, hb⟩

end Go.Proofs.YtpofihiojhbfgaaGreatDoor.Msg
