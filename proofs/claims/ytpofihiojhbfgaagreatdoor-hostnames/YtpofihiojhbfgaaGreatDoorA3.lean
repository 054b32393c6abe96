/- What the functions of package crc do, walked: the sum of one byte more. What the functions of package crc do, walked: a copy, a mask's length, the sum of some parts. What the functions of package crc do, walked: frames. -/
import Derived.Test.YtpofihiojhbfgaaGreatDoorA2
import Derived.Test.YtpofihiojhbfgaaGreatDoorSl
import Derived.Test.YtpofihiojhbfgaaGreatDoorCm
import Derived.WalkKit
import Derived.ScopeJumps
import Derived.Laws.MathBits
import Derived.Deep.QuietTactic
import Derived.BigQuiet
namespace Go.Proofs.YtpofihiojhbfgaaGreatDoor
open Go.RowKit
set_option linter.unusedVariables false
set_option maxRecDepth 8000

theorem and1 (x : Nat) (h : x < 65536) : bits .and .u16 (x : Int) 1 = ((x % 2 : Nat) : Int) := by
  have := u16_and_nat x 1 h (by decide)
  rw [Nat.and_one_is_mod] at this
  exact this

theorem step_odd {x : Nat} (h : x < 65536) (ho : (bits .and .u16 (x : Int) 1 == 1) = true) : bits .xor .u16 ((x : Int) / 2) 33800 = ((U x : Nat) : Int) := by
  rw [and1 x h] at ho
  have ho2 : x % 2 = 1 := by simp at ho; omega
  have := u16_xor_nat (x / 2) 33800 (by omega) (by decide)
  unfold U
  rw [if_pos ho2]
  exact this

theorem step_even {x : Nat} (h : x < 65536) (ho : (bits .and .u16 (x : Int) 1 == 1) = false) : (x : Int) / 2 = ((U x : Nat) : Int) := by
  rw [and1 x h] at ho
  have ho2 : ¬ x % 2 = 1 := by simp at ho; omega
  unfold U
  rw [if_neg ho2]
  rfl

set_option maxRecDepth 1000000 in
theorem addByte_any (s b : Nat) (hs : s < 65536) (hb : b < 256) (w : World) :
    Calls Tryz.prog 148 #[.int .u16 (s : Int), .int .u8 (b : Int)] w fun e w' => e = .returned (.int .u16 (adB s b : Nat)) ∧ w' = w := by
  have hx := u16_xor_nat s b hs (by omega)
  have hlt : s ^^^ b < 65536 := xor16 hs (by omega)
  go_enter Tryz.func148, Tryz.ntmps148
  go_wp2
  refine wp_scope_jumps 0 (fun a' w' => w' = w ∧ ∃ (j : Nat) (u1 u2 u3 u4 u6 u7 u8 u9 u10 u11 u12 u13 u14 u15 u16 u17 u18 u19 u20 u21 u22 u23 : Value), 1 ≤ j ∧ j ≤ 7 ∧ a' = { tmps := #[.int .u16 (Un (8 - j) (s ^^^ b) : Nat), u1, u2, u3, u4, .int .i64 (j : Int), u6, u7, u8, u9, u10, u11, u12, u13, u14, u15, u16, u17, u18, u19, u20, u21, u22, u23], defers := [] }) (fun a' _ => (intOf (a'.tmps.getD 5 undef)).toNat) rfl ?_ ?_
  · go_wp2
    go_step3
    go_wp2
    · rename_i ho _ _
      rw [step_odd hlt ho]
      go_step3
      exact ⟨rfl, rfl, 7, _, _, _, _, _, _, _, _, _, _, _, _, _, _, _, _, _, _, _, _, _, _, by omega, by omega, rfl⟩
    · rename_i ho _ _
      rw [step_even hlt ho]
      go_step3
      exact ⟨rfl, rfl, 7, _, _, _, _, _, _, _, _, _, _, _, _, _, _, _, _, _, _, _, _, _, _, by omega, by omega, rfl⟩
  · rintro a' w' ⟨rfl, j, u1, u2, u3, u4, u6, u7, u8, u9, u10, u11, u12, u13, u14, u15, u16, u17, u18, u19, u20, u21, u22, u23, h1, h7, rfl⟩
    have hy : Un (8 - j) (s ^^^ b) < 65536 := Un_lt _ hlt
    have hU : U (Un (8 - j) (s ^^^ b)) = Un (8 - j + 1) (s ^^^ b) := (Un_succ _ _).symm
    have hj : 8 - j + 1 = 8 - (j - 1) := by omega
    by_cases hj1 : j = 1
    · subst hj1
      go_wp2
      · rename_i ho
        simp only [Exit.jump]
        go_ret
        rw [step_odd hy ho, hU]
        exact ⟨rfl, rfl⟩
      · rename_i ho
        simp only [Exit.jump]
        go_ret
        rw [step_even hy ho, hU]
        exact ⟨rfl, rfl⟩
    · have hj2 : (0 : Int) < (j : Int) - 1 := by omega
      have hj3 : (j : Int) - 1 = ((j - 1 : Nat) : Int) := by omega
      go_wp2
      · have ho : (bits .and .u16 ((Un (8 - j) (s ^^^ b) : Nat) : Int) 1 == 1) = true := by assumption
        rw [step_odd hy ho, hU, hj]
        go_step3
        refine ⟨rfl, ⟨rfl, j - 1, ⟨_, _, _, _, _, _, _, _, _, _, _, _, _, _, _, _, _, _, _, _, _, _, by omega, by omega, rfl⟩⟩, ?_⟩
        simp [intOf]; omega
      · have ho : (bits .and .u16 ((Un (8 - j) (s ^^^ b) : Nat) : Int) 1 == 1) = false := by assumption
        rw [step_even hy ho, hU, hj]
        go_step3
        refine ⟨rfl, ⟨rfl, j - 1, ⟨_, _, _, _, _, _, _, _, _, _, _, _, _, _, _, _, _, _, _, _, _, _, by omega, by omega, rfl⟩⟩, ?_⟩
        simp [intOf]; omega
end Go.Proofs.YtpofihiojhbfgaaGreatDoor

namespace Go.Proofs.YtpofihiojhbfgaaGreatDoor
open Go.RowKit
set_option linter.unusedVariables false
set_option maxRecDepth 8000

def ci (bs : List Nat) : List Int := bs.map (fun b : Nat => (b : Int))

theorem ci_length (bs : List Nat) : (ci bs).length = bs.length := by simp [ci]
theorem ci_append (xs ys : List Nat) : ci (xs ++ ys) = ci xs ++ ci ys := by simp [ci]
theorem ci_take (bs : List Nat) (k : Nat) : (ci bs).take k = ci (bs.take k) := by simp [ci]
theorem ci_get (bs : List Nat) (t : Nat) (h : t < (ci bs).length) : (ci bs)[t] = ((bs[t]'(by simpa [ci] using h) : Nat) : Int) := by simp [ci]
structure Rd8 (w : World) (ao : Option Addr) (n cap : Nat) (bs : List Nat) : Prop where
  rd : RdI w .u8 ao cap (ci bs)
  len : bs.length = n
  byte : ∀ b ∈ bs, b < 256

structure Own8 (w : World) (base : Nat) (ao : Option Addr) (n cap : Nat) (bs : List Nat) : Prop where
  own : OwnI w base 5 .u8 ao cap (ci bs)
  len : bs.length = n
  byte : ∀ b ∈ bs, b < 256

section
variable {w w' : World} {ao : Option Addr} {n cap base : Nat} {bs : List Nat}
theorem Rd8.below (h : Rd8 w ao n cap bs) (hb : Below w.heap.size w w') : Rd8 w' ao n cap bs := ⟨h.rd.below hb, h.len, h.byte⟩
theorem Rd8.alloc (h : Rd8 w ao n cap bs) (o : Obj) : Rd8 (w.alloc o) ao n cap bs := ⟨h.rd.alloc o, h.len, h.byte⟩
theorem Rd8.heap (h : Rd8 w ao n cap bs) (e : w'.heap = w.heap) : Rd8 w' ao n cap bs := ⟨h.rd.heap e, h.len, h.byte⟩
theorem Own8.rd (h : Own8 w base ao n cap bs) : Rd8 w ao n cap bs := ⟨h.own.rd, h.len, h.byte⟩
theorem Rd8.empty (w : World) : Rd8 w none 0 0 [] := ⟨RdI.empty w .u8, rfl, by simp⟩
theorem Rd8.head (h : Rd8 w ao n cap bs) (j : Nat) (hj : j ≤ n) : Rd8 w ao j cap (bs.take j) :=
  ⟨by have := h.rd.head j (by rw [ci_length, h.len]; exact hj); rwa [ci_take] at this, by have := h.len; simp; omega, fun b hb => h.byte b (List.mem_of_mem_take hb)⟩
theorem Rd8.at (h : Rd8 w ao n cap bs) {t : Nat} (ht : t < n) : ∃ b off, ao = some ⟨b, off, none⟩ ∧ ∃ h2 : t < bs.length, w.cell? ⟨b, off + t, none⟩ = some (.int .u8 ((bs[t] : Nat) : Int)) := by
  have hl := h.len
  obtain ⟨b, off, e, _, hc⟩ := h.rd.at (t := t) (by rw [ci_length]; omega)
  refine ⟨b, off, e, by omega, ?_⟩
  rw [hc t (by rw [ci_length]; omega), ci_get]
end

set_option maxHeartbeats 400000 in
theorem copied_any (ao : Option Addr) (n cap : Nat) (bs : List Nat) (w : World) (h : Rd8 w ao n cap bs) (hn : n ≤ 140737488355328) :
    Calls Tryz.prog 165 #[.slice ao n cap] w fun e w' => ∃ ao' cap', e = .returned (.slice ao' n cap') ∧ Own8 w' w.heap.size ao' n cap' bs ∧ Below w.heap.size w w' := by
  have hl := h.len
  go_enter Tryz.func165, Tryz.ntmps165
  go_wp2_with (at_builtin; refine wpList_append_rdI _ rfl _ _ 31 rfl w.heap.size 5 .u8 (.int .u8 0) 1 Tryz.underlying31 info5 rfl rfl rfl (OwnI.nil _ _ _ _) h.rd rfl (by rw [ci_length]; omega) (by omega) (by unfold maxLen; omega) (Nat.le_refl _) ?_; intro ao2 cap2 w1 ho1 hb1)
  go_ret
  exact ⟨_, _, rfl, ⟨ho1, hl, h.byte⟩, hb1⟩

structure Pt where
  ao : Option Addr
  n : Nat
  cap : Nat
  bs : List Nat

def Pt.val (p : Pt) : Value := .slice p.ao p.n p.cap

theorem flat_snoc (ps : List Pt) (k : Nat) (h : k < ps.length) : (ps.take (k + 1)).flatMap Pt.bs = (ps.take k).flatMap Pt.bs ++ ps[k].bs := by
  rw [List.take_succ_eq_append_getElem h, List.flatMap_append]; simp

theorem crcL_snoc (s : Nat) (bs : List Nat) (t : Nat) (h : t < bs.length) : crcL s (bs.take (t + 1)) = adB (crcL s (bs.take t)) bs[t] := by
  rw [List.take_succ_eq_append_getElem h, crcL_append]; rfl

set_option maxHeartbeats 800000 in
theorem crcOf_any (ao : Option Addr) (cap m : Nat) (ps : List Pt) (w : World) (hrd : RdS w ao cap (ps.map Pt.val)) (hm : ps.length = m) (hp : ∀ p ∈ ps, Rd8 w p.ao p.n p.cap p.bs) :
    Calls Tryz.prog 115 #[.slice ao m cap] w fun e w' => e = .returned (.int .u16 (ofN (ps.flatMap Pt.bs) : Nat)) ∧ w' = w := by
  have hle := hrd.le
  have hmx := hrd.mx
  simp only [List.length_map, maxLen] at hle hmx
  have HP : Hid (∀ p ∈ ps, Rd8 w p.ao p.n p.cap p.bs) := hp
  clear hp
  go_enter Tryz.func115, Tryz.ntmps115
  go_wp2
  go_loop [3, 10] (fun s i => ∃ k : Nat, k ≤ m ∧ i = .int .i64 k ∧ s = .int .u16 (crcL 65535 ((ps.take k).flatMap Pt.bs) : Nat)) (fun _ i => m - (intOf i).toNat)
  case atStart => exact ⟨0, Nat.zero_le _, rfl, rfl⟩
  case round =>
    obtain ⟨k, hk, rfl, rfl⟩ := hrel
    have hby : ∀ j, ∀ x ∈ (ps.take j).flatMap Pt.bs, x < 256 := by
      intro j x hx
      obtain ⟨p, hp, hx⟩ := List.mem_flatMap.1 hx
      exact (HP.out p (List.mem_of_mem_take hp)).byte x hx
    by_cases hlt : k < m
    · have hk2 : k < ps.length := by omega
      obtain ⟨b, off, rfl, _, hc⟩ := hrd.at (t := k) (by simpa using hk2)
      have hc1 : w.cell? ⟨b, off + k, none⟩ = some (.slice ps[k].ao ps[k].n ps[k].cap) := by rw [hc k (by simpa using hk2)]; simp [Pt.val]
      have h8 := HP.out ps[k] (List.getElem_mem _)
      have hS := crcL_lt ((ps.take k).flatMap Pt.bs) (s := 65535) (by omega) (hby k)
      have hfl : (ps.take (k + 1)).flatMap Pt.bs = (ps.take k).flatMap Pt.bs ++ ps[k].bs := flat_snoc ps k hk2
      have HF : Hid ((ps.take (k + 1)).flatMap Pt.bs = (ps.take k).flatMap Pt.bs ++ ps[k].bs) := hfl
      clear hfl hby hc
      generalize hpe : ps[k] = p at *
      clear hpe
      have hle8 := h8.rd.le
      have hmx8 := h8.rd.mx
      rw [ci_length, h8.len] at hle8
      unfold maxLen at hmx8
      generalize hS0 : crcL 65535 ((ps.take k).flatMap Pt.bs) = S at *
      have HS : Hid (crcL 65535 ((ps.take k).flatMap Pt.bs) = S) := hS0
      clear hS0
      go_wp2
      go_loop [3, 16] (fun s i => ∃ t : Nat, t ≤ p.n ∧ i = .int .i64 t ∧ s = .int .u16 (crcL S (p.bs.take t) : Nat)) (fun _ i => p.n - (intOf i).toNat)
      case atStart => exact ⟨0, Nat.zero_le _, rfl, rfl⟩
      case round =>
        obtain ⟨t, ht, rfl, rfl⟩ := hrel
        by_cases hlt2 : t < p.n
        · obtain ⟨b2, off2, e2, ht2, hc2⟩ := h8.at hlt2
          rw [e2]
          have hx8 := h8.byte p.bs[t] (List.getElem_mem _)
          have hS2 := crcL_lt (p.bs.take t) hS (fun x hx => h8.byte x (List.mem_of_mem_take hx))
          have hsn := crcL_snoc S p.bs t ht2
          go_wp2_with (go_at_call 148; refine (addByte_any _ _ hS2 hx8 _).mono ?_; rintro e w' ⟨rfl, hw⟩; subst w')
          go_round
          case rel => exact ⟨t + 1, by omega, by go_num, by rw [hsn]⟩
          case measure => simp [intOf]; omega
        · go_wp2
          go_round
          case rel => exact ⟨k + 1, by omega, by go_num, by rw [HF.out, crcL_append, HS.out, List.take_of_length_le (by rw [h8.len]; omega)]⟩
          case measure => simp [intOf]; omega
    · have e : ps.take k = ps := List.take_of_length_le (by omega)
      have hx : bits .xor .u16 IntKind.u16.max ((crcL 65535 (ps.flatMap Pt.bs) : Nat) : Int) = ((ofN (ps.flatMap Pt.bs) : Nat) : Int) :=
        u16_xor_nat 65535 _ (by decide) (crcL_lt _ (by omega) (by have := hby k; rwa [e] at this))
      go_wp2
      go_ret
      exact ⟨rfl, rfl⟩

theorem of_one (ao : Option Addr) (n cap : Nat) (bs : List Nat) (w : World) (h : Rd8 w ao n cap bs) (e : TypeId) :
    Calls Tryz.prog 115 #[.slice (some ⟨w.heap.size, 0, none⟩) 1 1] (w.alloc (.cells #[.slice ao n cap] e)) fun r w' => r = .returned (.int .u16 (ofN bs : Nat)) ∧ w' = w.alloc (.cells #[.slice ao n cap] e) := by
  have := crcOf_any (some ⟨w.heap.size, 0, none⟩) 1 1 [⟨ao, n, cap, bs⟩] (w.alloc (.cells #[.slice ao n cap] e)) (RdS.one w e _) rfl (by intro p hp; simp at hp; subst hp; exact h.alloc _)
  simpa using this

end Go.Proofs.YtpofihiojhbfgaaGreatDoor

namespace Go.Proofs.YtpofihiojhbfgaaGreatDoor
open Go.RowKit
set_option linter.unusedVariables false
set_option maxRecDepth 8000

set_option maxHeartbeats 400000 in
theorem seal_any (ao : Option Addr) (n cap : Nat) (bs : List Nat) (w : World) (h : Rd8 w ao n cap bs) (hn : n + 2 ≤ 140737488355328) :
    Calls Tryz.prog 79 #[.slice ao n cap] w fun e w' => ∃ ao' cap', e = .returned (.slice ao' (n + 2) cap') ∧ Own8 w' w.heap.size ao' (n + 2) cap' (sealN bs) ∧ Below w.heap.size w w' := by
  have hl := h.len
  have hof := ofN_lt h.byte
  go_enter Tryz.func79, Tryz.ntmps79
  go_wp2_with (first
    | (go_at_call 115; refine (of_one _ _ _ _ _ h _).mono ?_; rintro e w' ⟨rfl, hw⟩; subst w')
    | (at_make; refine wpList_make0I _ rfl _ _ 31 rfl w.heap.size 5 .u8 (.int .u8 0) 1 Tryz.underlying31 info5 (n + 2) rfl rfl (by omega) (by omega) (by unfold maxLen; omega) (by simp) ?_; intro ao1 w1 ho1 hb1; have hB1 : Below w.heap.size w w1 := below_alloc hb1)
    | (at_builtin; refine wpList_append_rdI _ rfl (.tmp 12) (.tmp 13) 31 rfl w.heap.size 5 .u8 (.int .u8 0) 1 Tryz.underlying31 info5 rfl rfl rfl ho1 (h.below hB1).rd rfl (by rw [ci_length]; omega) (by omega) (by unfold maxLen; omega) hB1.size ?_; intro ao2 cap2 w2 ho2 hb2; have hB2 : Below w.heap.size w w2 := hB1.trans hb2)
    | (at_builtin; refine wpList_append_rdI _ rfl (.tmp 15) (.tmp 21) 31 rfl w.heap.size 5 .u8 (.int .u8 0) 1 Tryz.underlying31 info5 rfl rfl rfl (OwnI.alloc ho2 _) (RdI.built w2 5 .u8 _ 2 [_, _] rfl rfl (by decide)) (by simp [ci_length]; omega) rfl (by omega) (by unfold maxLen; omega) (by have := hB2.size; simp; omega) ?_; intro ao3 cap3 w3 ho3 hb3))
  go_ret
  refine ⟨_, _, rfl, ⟨?_, by rw [sealN_length, hl], sealN_bytes h.byte⟩, (hB2.alloc hB2.size _).trans hb3⟩
  have e : ci (sealN bs) = ci bs ++ [((ofN bs % 256 : Nat) : Int), ((ofN bs / 256 : Nat) : Int)] := by simp [ci, sealN]
  rw [e]
  simpa using ho3

theorem told_eq {lo hi : Nat} (h0 : lo < 256) (h1 : hi < 256) : bits .or .u16 (lo : Int) ((hi : Int) * 256) = ((lo + 256 * hi : Nat) : Int) := by
  have e1 : (hi : Int) * 256 = ((256 * hi : Nat) : Int) := by omega
  rw [e1, u16_or_nat _ _ (by omega) (by omega)]
  have := Nat.two_pow_add_eq_or_of_lt (i := 8) h0 hi
  rw [Nat.or_comm, show 256 * hi = 2 ^ 8 * hi by rfl, ← this, Nat.add_comm]

theorem okN_at {fs : List Nat} {n m : Nat} (hl : fs.length = n) (hm : n = m + 2) (h0 : m < fs.length) (h1 : m + 1 < fs.length) : okN fs ↔ ofN (fs.take m) = fs[m] + 256 * fs[m + 1] := by
  unfold okN
  rw [show fs.length - 2 = m by omega, show fs.length - 1 = m + 1 by omega, List.getD_eq_getElem?_getD, List.getD_eq_getElem?_getD, List.getElem?_eq_getElem h0, List.getElem?_eq_getElem h1]
  rfl

set_option maxHeartbeats 400000 in
theorem open_ok (ao : Option Addr) (m n cap : Nat) (fs : List Nat) (w : World) (h : Rd8 w ao n cap fs) (hm : n = m + 2) (hn : n ≤ 140737488355328) (hok : okN fs) :
    Calls Tryz.prog 129 #[.slice ao n cap] w fun e w' => ∃ ao' cap', e = .returned (.tuple #[.slice ao' m cap', .int .i64 0]) ∧ Own8 w' w.heap.size ao' m cap' (fs.take m) ∧ Below w.heap.size w w' := by
  have hl := h.len
  have hcap := h.rd.le
  rw [ci_length, hl] at hcap
  have h0 := h.at (t := m) (by omega)
  have h1 := h.at (t := m + 1) (by omega)
  obtain ⟨b, off, rfl, hm0, hc0⟩ := h0
  obtain ⟨b', off', e', hm1, hc1⟩ := h1
  simp only [Option.some.injEq, Addr.mk.injEq] at e'
  obtain ⟨rfl, rfl, _⟩ := e'
  have hs : (n : Int) - 2 = (m : Int) := by omega
  have hy0 := h.byte fs[m] (List.getElem_mem _)
  have hy1 := h.byte fs[m + 1] (List.getElem_mem _)
  rw [okN_at hl hm hm0 hm1] at hok
  generalize fs[m] = lo at *
  generalize fs[m + 1] = hi at *
  have htold := told_eq hy0 hy1
  generalize lo + 256 * hi = T at *
  have hne : (((ofN (fs.take m) : Nat) : Int) != (T : Int)) = false := by rw [hok]; simp
  go_enter Tryz.func129, Tryz.ntmps129
  go_wp2
  go_quiet (fail)
  go_wp2_with (first
    | (go_at_call 115; refine (of_one _ _ _ _ _ ((h.heap (w' := w.drewN nq) rfl).head m (by omega)) _).mono ?_; rintro e w' ⟨rfl, hw⟩; subst w')
    | (go_at_call 165; refine (copied_any _ _ _ _ _ (((h.heap (w' := w.drewN nq) rfl).alloc _).head m (by omega)) (by omega)).mono ?_; rintro e w1 ⟨ao1, cap1, rfl, ho1, hb1⟩))
  go_ret2
  have hB : Below w.heap.size (w.drewN nq) w1 := ((Below.refl _ _).alloc (Nat.le_refl _) _).trans (hb1.mono (by simp))
  exact ⟨_, _, rfl, ⟨ho1.own.mono (by simp), ho1.len, ho1.byte⟩, below_drew hB⟩

end Go.Proofs.YtpofihiojhbfgaaGreatDoor
