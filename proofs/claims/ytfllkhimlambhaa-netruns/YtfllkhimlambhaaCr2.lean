/- What the functions of package crc do, walked: a copy, a mask's length, the sum of some parts. -/
import Derived.Test.YtfllkhimlambhaaCr1
import Derived.Laws.MathBits
namespace Go.Proofs.Ytfllkhimlambhaa
open Go.RowKit
set_option linter.unusedVariables false

/-- Bytes as integers. -/
def ci (bs : List Nat) : List Int := bs.map (fun b : Nat => (b : Int))

theorem ci_length (bs : List Nat) : (ci bs).length = bs.length := by simp [ci]
theorem ci_append (xs ys : List Nat) : ci (xs ++ ys) = ci xs ++ ci ys := by simp [ci]
theorem ci_take (bs : List Nat) (k : Nat) : (ci bs).take k = ci (bs.take k) := by simp [ci]
theorem ci_get (bs : List Nat) (t : Nat) (h : t < (ci bs).length) : (ci bs)[t] = ((bs[t]'(by simpa [ci] using h) : Nat) : Int) := by simp [ci]
theorem ci_set (bs : List Nat) (t x : Nat) : (ci bs).set t (x : Int) = ci (bs.set t x) := by simp [ci, List.map_set]

/-- The slice reads as these bytes. -/
structure Rd8 (w : World) (ao : Option Addr) (n cap : Nat) (bs : List Nat) : Prop where
  rd : RdI w .u8 ao cap (ci bs)
  len : bs.length = n
  byte : ∀ b ∈ bs, b < 256

/-- The slice is the call's own and holds these bytes. -/
structure Own8 (w : World) (base : Nat) (ao : Option Addr) (n cap : Nat) (bs : List Nat) : Prop where
  own : OwnI w base 5 .u8 ao cap (ci bs)
  len : bs.length = n
  byte : ∀ b ∈ bs, b < 256

section
variable {w w' : World} {ao : Option Addr} {n cap base : Nat} {bs : List Nat}
theorem Rd8.below (h : Rd8 w ao n cap bs) (hb : Below w.heap.size w w') : Rd8 w' ao n cap bs := ⟨h.rd.below hb, h.len, h.byte⟩
theorem Rd8.alloc (h : Rd8 w ao n cap bs) (o : Obj) : Rd8 (w.alloc o) ao n cap bs := ⟨h.rd.alloc o, h.len, h.byte⟩
theorem Rd8.heap (h : Rd8 w ao n cap bs) (e : w'.heap = w.heap) : Rd8 w' ao n cap bs := ⟨h.rd.heap e, h.len, h.byte⟩
theorem Own8.rd (h : Own8 w base ao n cap bs) : Rd8 w ao n cap bs := ⟨h.own.rd, h.len, h.byte⟩
theorem Own8.below (h : Own8 w base ao n cap bs) (hb : Below w.heap.size w w') : Own8 w' base ao n cap bs := ⟨h.own.below hb, h.len, h.byte⟩
theorem Rd8.empty (w : World) : Rd8 w none 0 0 [] := ⟨RdI.empty w .u8, rfl, by simp⟩
theorem Rd8.str (h : Rd8 w ao n cap bs) : (convert 33 9 (.slice ao n cap)).run Try.prog w = .ok (.string (strOfNums (ci bs))) w :=
  run_string_rd (P := Try.prog) 33 9 5 Try.underlying33 Try.underlying5 Try.underlying9 h.rd (by rw [ci_length]; exact h.len)
theorem Rd8.head (h : Rd8 w ao n cap bs) (j : Nat) (hj : j ≤ n) : Rd8 w ao j cap (bs.take j) :=
  ⟨by have := h.rd.head j (by rw [ci_length, h.len]; exact hj); rwa [ci_take] at this, by have := h.len; simp; omega, fun b hb => h.byte b (List.mem_of_mem_take hb)⟩
theorem Rd8.built (w : World) (xs : Array Value) (n : Nat) (bs : List Nat) (hx : xs.toList = (ci bs).map (Value.int .u8)) (hn : bs.length = n) (hb : ∀ b ∈ bs, b < 256) (hm : n ≤ maxLen) : Rd8 (w.alloc (.cells xs 5)) (some ⟨w.heap.size, 0, none⟩) n n bs :=
  ⟨RdI.built w 5 .u8 xs n (ci bs) hx (by rw [ci_length]; exact hn) hm, hn, hb⟩
theorem Rd8.at (h : Rd8 w ao n cap bs) {t : Nat} (ht : t < n) : ∃ b off, ao = some ⟨b, off, none⟩ ∧ ∃ h2 : t < bs.length, w.cell? ⟨b, off + t, none⟩ = some (.int .u8 ((bs[t] : Nat) : Int)) := by
  have hl := h.len
  obtain ⟨b, off, e, _, hc⟩ := h.rd.at (t := t) (by rw [ci_length]; omega)
  refine ⟨b, off, e, by omega, ?_⟩
  rw [hc t (by rw [ci_length]; omega), ci_get]
end

set_option maxHeartbeats 400000 in
theorem copied_any (ao : Option Addr) (n cap : Nat) (bs : List Nat) (w : World) (h : Rd8 w ao n cap bs) (hn : n ≤ 140737488355328) :
    Calls Try.prog 33 #[.slice ao n cap] w fun e w' => ∃ ao' cap', e = .returned (.slice ao' n cap') ∧ Own8 w' w.heap.size ao' n cap' bs ∧ Below w.heap.size w w' := by
  have hl := h.len
  go_enter Try.func33, Try.ntmps33
  go_wp2_with (at_builtin; refine wpList_append_rdI _ rfl _ _ 33 rfl w.heap.size 5 .u8 (.int .u8 0) 1 Try.underlying33 info5 rfl rfl rfl (OwnI.nil _ _ _ _) h.rd rfl (by rw [ci_length]; omega) (by omega) (by unfold maxLen; omega) (Nat.le_refl _) ?_; intro ao2 cap2 w1 ho1 hb1)
  go_ret
  exact ⟨_, _, rfl, ⟨ho1, hl, h.byte⟩, hb1⟩

/-- A part, as a value. -/
structure Pt where
  ao : Option Addr
  n : Nat
  cap : Nat
  bs : List Nat

def Pt.val (p : Pt) : Value := .slice p.ao p.n p.cap

theorem flat_snoc (ps : List Pt) (k : Nat) (h : k < ps.length) : (ps.take (k + 1)).flatMap Pt.bs = (ps.take k).flatMap Pt.bs ++ ps[k].bs := by
  rw [List.take_succ_eq_append_getElem h, List.flatMap_append]; simp

theorem crcL_snoc (s : Nat) (bs : List Nat) (t : Nat) (h : t < bs.length) : crcL s (bs.take (t + 1)) = adB (crcL s (bs.take t)) bs[t] := by
  rw [List.take_succ_eq_append_getElem h, crcL_append]; rfl

set_option maxHeartbeats 800000 in
theorem crcOf_any (ao : Option Addr) (cap m : Nat) (ps : List Pt) (w : World) (hrd : RdS w ao cap (ps.map Pt.val)) (hm : ps.length = m) (hp : ∀ p ∈ ps, Rd8 w p.ao p.n p.cap p.bs) :
    Calls Try.prog 32 #[.slice ao m cap] w fun e w' => e = .returned (.int .u16 (ofN (ps.flatMap Pt.bs) : Nat)) ∧ w' = w := by
  have hle := hrd.le
  have hmx := hrd.mx
  simp only [List.length_map, maxLen] at hle hmx
  have HP : Hid (∀ p ∈ ps, Rd8 w p.ao p.n p.cap p.bs) := hp
  clear hp
  go_enter Try.func32, Try.ntmps32
  go_wp2
  go_loop [3, 10] (fun s i => ∃ k : Nat, k ≤ m ∧ i = .int .i64 k ∧ s = .int .u16 (crcL 65535 ((ps.take k).flatMap Pt.bs) : Nat)) (fun _ i => m - (intOf i).toNat)
  case atStart => exact ⟨0, Nat.zero_le _, rfl, rfl⟩
  case round =>
    obtain ⟨k, hk, rfl, rfl⟩ := hrel
    have hby : ∀ j, ∀ x ∈ (ps.take j).flatMap Pt.bs, x < 256 := by
      intro j x hx
      obtain ⟨p, hp, hx⟩ := List.mem_flatMap.1 hx
      exact (HP.out p (List.mem_of_mem_take hp)).byte x hx
    by_cases hlt : k < m
    · have hk2 : k < ps.length := by omega
      obtain ⟨b, off, rfl, _, hc⟩ := hrd.at (t := k) (by simpa using hk2)
      have hc1 : w.cell? ⟨b, off + k, none⟩ = some (.slice ps[k].ao ps[k].n ps[k].cap) := by rw [hc k (by simpa using hk2)]; simp [Pt.val]
      have h8 := HP.out ps[k] (List.getElem_mem _)
      have hS := crcL_lt ((ps.take k).flatMap Pt.bs) (s := 65535) (by omega) (hby k)
      have hfl : (ps.take (k + 1)).flatMap Pt.bs = (ps.take k).flatMap Pt.bs ++ ps[k].bs := flat_snoc ps k hk2
      have HF : Hid ((ps.take (k + 1)).flatMap Pt.bs = (ps.take k).flatMap Pt.bs ++ ps[k].bs) := hfl
      clear hfl hby hc
      generalize hpe : ps[k] = p at *
      clear hpe
      have hle8 := h8.rd.le
      have hmx8 := h8.rd.mx
      rw [ci_length, h8.len] at hle8
      unfold maxLen at hmx8
      generalize hS0 : crcL 65535 ((ps.take k).flatMap Pt.bs) = S at *
      have HS : Hid (crcL 65535 ((ps.take k).flatMap Pt.bs) = S) := hS0
      clear hS0
      go_wp2
      go_loop [3, 16] (fun s i => ∃ t : Nat, t ≤ p.n ∧ i = .int .i64 t ∧ s = .int .u16 (crcL S (p.bs.take t) : Nat)) (fun _ i => p.n - (intOf i).toNat)
      case atStart => exact ⟨0, Nat.zero_le _, rfl, rfl⟩
      case round =>
        obtain ⟨t, ht, rfl, rfl⟩ := hrel
        by_cases hlt2 : t < p.n
        · obtain ⟨b2, off2, e2, ht2, hc2⟩ := h8.at hlt2
          rw [e2]
          have hx8 := h8.byte p.bs[t] (List.getElem_mem _)
          have hS2 := crcL_lt (p.bs.take t) hS (fun x hx => h8.byte x (List.mem_of_mem_take hx))
          have hsn := crcL_snoc S p.bs t ht2
          go_wp2_with (go_at_call 37; refine (addByte_any _ _ hS2 hx8 _).mono ?_; rintro e w' ⟨rfl, hw⟩; subst w')
          go_round
          case rel => exact ⟨t + 1, by omega, by go_num, by rw [hsn]⟩
          case measure => simp [intOf]; omega
        · go_wp2
          go_round
          case rel => exact ⟨k + 1, by omega, by go_num, by rw [HF.out, crcL_append, HS.out, List.take_of_length_le (by rw [h8.len]; omega)]⟩
          case measure => simp [intOf]; omega
    · have e : ps.take k = ps := List.take_of_length_le (by omega)
      have hx : bits .xor .u16 IntKind.u16.max ((crcL 65535 (ps.flatMap Pt.bs) : Nat) : Int) = ((ofN (ps.flatMap Pt.bs) : Nat) : Int) :=
        u16_xor_nat 65535 _ (by decide) (crcL_lt _ (by omega) (by have := hby k; rwa [e] at this))
      go_wp2
      go_ret
      exact ⟨rfl, rfl⟩

theorem of_one (ao : Option Addr) (n cap : Nat) (bs : List Nat) (w : World) (h : Rd8 w ao n cap bs) (e : TypeId) :
    Calls Try.prog 32 #[.slice (some ⟨w.heap.size, 0, none⟩) 1 1] (w.alloc (.cells #[.slice ao n cap] e)) fun r w' => r = .returned (.int .u16 (ofN bs : Nat)) ∧ w' = w.alloc (.cells #[.slice ao n cap] e) := by
  have := crcOf_any (some ⟨w.heap.size, 0, none⟩) 1 1 [⟨ao, n, cap, bs⟩] (w.alloc (.cells #[.slice ao n cap] e)) (RdS.one w e _) rfl (by intro p hp; simp at hp; subst hp; exact h.alloc _)
  simpa using this

end Go.Proofs.Ytfllkhimlambhaa
