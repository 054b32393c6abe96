/- What an append of one put leaves, as a step of a region; the first numbers and two numbers as the document reads them. -/
import Derived.Test.YtgeoeaadeemmcaaNx
import Derived.Test.YtgeoeaadeemmcaaN8
import Derived.Test.YtgeoeaadeemmcaaM9
import Derived.Deep.RegionLaw
namespace Go.Proofs.Ytgeoeaadeemmcaa
open Go.RowKit
set_option linter.unusedVariables false

theorem step_append_put (w : World) {ops : Array Oper} {o : Oper} {a : Act} {K : Act → World → Prop} {Q : Exit → Act → World → Prop} {E : Prop} (hgd : o.guard = none) (s x : Operand)
    (ho : o.op = .call { callee := .builtin .append, args := #[s, x], argTypes := #[26, 26] })
    (base : Nat) (ao : Option Addr) (n cap : Nat) (ps : List PutG) (p : PutG) (q : Nat) (hC : w.heap[q]? = some (wputO p)) (hs : a.eval s = .slice ao n cap) (hx : a.eval x = .slice (some ⟨q, 0, none⟩) 1 1) (hown : OwnR w base ao cap ps) (hn : ps.length = n) (hl : n ≤ 1000) (hb : base ≤ w.heap.size)
    (h : ∀ ao2 cap2 w', OwnR w' base ao2 cap2 (ps ++ [p]) → w.grownBy w' (Value.ownBlock (.slice ao n cap)) → K (a.put o.dst (.slice ao2 (n + 1) cap2)) w') :
    if Region.wanted o (yielded ops a.tmps) = true then Oper.wp Try.prog o a w K Q else E := by
  have hw : Region.wanted o (yielded ops a.tmps) = true := by simp [Region.wanted, hgd]
  rw [if_pos hw]
  subst hn
  obtain ⟨i, hi, hz, hsz, hby⟩ := info_parts info53
  refine wp_append_own (P := Try.prog) w s x 26 ho base 53 i _ 3 32 Try.underlying26 hi hz hsz hby rfl (by omega) _ ps.length (rowP ps) hs hown ⟨q, 0, none⟩ 1 1 (putC p) hx rfl ?_ ?_ (by unfold maxLen; omega) (by omega) hb ?_
  · intro j u hj
    rw [Addr.add_lit, Nat.zero_add, cell_of_row _ _ _ _ _ _ hC]
    match j, hj with
    | 0, hj => cases hj; rfl
    | 1, hj => cases hj; rfl
    | 2, hj => cases hj; rfl
    | (j + 3), hj => simp [putC] at hj
  · intro u hu
    simp only [putC, List.mem_cons, List.not_mem_nil, or_false] at hu
    rcases hu with rfl | rfl | rfl
    all_goals rfl
  · intro v' w' h1 h2 _
    have e : rowP ps ++ putC p = rowP (ps ++ [p]) := by simp [rowP]
    rw [e] at h1
    have hl2 : (ps ++ [p]).length = ps.length + 1 := by simp
    rw [← hl2] at h1
    obtain ⟨k1, k2⟩ := h1
    rcases k2 with ⟨hv, hn⟩ | ⟨g, cp, cur, hv, r⟩
    · simp at hn
    · subst hv
      rw [hl2]
      exact h _ _ w' ⟨k1, .inr ⟨g, cp, cur, rfl, r⟩⟩ h2

theorem refGet_eight (ao : Option Addr) (cap n m : Nat) (zs : List Int) (w : World) (hrd : RdI w .u8 ao cap zs) (hn : zs.length = n) (hb : ∀ z ∈ zs, 0 ≤ z ∧ z < 256) (h6 : 24 ≤ n) (hm : n - 24 = m) (hlen : n ≤ 140737488355328) :
    Calls Try.prog 26 #[.slice ao n cap, .int .i64 8] w fun e w' => ∃ b f c1 a2 c2, e = .returned (.tuple #[.slice (some ⟨b, f, none⟩) 8 c1, .slice a2 m c2, .int .i64 0]) ∧
      (w.heap.size ≤ b ∧ b < w'.heap.size) ∧ w'.cell? ⟨b, f, none⟩ = some (.int .i64 (nAt zs 0)) ∧ w'.cell? ⟨b, f + 1, none⟩ = some (.int .i64 (nAt zs 1)) ∧ w'.cell? ⟨b, f + 2, none⟩ = some (.int .i64 (nAt zs 2)) ∧ w'.cell? ⟨b, f + 3, none⟩ = some (.int .i64 (nAt zs 3)) ∧ w'.cell? ⟨b, f + 4, none⟩ = some (.int .i64 (nAt zs 4)) ∧ w'.cell? ⟨b, f + 5, none⟩ = some (.int .i64 (nAt zs 5)) ∧ w'.cell? ⟨b, f + 6, none⟩ = some (.int .i64 (nAt zs 6)) ∧ w'.cell? ⟨b, f + 7, none⟩ = some (.int .i64 (nAt zs 7)) ∧
      OwnI w' w.heap.size 5 .u8 a2 c2 (zs.drop 24) ∧ Below w.heap.size w w' := by
  subst hm
  refine (refGet_good ao cap n 8 zs w hrd hn hb (by omega) (by omega) hlen).mono ?_
  rintro e w' ⟨a1, c1, a2, c2, rfl, h1, h2, h3⟩
  rw [get8] at h1
  obtain ⟨b, f, rfl, hlt, hc⟩ := h1.rd.at (t := 0) (by simp)
  exact ⟨b, f, c1, a2, c2, rfl, ⟨(h1.blk _ rfl).1, hlt⟩, hc 0 (by simp), hc 1 (by simp), hc 2 (by simp), hc 3 (by simp), hc 4 (by simp), hc 5 (by simp), hc 6 (by simp), hc 7 (by simp), h2, h3⟩

theorem refGet_two (ao : Option Addr) (cap n m pg ob : Nat) (zs : List Int) (w : World) (hrd : RdI w .u8 ao cap zs) (hn : zs.length = n) (hb : ∀ z ∈ zs, 0 ≤ z ∧ z < 256) (h6 : 6 ≤ n) (hm : n - 6 = m) (hlen : n ≤ 140737488355328) (hp : (pg : Int) = rdN (zs.take 3)) (ho : (ob : Int) = rdN ((zs.drop 3).take 3)) :
    Calls Try.prog 26 #[.slice ao n cap, .int .i64 2] w fun e w' => ∃ a1 c1 a2 c2, e = .returned (.tuple #[.slice a1 2 c1, .slice a2 m c2, .int .i64 0]) ∧
      OwnI w' w.heap.size 3 .i64 a1 c1 [(pg : Int), (ob : Int)] ∧ OwnI w' w.heap.size 5 .u8 a2 c2 (zs.drop 6) ∧ Below w.heap.size w w' := by
  subst hm
  refine (refGet_good ao cap n 2 zs w hrd hn hb (by omega) (by omega) hlen).mono ?_
  rintro e w' ⟨a1, c1, a2, c2, rfl, h1, h2, h3⟩
  rw [get2, ← hp, ← ho] at h1
  exact ⟨a1, c1, a2, c2, rfl, h1, h2, h3⟩

set_option maxHeartbeats 800000 in
theorem refRead_short (ao : Option Addr) (cap n : Nat) (w : World) (hn : n < 24) :
    Calls Try.prog 9 #[.slice ao n cap] w fun x w' => x = .returned (.tuple #[msV mgZ none 0 0, .int .i64 101]) ∧ Below w.heap.size w w' := by
  have hst := fun (ad : Addr) (re im : Nat) (W : World) => run_store Try.prog W ad (.complex .f64 re im) .plain rfl
  go_enter Try.func9, Try.ntmps9
  go_wp2_with (first
    | (go_at_call 26; refine (refGet_bad _ _ _ _ _ (by omega) (by omega)).mono ?_; rintro x w1 ⟨rfl, hw⟩; subst w1))
  go_returns
  exact ⟨rfl, below_box _ _⟩

end Go.Proofs.Ytgeoeaadeemmcaa
