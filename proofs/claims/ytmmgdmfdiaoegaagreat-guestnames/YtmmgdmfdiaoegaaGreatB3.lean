/- New and waitsFor of package agent, walked; a page put, as a step of the agent's cache. -/
import Derived.Test.YtmmgdmfdiaoegaaGreatB2
namespace Go.Proofs.YtmmgdmfdiaoegaaGreat
open Go.RowKit
set_option linter.unusedVariables false
set_option maxRecDepth 8000

theorem putA {W : World} {A : Nat → Prop} {c : Nat} {room : Int} {L : List En} (H : Cw W A c room L) (hA : ∀ k, A k → k < W.heap.size) (hl : L.length ≤ 100000) (p cm om : Nat) (hp : PutOk p cm om) (v : Nat → Nat × Nat) (ka : Option Addr) (kn kc : Nat) (ks : List Int) (hks : RdI W .i64 ka kc ks) (hkn : ks.length = kn) (hkl : kn ≤ 9223372036854775807) :
    Calls Tryz.prog 78 #[cp c, .int .i64 (p : Int), .int .i64 (cm : Int), .int .i64 (om : Int), vaV v, .slice ka kn kc] W fun e w' => e = .returned (.tuple #[.int .i64 (putZ L room ks p), .bool (putB L room ks p)]) ∧ Nx W w' A c room (putL L room ks p cm om v) := by
  obtain ⟨ao, cap, h⟩ := H
  by_cases hk : plN L p < L.length
  · obtain ⟨g, rfl⟩ := h.some_of (by omega)
    have hx := List.getElem?_eq_getElem hk
    refine (put_there W _ hA c room g cap L h (by omega) p cm om hp v _ (plN L p) L[plN L p] hx rfl).mono ?_
    rintro e w' ⟨rfl, u1, u2⟩
    have e1 : putZ L room ks p = -1 := if_pos hk
    have e2 : putB L room ks p = true := by simp [putB, hk]
    have e3 : putL L room ks p cm om v = L.take (plN L p) ++ L.drop (plN L p + 1) ++ [fillE L[plN L p] cm om v] := by rw [putL, if_pos hk, hx]; rfl
    rw [e1, e2, e3]
    exact ⟨rfl, Nx.of_ca u1 u2⟩
  · cases hf : mrB L room ks
    · refine (put_full W _ hA c room ao cap L h hl p cm om hp v ka kn kc ks hks hkn hkl hk hf).mono ?_
      rintro e w' ⟨rfl, u1, u2⟩
      have e1 : putZ L room ks p = -1 := by rw [putZ, if_neg hk, hf]; rfl
      have e2 : putB L room ks p = false := by simp [putB, hk, hf]
      have e3 : putL L room ks p cm om v = L := by rw [putL, if_neg hk, hf]; rfl
      rw [e1, e2, e3]
      exact ⟨rfl, Nx.of_ca u1 u2⟩
    · refine (put_new W _ hA c room ao cap L h hl p cm om hp v ka kn kc ks hks hkn hkl hk hf).mono ?_
      rintro e w' ⟨rfl, u1⟩
      have e1 : putZ L room ks p = mrZ L room ks := by rw [putZ, if_neg hk, hf]; rfl
      have e2 : putB L room ks p = true := by simp [putB, hf]
      have e3 : putL L room ks p cm om v = mrL L room ks ++ [fillE ⟨p, 0, 0, fun _ => (0, 0)⟩ cm om v] := by rw [putL, if_neg hk, hf]; rfl
      rw [e1, e2, e3]
      exact ⟨rfl, u1⟩

theorem putL_len (L : List En) (room : Int) (ks : List Int) (p cm om : Nat) (v : Nat → Nat × Nat) (hr : room ≤ 6) (hl : L.length ≤ 6) : (putL L room ks p cm om v).length ≤ 6 := by
  unfold putL
  split
  · simp only [List.length_append, List.length_take, List.length_drop, List.length_cons, List.length_nil]
    omega
  · split
    · rename_i hm
      rw [List.length_append, List.length_cons, List.length_nil]
      unfold mrL
      split
      · omega
      · unfold mrB at hm
        simp only [Bool.or_eq_true, decide_eq_true_eq] at hm
        rename_i hno
        have hg : goN L ks < L.length := by
          rcases hm with h | h
          · exact absurd h hno
          · exact h
        rw [if_pos hg, List.length_append, List.length_take, List.length_drop]
        omega
    · exact hl

/-- A new agent. -/
def newS (many : Int) : As := ⟨roomZ many, [], 0, false, fun _ => deZ, none, []⟩
theorem roomZ_le (many : Int) : roomZ many ≤ 6 := by unfold roomZ; omega

set_option maxHeartbeats 1600000 in
theorem new_agent (many : Int) (w : World) : Calls Tryz.prog 10 #[.int .i64 many] w fun e w' => ∃ a A, e = .returned (cp a) ∧ Aw w' A a (newS many) ∧ (∀ k, A k → w.heap.size ≤ k) ∧ Below w.heap.size w w' := by
  have HN : Hid (Calls Tryz.prog 14 #[.int .i64 many] w fun e w' => ∃ c, e = .returned (cp c) ∧ Hid (Cw w' (fun k => w.heap.size ≤ k) c (roomZ many) [] ∧ Below w.heap.size w w')) := by
    refine (new_any many w).mono ?_
    rintro e w' ⟨rfl, h1, h2⟩
    exact ⟨_, rfl, h1, h2⟩
  go_enter Tryz.func10, Tryz.ntmps10
  go_wp2_with (first
    | (go_at_call 14; refine HN.out.mono ?_; rintro e w1 ⟨c, rfl, H1⟩)
    | fail)
  go_ret
  have hb : ∀ o, Below w1.heap.size w1 (w1.alloc o) := fun o => (Below.refl _ _).alloc (Nat.le_refl _) _
  have key : ∀ o, o = .cells (agL c none none 0 (newS many)).toArray 56 (0, 0) → ∃ a A, Ending.returned (cp w1.heap.size) = .returned (cp a) ∧ Aw (w1.alloc o) A a (newS many) ∧ (∀ k, A k → w.heap.size ≤ k) ∧ Below w.heap.size w (w1.alloc o) := by
    rintro o rfl
    refine ⟨w1.heap.size, fun k => w.heap.size ≤ k ∧ k < (w1.alloc (.cells (agL c none none 0 (newS many)).toArray 56 (0, 0))).heap.size, rfl, ⟨c, none, none, 0, heap_alloc_new w1 _, ?_, .inl ⟨rfl, rfl⟩, OwR.nil _ _, ⟨H1.out.2.size, by simp⟩, fun p hp => (by cases hp), fun p hp => (by cases hp), fun k hk => hk.2, ?_, ?_, roomZ_le many, by simp [newS]⟩, fun k hk => hk.1, below_step H1.out.2 (hb _)⟩
    · obtain ⟨ao, cap, h⟩ := H1.out.1
      have h2 : Ca w1 (fun k => w.heap.size ≤ k ∧ k < w1.heap.size) c (roomZ many) ao cap [] := h.mono fun k hk ha => ⟨ha, hk⟩
      refine ⟨ao, cap, (h2.below (hb _)).mono fun k hk ha => ⟨⟨ha.1, hk⟩, by have := ha.2; omega, fun p hp => (by cases hp), fun p hp => (by cases hp)⟩⟩
    · intro x hx
      cases hx
    · intro p
      exact ⟨show 0 < 16 by decide, show 0 < 16 by decide⟩
  exact key _ rfl

section
variable {w : World} {A : Nat → Prop} {a c : Nat} {pq ko : Option Addr} {kc : Nat} {s : As}
theorem waitsFor_some (H : Ag w A a c pq ko kc s) (x : Og) (hq : s.q = some x) (ka : Option Addr) (kn kx : Nat) (zs : List Int) (hz : RdI w .i64 ka kx zs) (hn : zs.length = kn) (hl : kn ≤ 1000) : Calls Tryz.prog 58 #[cp a, .slice ka kn kx] w fun e w' => e = .returned (.bool (inB zs x.k)) ∧ w' = w := by
  have HW : Hid (Calls Tryz.prog 38 #[cp a] w fun e w' => e = .returned (.bool true) ∧ w' = w) := by
    refine (waits_any H).mono ?_
    rintro e w' ⟨rfl, rfl⟩
    exact ⟨ret_bool (by unfold wtB; rw [hq]; rfl), rfl⟩
  have HC : Hid (Calls Tryz.prog 77 #[.slice ka kn kx, .int .i64 x.k] w fun e w' => e = .returned (.bool (inB zs x.k)) ∧ w' = w) := contains_any ka kn kx zs x.k w hz hn (by omega)
  have hcq := H.cq
  obtain ⟨g, rfl, hg⟩ : ∃ g, pq = some ⟨g, 0, none⟩ ∧ w.heap[g]? = some (opO x) := by
    rcases H.q with ⟨h1, _⟩ | ⟨g, o, h1, h2, h3⟩
    · rw [hq] at h1; cases h1
    · rw [hq] at h1
      cases h1
      exact ⟨g, h2, h3⟩
  obtain ⟨y0, -⟩ := op_cells hg
  clear H hq hz hn hg
  go_enter Tryz.func58, Tryz.ntmps58
  go_wp2_with (first
    | (go_at_call 38; refine HW.out.mono ?_; rintro e w1 ⟨rfl, hw⟩; subst w1)
    | (go_at_call 77; refine HC.out.mono ?_; rintro e w1 ⟨rfl, hw⟩; subst w1)
    | fail)
  go_ret
  exact ⟨rfl, rfl⟩
end

end Go.Proofs.YtmmgdmfdiaoegaaGreat
