/- Commits that were found, in memory; what lastLSN and follows of package wal do, walked. -/
import Derived.Test.YthckdfggnmoaeaaW7
namespace Go.Proofs.Ythckdfggnmoaeaa
open Go.RowKit
set_option linter.unusedVariables false

/-- The cells of a batch. -/
def btC (b : Bt) (ap : Option Addr) : List Value := [.int .i64 (b.lsn : Int), .int .i64 (b.cl : Int), .int .i64 (b.ep : Int), .int .i64 (b.tx : Int), .slice ap b.ps.length b.ps.length]

def rowC (R : List (Bt × Option Addr)) : List Value := R.flatMap fun r => btC r.1 r.2

theorem rowC_length (R : List (Bt × Option Addr)) : (rowC R).length = R.length * 5 := by
  induction R with
  | nil => rfl
  | cons r s ih =>
    have e : rowC (r :: s) = btC r.1 r.2 ++ rowC s := rfl
    rw [e, List.length_append, ih, List.length_cons]
    simp [btC]; omega

theorem rowC_get (R : List (Bt × Option Addr)) : ∀ i (h : i < R.length) j, j < 5 → (rowC R)[i * 5 + j]? = (btC R[i].1 R[i].2)[j]? := by
  induction R with
  | nil => intro i h; simp at h
  | cons r s ih =>
    intro i h j hj
    have e : rowC (r :: s) = btC r.1 r.2 ++ rowC s := rfl
    have l5 : (btC r.1 r.2).length = 5 := rfl
    rw [e]
    cases i with
    | zero => rw [Nat.zero_mul, Nat.zero_add, List.getElem?_append_left (by omega)]; rfl
    | succ i =>
      rw [List.getElem?_append_right (by omega), l5, show (i + 1) * 5 + j - 5 = i * 5 + j by omega]
      simpa using ih i (by simpa using h) j hj

theorem rowC_one (R : List (Bt × Option Addr)) : ∀ u ∈ rowC R, u.oneCell' = true := by
  intro u hu
  obtain ⟨r, _, h⟩ := List.mem_flatMap.1 hu
  simp only [btC, List.mem_cons, List.not_mem_nil, or_false] at h
  rcases h with rfl | rfl | rfl | rfl | rfl
  all_goals rfl

/-- The slice holds these commits and is the call's own. -/
def Fnd (w : World) (base : Nat) (v : Value) (L : List Bt) : Prop := ∃ R : List (Bt × Option Addr), R.map (·.1) = L ∧ (∀ r ∈ R, OwnP w base r.2 r.1.ps.length (r.1.ps.map PutG.can)) ∧ w.ownsRow base 53 5 v L.length (rowC R)

theorem Fnd.nil (w : World) (base : Nat) : Fnd w base (.slice none 0 0) [] := ⟨[], rfl, by simp, World.ownsRow_nil w base 53 5⟩

theorem Fnd.below {w w' : World} {base : Nat} {v : Value} {L : List Bt} (h : Fnd w base v L) (hb : Below w.heap.size w w') : Fnd w' base v L := by
  obtain ⟨R, h1, hp, h2, h3⟩ := h
  refine ⟨R, h1, fun r hr => (hp r hr).below hb, h2, ?_⟩
  rcases h3 with h3 | ⟨g, cp, cur, hv, hg2, hh, r⟩
  · exact .inl h3
  · exact .inr ⟨g, cp, cur, hv, hg2, by rw [hb.block g (Array.getElem?_eq_some_iff.1 hh).1]; exact hh, r⟩

theorem Fnd.mono {w : World} {base base' : Nat} {v : Value} {L : List Bt} (h : Fnd w base v L) (hb : base' ≤ base) : Fnd w base' v L := by
  obtain ⟨R, h1, hp, h2, h3⟩ := h
  refine ⟨R, h1, fun r hr => (hp r hr).mono hb, h2, ?_⟩
  rcases h3 with h3 | ⟨g, cp, cur, hv, hg2, hh, r⟩
  · exact .inl h3
  · exact .inr ⟨g, cp, cur, hv, by omega, hh, r⟩

/-- What is there: nothing, or a row. -/
theorem Fnd.shape {w : World} {base : Nat} {v : Value} {L : List Bt} (h : Fnd w base v L) : ∃ ao cap, v = .slice ao L.length cap ∧ (∀ a, ao = some a → base ≤ a.block ∧ a.block < w.heap.size) := by
  obtain ⟨R, h1, -, h2, h3⟩ := h
  rcases h3 with ⟨hv, hn⟩ | ⟨g, cp, cur, hv, hg2, hh, r⟩
  · exact ⟨none, 0, by rw [hn]; exact hv, fun a h => by cases h⟩
  · refine ⟨_, _, hv, fun a ha => ?_⟩
    cases ha
    exact ⟨hg2, (Array.getElem?_eq_some_iff.1 hh).1⟩

/-- One of the commits. -/
theorem Fnd.at {w : World} {base : Nat} {v : Value} {L : List Bt} (h : Fnd w base v L) (i : Nat) (hi : i < L.length) : ∃ g cap ap, v = .slice (some ⟨g, 0, none⟩) L.length cap ∧ g < w.heap.size ∧ base ≤ g ∧
    w.cell? ⟨g, i * 5, none⟩ = some (.int .i64 (L[i].lsn : Int)) ∧ w.cell? ⟨g, i * 5 + 1, none⟩ = some (.int .i64 (L[i].cl : Int)) ∧ w.cell? ⟨g, i * 5 + 2, none⟩ = some (.int .i64 (L[i].ep : Int)) ∧ w.cell? ⟨g, i * 5 + 3, none⟩ = some (.int .i64 (L[i].tx : Int)) ∧ w.cell? ⟨g, i * 5 + 4, none⟩ = some (.slice ap L[i].ps.length L[i].ps.length) ∧ OwnP w base ap L[i].ps.length (L[i].ps.map PutG.can) := by
  obtain ⟨R, rfl, hp, hR⟩ := h
  have h3 := hR.2
  simp only [List.length_map] at hi
  rcases h3 with ⟨hv, hn⟩ | ⟨g, cp, cur, hv, hg2, hh, r⟩
  · simp at hn; subst hn; simp at hi
  · subst hv
    refine ⟨g, cp, R[i].2, rfl, (Array.getElem?_eq_some_iff.1 hh).1, hg2, ?_⟩
    have hc := fun j (hj : j < 5) => (World.ownsRow.cellAt hR (i * 5 + j) (by simp; omega)).trans (rowC_get R i hi j hj)
    simp only [List.getElem_map]
    exact ⟨hc 0 (by omega), hc 1 (by omega), hc 2 (by omega), hc 3 (by omega), hc 4 (by omega), hp _ (List.getElem_mem _)⟩

/-- The last one's number. -/
def lastL (L : List Bt) : Nat := (L.getLast?.map Bt.lsn).getD 0

theorem lastLSN_any (v : Value) (L : List Bt) (base : Nat) (w : World) (h : Fnd w base v L) (hl : L.length ≤ 20000) :
    Calls Try.prog 32 #[v] w fun x w' => x = .returned (.int .i64 (lastL L : Int)) ∧ w' = w := by
  by_cases h0 : L = []
  · subst h0
    obtain ⟨ao, cap, rfl, _⟩ := h.shape
    go_enter Try.func32, Try.ntmps32
    go_wp2
    go_ret
    exact ⟨rfl, rfl⟩
  · obtain ⟨m, hm⟩ : ∃ m, L.length = m + 1 := ⟨L.length - 1, by have := List.length_pos_iff.2 h0; omega⟩
    obtain ⟨g, cap, ap, rfl, hlt, -, q0, -⟩ := h.at m (by omega)
    have e : lastL L = L[m].lsn := by
      rw [lastL, List.getLast?_eq_getElem?, show L.length - 1 = m by omega, List.getElem?_eq_getElem (by omega)]
      rfl
    have HE : Hid (lastL L = L[m].lsn) := e
    clear e
    generalize L[m].lsn = z at *
    rw [hm]
    have hm2 : m + 1 ≤ 20000 := by omega
    clear hm h hl
    have hs : ((m : Int) + 1) - 1 = (m : Int) := by omega
    go_enter Try.func32, Try.ntmps32
    go_wp2
    go_ret
    exact ⟨by rw [HE.out]; rfl, rfl⟩

set_option maxHeartbeats 400000 in
theorem follows_ok (v : Value) (L : List Bt) (base : Nat) (b : Bt) (ap : Option Addr) (n cap : Nat) (w : World) (h : Fnd w base v L) (hl : L.length ≤ 20000) (hok : BtOk b) (hf : L = [] ∨ b.lsn = lastL L + 1) :
    Calls Try.prog 48 #[v, btV b.lsn b.cl b.ep b.tx ap n cap] w fun x w' => x = .returned (.bool true) ∧ Below w.heap.size w w' := by
  obtain ⟨l, c, e, t, ps⟩ := b
  obtain ⟨⟨k1, k2⟩, k3, ⟨k4, k5⟩, ⟨k6, k7⟩, kp⟩ := hok
  simp only at k1 k2 k3 k4 k5 k6 k7 kp hf ⊢
  clear kp
  by_cases h0 : L = []
  · subst h0
    obtain ⟨ao, cap, rfl, _⟩ := h.shape
    go_enter Try.func48, Try.ntmps48
    go_wp2
    go_ret
    exact ⟨rfl, below_box _ _⟩
  · have hfe : (l : Int) = lastL L + 1 := by
      rcases hf with h | h
      · exact absurd h h0
      · omega
    have HS := fun (W : World) (hb : Below w.heap.size w W) => lastLSN_any v L base W (h.below hb) hl
    have HH : Hid (∀ W : World, Below w.heap.size w W → Calls Try.prog 32 #[v] W fun x w' => x = .returned (.int .i64 (lastL L : Int)) ∧ w' = W) := HS
    have hp : 0 < L.length := List.length_pos_iff.2 h0
    obtain ⟨ao, cc, rfl, _⟩ := h.shape
    generalize lastL L = z at *
    generalize L.length = m at *
    clear HS h hf h0
    have hne : ((m : Int) == 0) = false := by simp; omega
    have heq : ((l : Int) == (z : Int) + 1) = true := by simp; omega
    have hzb : (z : Int) ≤ 16777215 := by omega
    clear hfe
    go_enter Try.func48, Try.ntmps48
    go_wp2_with (first
      | (go_at_call 34; refine (isMark_no _ _ _ _ _ _ _ _ ⟨by omega, by omega⟩ (by omega)).mono ?_; rintro x w1 ⟨rfl, hb⟩; have hq := (BtAt.new w l c e t ap n cap).below hb; have q0 := hq.c0; clear hq; have HB : Hid (Below w.heap.size w w1) := below_alloc (hb.mono (by simp)))
      | (fail))
    go_quiet (first
      | (go_at_call 32; refine (HH.out _ ?_).mono ?_; (exact ⟨HB.out.os, HB.out.tape, HB.out.output, HB.out.size, HB.out.block⟩); rintro x w' ⟨rfl, hw⟩; subst w'; exact ⟨rfl, _, rfl⟩))
    go_wp2
    go_ret
    exact ⟨rfl, ⟨HB.out.os, HB.out.tape, HB.out.output, HB.out.size, HB.out.block⟩⟩

end Go.Proofs.Ythckdfggnmoaeaa
