/- A tape and the reference's tape beside each other, without an act. No walk. -/
import Derived.Test.YtdajhdeheheccaaG1
namespace Go.Proofs.Ytdajhdeheheccaa
open Go.RowKit
set_option linter.unusedVariables false

/-- The tape at g, the reference's at p. -/
structure Run (W : World) (B g p : Nat) (ao : Option Addr) (n cap : Nat) (bs : List Nat) (s r : Nat) (ra : Option Addr) (m rc : Nat) (cs : List Nat) (u v : Nat) : Prop where
  t : Tp W B g ao n cap bs s r
  x : Bx W p (.slice ra m rc) (.int .i64 (u : Int)) (.int .i64 (v : Int))
  rd : Rd8 W ra m rc cs
  pg : p ≠ g
  bp : B ≤ p
  ap : ∀ a, ao = some a → a.block ≠ p
  rl : ∀ a, ra = some a → a.block < W.heap.size ∧ a.block ≠ g ∧ a.block ≠ p
  ra : ∀ a c, ra = some a → ao = some c → c.block ≠ a.block

section
variable {W W' : World} {B g p q : Nat} {ao : Option Addr} {n cap : Nat} {bs : List Nat} {s r : Nat} {ra : Option Addr} {m rc : Nat} {cs : List Nat} {u v : Nat} {kk nn : Int} {d : Value}
theorem Ru.run (h : Ru W B g p q ao n cap bs s r ra m rc cs u v kk nn d) : Run W B g p ao n cap bs s r ra m rc cs u v := ⟨h.t, h.x, h.rd, h.pg, h.bp, h.ap, h.rl, h.ra⟩
theorem Run.below (h : Run W B g p ao n cap bs s r ra m rc cs u v) (hb : Below W.heap.size W W') : Run W' B g p ao n cap bs s r ra m rc cs u v :=
  ⟨h.t.below hb, h.x.block (hb.block p h.x.lt) hb.size, h.rd.below hb, h.pg, h.bp, h.ap, fun a ha => ⟨Nat.lt_of_lt_of_le (h.rl a ha).1 hb.size, (h.rl a ha).2⟩, h.ra⟩
/-- An act is laid beside them. -/
theorem Run.act (h : Run W B g p ao n cap bs s r ra m rc cs u v) (kk nn : Int) (d : Value) : Ru (W.alloc (.cells #[.int .i64 kk, .int .i64 nn, d] 33)) B g p W.heap.size ao n cap bs s r ra m rc cs u v kk nn d := by
  have h1 := h.below ((Below.refl _ _).alloc (Nat.le_refl _) (.cells #[.int .i64 kk, .int .i64 nn, d] 33))
  exact ⟨h1.t, h1.x, h1.rd, AvAt.of (heap_alloc_new W _), h.pg, by have := h.t.hd.lt; omega, by have := h.x.lt; omega, h.bp, h.ap, fun a ha => by have := h.t.own.lt a ha; omega, h1.rl, h.ra⟩
end

theorem OwnS.at0 {w : World} {base : Nat} {e : TypeId} {ao : Option Addr} {cap : Nat} {xs : List Value} (h : OwnS w base e ao cap xs) (hx : 0 < xs.length) : ∃ o, ao = some ⟨o, 0, none⟩ ∧ base ≤ o ∧ o < w.heap.size := by
  obtain ⟨_, h2⟩ := h
  rcases h2 with ⟨hv, hn⟩ | ⟨g, cp, cur, hv, hg, hh, _⟩
  · omega
  · simp only [Value.slice.injEq] at hv
    exact ⟨g, hv.1, hg, (Array.getElem?_eq_some_iff.1 hh).1⟩

theorem Own8.at0 {w : World} {base : Nat} {ao : Option Addr} {n cap : Nat} {bs : List Nat} (h : Own8 w base ao n cap bs) (hx : 0 < n) : ∃ o, ao = some ⟨o, 0, none⟩ ∧ base ≤ o ∧ o < w.heap.size :=
  OwnS.at0 h.own (by rw [List.length_map, ci_length, h.len]; exact hx)

/-- A store into bytes of the call's own. -/
theorem Own8.put {w : World} {base o n cap : Nat} {bs : List Nat} (h : Own8 w base (some ⟨o, 0, none⟩) n cap bs) (j x : Nat) (hx : x < 256) : Own8 (w.setCell ⟨o, j, none⟩ (.int .u8 (x : Int))) base (some ⟨o, 0, none⟩) n cap (bs.set j x) :=
  ⟨by have := h.own.stored j (x : Int); rwa [ci_set] at this, by simpa using h.len, fun b hb => by
    rcases List.mem_or_eq_of_mem_set hb with hb | hb
    · exact h.byte b hb
    · omega⟩

theorem Own8.cellAt {w : World} {base o n cap : Nat} {bs : List Nat} (h : Own8 w base (some ⟨o, 0, none⟩) n cap bs) (j : Nat) (hj : j < n) : ∃ x : Nat, x < 256 ∧ w.cell? ⟨o, j, none⟩ = some (.int .u8 (x : Int)) := by
  have hl := h.len
  have := h.own.cellAt j (by rw [ci_length]; omega)
  rw [ci_get] at this
  exact ⟨_, h.byte _ (List.getElem_mem (by omega)), this⟩


end Go.Proofs.Ytdajhdeheheccaa
