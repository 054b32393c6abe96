/- A tape and the reference's tape beside each other in memory. No walk. -/
import Derived.Test.YtdajhdeheheccaaF3
import Derived.Test.YtdajhdeheheccaaAc
import Derived.Test.YtdajhdeheheccaaSt
namespace Go.Proofs.Ytdajhdeheheccaa
open Go.RowKit
set_option linter.unusedVariables false

theorem Rd8.keep {w w' : World} {ao : Option Addr} {n cap : Nat} {bs : List Nat} (h : Rd8 w ao n cap bs) (hs : w.heap.size ≤ w'.heap.size) (hb : ∀ a, ao = some a → a.block < w.heap.size → w'.heap[a.block]? = w.heap[a.block]?) : Rd8 w' ao n cap bs := by
  refine ⟨⟨RdS.le h.rd, RdS.mx h.rd, RdS.nil h.rd, fun hx => ?_⟩, h.len, h.byte⟩
  obtain ⟨b, off, e, hlt, hc⟩ := RdS.cell h.rd hx
  exact ⟨b, off, e, Nat.lt_of_lt_of_le hlt hs, fun t ht => (World.cell?_of_block (w := w) (a := ⟨b, off + t, none⟩) (hb ⟨b, off, none⟩ e hlt)).trans (hc t ht)⟩

/-- An act lies in a block. -/
structure AvAt (w : World) (p : Nat) (kk nn : Int) (v : Value) : Prop where
  c0 : w.cell? ⟨p, 0, none⟩ = some (.int .i64 kk)
  c1 : w.cell? ⟨p, 1, none⟩ = some (.int .i64 nn)
  c2 : w.cell? ⟨p, 2, none⟩ = some v
  lt : p < w.heap.size

theorem AvAt.of {w : World} {p : Nat} {kk nn : Int} {v : Value} (h : w.heap[p]? = some (.cells #[.int .i64 kk, .int .i64 nn, v] 33)) : AvAt w p kk nn v :=
  ⟨by rw [cell_of_row _ _ _ _ _ _ h]; rfl, by rw [cell_of_row _ _ _ _ _ _ h]; rfl, by rw [cell_of_row _ _ _ _ _ _ h]; rfl, (Array.getElem?_eq_some_iff.1 h).1⟩
theorem AvAt.block {w w' : World} {p : Nat} {kk nn : Int} {v : Value} (h : AvAt w p kk nn v) (hb : w'.heap[p]? = w.heap[p]?) (hs : w.heap.size ≤ w'.heap.size) : AvAt w' p kk nn v :=
  ⟨(World.cell?_of_block (w := w) hb).trans h.c0, (World.cell?_of_block (w := w) hb).trans h.c1, (World.cell?_of_block (w := w) hb).trans h.c2, Nat.lt_of_lt_of_le h.lt hs⟩

/-- The tape at g, the reference's at p (its bytes at ra), an act at q. -/
structure Ru (W : World) (B g p q : Nat) (ao : Option Addr) (n cap : Nat) (bs : List Nat) (s r : Nat) (ra : Option Addr) (m rc : Nat) (cs : List Nat) (u v : Nat) (kk nn : Int) (d : Value) : Prop where
  t : Tp W B g ao n cap bs s r
  x : Bx W p (.slice ra m rc) (.int .i64 (u : Int)) (.int .i64 (v : Int))
  rd : Rd8 W ra m rc cs
  av : AvAt W q kk nn d
  pg : p ≠ g
  qg : q ≠ g
  qp : q ≠ p
  bp : B ≤ p
  ap : ∀ a, ao = some a → a.block ≠ p
  aq : ∀ a, ao = some a → a.block ≠ q
  rl : ∀ a, ra = some a → a.block < W.heap.size ∧ a.block ≠ g ∧ a.block ≠ p
  ra : ∀ a c, ra = some a → ao = some c → c.block ≠ a.block

section
variable {W W' : World} {B g p q : Nat} {ao : Option Addr} {n cap : Nat} {bs : List Nat} {s r : Nat} {ra : Option Addr} {m rc : Nat} {cs : List Nat} {u v : Nat} {kk nn : Int} {d : Value}

theorem Ru.below (h : Ru W B g p q ao n cap bs s r ra m rc cs u v kk nn d) (hb : Below W.heap.size W W') : Ru W' B g p q ao n cap bs s r ra m rc cs u v kk nn d :=
  ⟨h.t.below hb, h.x.block (hb.block p h.x.lt) hb.size, h.rd.below hb, h.av.block (hb.block q h.av.lt) hb.size, h.pg, h.qg, h.qp, h.bp, h.ap, h.aq, fun a ha => ⟨Nat.lt_of_lt_of_le (h.rl a ha).1 hb.size, (h.rl a ha).2⟩, h.ra⟩

/-- The tape is turned. -/
theorem Ru.tape (h : Ru W B g p q ao n cap bs s r ra m rc cs u v kk nn d) {ao' : Option Addr} {n' cap' : Nat} {bs' : List Nat} {s' r' : Nat} (hT : Tp W' B g ao' n' cap' bs' s' r') (hO : Off2 g ao W W') (hN : Nw W ao ao') : Ru W' B g p q ao' n' cap' bs' s' r' ra m rc cs u v kk nn d := by
  refine ⟨hT, h.x.block (hO.block p h.x.lt h.pg h.ap) hO.size, h.rd.keep hO.size fun a ha hl => hO.block _ hl (h.rl a ha).2.1 (fun c hc => h.ra a c ha hc), h.av.block (hO.block q h.av.lt h.qg h.aq) hO.size, h.pg, h.qg, h.qp, h.bp, ?_, ?_, fun a ha => ⟨Nat.lt_of_lt_of_le (h.rl a ha).1 hO.size, (h.rl a ha).2⟩, ?_⟩
  · intro a ha
    rcases hN a ha with ⟨c, hc, e⟩ | hc
    · have := h.ap c hc; omega
    · have := h.x.lt; omega
  · intro a ha
    rcases hN a ha with ⟨c, hc, e⟩ | hc
    · have := h.aq c hc; omega
    · have := h.av.lt; omega
  · intro a c ha hc
    rcases hN c hc with ⟨y, hy, e⟩ | hy
    · have := h.ra a y ha hy; omega
    · have := (h.rl a ha).1; omega

theorem Ru.tapeLed (h : Ru W B g p q ao n cap bs s r ra m rc cs u v kk nn d) {n' : Nat} {bs' : List Nat} {s' r' : Nat} (hL : Led W W' B g ao n' bs' s' r') : ∃ ao' cap', Ru W' B g p q ao' n' cap' bs' s' r' ra m rc cs u v kk nn d ∧ Below B W W' := by
  obtain ⟨ao', cap', hT, hO, hN⟩ := hL
  exact ⟨ao', cap', h.tape hT hO hN, h.t.belowB hO⟩

theorem set3_block (W : World) (p k : Nat) (x0 x1 x2 : Value) (h : k ≠ p) : (((W.setCell ⟨p, 0, none⟩ x0).setCell ⟨p, 1, none⟩ x1).setCell ⟨p, 2, none⟩ x2).heap[k]? = W.heap[k]? :=
  (Below.heap_setCell _ _ _ _ h).trans ((Below.heap_setCell _ _ _ _ h).trans (Below.heap_setCell _ _ _ _ h))
theorem set3_size (W : World) (p : Nat) (x0 x1 x2 : Value) : (((W.setCell ⟨p, 0, none⟩ x0).setCell ⟨p, 1, none⟩ x1).setCell ⟨p, 2, none⟩ x2).heap.size = W.heap.size := by simp [World.setCell]

/-- The reference's tape is set. -/
theorem Ru.ref (h : Ru W B g p q ao n cap bs s r ra m rc cs u v kk nn d) {ra' : Option Addr} {m' rc' : Nat} {cs' : List Nat} {u' v' : Nat} (hR : Rd8 W ra' m' rc' cs') (hl : ∀ a, ra' = some a → a.block < W.heap.size ∧ a.block ≠ g ∧ a.block ≠ p) (ha : ∀ a c, ra' = some a → ao = some c → c.block ≠ a.block) :
    Ru (((W.setCell ⟨p, 0, none⟩ (.slice ra' m' rc')).setCell ⟨p, 1, none⟩ (.int .i64 (u' : Int))).setCell ⟨p, 2, none⟩ (.int .i64 (v' : Int))) B g p q ao n cap bs s r ra' m' rc' cs' u' v' kk nn d :=
  ⟨h.t.keep (Nat.le_of_eq (set3_size _ _ _ _ _).symm) (set3_block _ _ _ _ _ _ (fun e => h.pg e.symm)) fun a hx => set3_block _ _ _ _ _ _ (h.ap a hx), h.x.put _ _ _, hR.keep (Nat.le_of_eq (set3_size _ _ _ _ _).symm) fun a hx _ => set3_block _ _ _ _ _ _ (hl a hx).2.2, h.av.block (set3_block _ _ _ _ _ _ h.qp) (Nat.le_of_eq (set3_size _ _ _ _ _).symm), h.pg, h.qg, h.qp, h.bp, h.ap, h.aq, fun a hx => ⟨by rw [set3_size]; exact (hl a hx).1, (hl a hx).2⟩, ha⟩

/-- The same, where the bytes are the ones it had. -/
theorem Ru.refSame (h : Ru W B g p q ao n cap bs s r ra m rc cs u v kk nn d) (u' v' : Nat) :
    Ru (((W.setCell ⟨p, 0, none⟩ (.slice ra m rc)).setCell ⟨p, 1, none⟩ (.int .i64 (u' : Int))).setCell ⟨p, 2, none⟩ (.int .i64 (v' : Int))) B g p q ao n cap bs s r ra m rc cs u' v' kk nn d := h.ref h.rd h.rl h.ra

/-- The same, where the bytes are new since W0. -/
theorem Ru.refNew {W0 : World} (h0 : Ru W0 B g p q ao n cap bs s r ra m rc cs u v kk nn d) (hb : Below W0.heap.size W0 W) {ra' : Option Addr} {m' rc' : Nat} {cs' : List Nat} (hO : Own8 W W0.heap.size ra' m' rc' cs') (u' v' : Nat) :
    Ru (((W.setCell ⟨p, 0, none⟩ (.slice ra' m' rc')).setCell ⟨p, 1, none⟩ (.int .i64 (u' : Int))).setCell ⟨p, 2, none⟩ (.int .i64 (v' : Int))) B g p q ao n cap bs s r ra' m' rc' cs' u' v' kk nn d :=
  (h0.below hb).ref hO.rd (fun a ha => ⟨hO.lt a ha, by have := hO.ge a ha; have := h0.t.hd.lt; omega, by have := hO.ge a ha; have := h0.x.lt; omega⟩) (fun a c ha hc => by have := hO.ge a ha; have := h0.t.own.lt c hc; omega)

/-- A store elsewhere. -/
theorem Ru.other (h : Ru W B g p q ao n cap bs s r ra m rc cs u v kk nn d) (z : Addr) (y : Value) (h1 : z.block ≠ g) (h2 : z.block ≠ p) (h3 : z.block ≠ q) (h4 : ∀ a, ao = some a → a.block ≠ z.block) (h5 : ∀ a, ra = some a → a.block ≠ z.block) : Ru (W.setCell z y) B g p q ao n cap bs s r ra m rc cs u v kk nn d :=
  ⟨h.t.other z y h1 h4, h.x.other z y (fun e => h2 e.symm), h.rd.keep (by simp [World.setCell]) fun a ha _ => Below.heap_setCell _ _ _ _ (h5 a ha), h.av.block (Below.heap_setCell _ _ _ _ (fun e => h3 e.symm)) (by simp [World.setCell]), h.pg, h.qg, h.qp, h.bp, h.ap, h.aq, fun a ha => ⟨by simpa [World.setCell] using (h.rl a ha).1, (h.rl a ha).2⟩, h.ra⟩

theorem below_set3 {w0 : World} (h : Below B w0 W) (hp : B ≤ p) (x0 x1 x2 : Value) : Below B w0 (((W.setCell ⟨p, 0, none⟩ x0).setCell ⟨p, 1, none⟩ x1).setCell ⟨p, 2, none⟩ x2) := ((h.setCell hp _).setCell hp _).setCell hp _
end

end Go.Proofs.Ytdajhdeheheccaa
