/- What the document's SamePacket and SamePackets do with alike packets, walked. -/
import Derived.Test.YtgdlejeopdipiaaL7
namespace Go.Proofs.Ytgdlejeopdipiaa
open Go.RowKit
set_option linter.unusedVariables false

theorem below2 (w : World) (o p : Obj) : Below w.heap.size w ((w.alloc o).alloc p) := below_step ((Below.refl _ _).alloc (Nat.le_refl _) o) ((Below.refl _ _).alloc (Nat.le_refl _) p)

theorem Pks.atg {w : World} {base : Nat} {V : Nat → Prop} {q n cap : Nat} {Ps : List PkG} (h : Pks w base V (.slice (some ⟨q, 0, none⟩) n cap) Ps) (i : Nat) (hi : i < Ps.length) : ∃ u, PkIn w q (i * 7) Ps[i] u ∧ By w V u Ps[i].bs := by
  obtain ⟨g, cap', u, e, _, h1, h2⟩ := h.at i hi
  simp only [Value.slice.injEq, Option.some.injEq, Addr.mk.injEq, and_true] at e
  obtain ⟨rfl, _, _⟩ := e
  exact ⟨u, h1, h2⟩

set_option maxHeartbeats 800000 in
theorem samePacket_same (P : PkG) (u1 u2 : Value) (V1 V2 : Nat → Prop) (w : World) (h1 : By w V1 u1 P.bs) (h2 : By w V2 u2 P.bs) :
    Calls Try.prog 24 #[pkV P u1, pkV P u2] w fun x w' => x = .returned (.bool true) ∧ Below w.heap.size w w' := by
  have hb := below2 w (pkO P u1) (pkO P u2)
  have hx1 := (h1.below hb).str
  have hx2 := (h2.below hb).str
  clear h1 h2
  go_enter Try.func24, Try.ntmps24
  go_wp2
  go_ret
  exact ⟨rfl, hb⟩

set_option maxHeartbeats 1600000 in
theorem samePackets_same (w : World) (b1 b2 : Nat) (V1 V2 : Nat → Prop) (x y : Value) (Ps : List PkG) (h1 : Pks w b1 V1 x Ps) (h2 : Pks w b2 V2 y Ps) (hl : Ps.length ≤ 1000) :
    Calls Try.prog 16 #[x, y] w fun e w' => e = .returned (.bool true) ∧ Below w.heap.size w w' := by
  obtain ⟨n, hn⟩ : ∃ n, Ps.length = n := ⟨_, rfl⟩
  obtain ⟨a1, c1, rfl, -⟩ := h1.shape
  obtain ⟨a2, c2, rfl, -⟩ := h2.shape
  have HE : Hid (∀ (k : Nat) (W : World), k < n → Below w.heap.size w W → ∃ (q1 q2 : Nat) (P : PkG) (u1 u2 : Value), a1 = some ⟨q1, 0, none⟩ ∧ a2 = some ⟨q2, 0, none⟩ ∧ PkIn W q1 (k * 7) P u1 ∧ PkIn W q2 (k * 7) P u2 ∧ By W V1 u1 P.bs ∧ By W V2 u2 P.bs) := by
    intro k W hk hb
    obtain ⟨q1, k1, u1, e1, _, p1, y1⟩ := (h1.below hb).at k (by omega)
    obtain ⟨q2, k2, u2, e2, _, p2, y2⟩ := (h2.below hb).at k (by omega)
    simp only [Value.slice.injEq] at e1 e2
    exact ⟨q1, q2, _, u1, u2, e1.1, e2.1, p1, p2, y1, y2⟩
  rw [hn] at hl ⊢
  clear h1 h2 hn
  go_enter Try.func16, Try.ntmps16
  go_wp2
  go_loopw [13] (fun i wr => ∃ k : Nat, k ≤ n ∧ i = .int .i64 k ∧ Below w.heap.size w wr) (fun i _ => n - (intOf i).toNat)
  case atStart => exact ⟨0, Nat.zero_le _, rfl, Below.refl _ _⟩
  case round =>
    obtain ⟨k, hk, rfl, hbel⟩ := hrel
    by_cases hlt : k < n
    · rename World => wq
      obtain ⟨q1, q2, P, u1, u2, rfl, rfl, p1, p2, y1, y2⟩ := HE.out k _ hlt hbel
      have i0 := p1.c0
      have i1 := p1.c1
      have i2 := p1.c2
      have i3 := p1.c3
      have i4 := p1.c4
      have i5 := p1.c5
      have i6 := p1.c6
      have j0 := p2.c0
      have j1 := p2.c1
      have j2 := p2.c2
      have j3 := p2.c3
      have j4 := p2.c4
      have j5 := p2.c5
      have j6 := p2.c6
      have HS : Hid (Calls Try.prog 24 #[pkV P u1, pkV P u2] wq.drew fun x w' => x = .returned (.bool true) ∧ Below wq.heap.size wq w') := by
        refine (samePacket_same P u1 u2 V1 V2 wq.drew (y1.below ⟨rfl, rfl, rfl, Nat.le_refl _, fun _ _ => rfl⟩) (y2.below ⟨rfl, rfl, rfl, Nat.le_refl _, fun _ _ => rfl⟩)).mono ?_
        rintro x w' ⟨h1, h2⟩
        exact ⟨h1, ⟨h2.os, h2.tape, h2.output, h2.size, h2.block⟩⟩
      clear p1 p2 y1 y2
      go_upto_region 6 with fail
      go_region_with (first
        | (go_at_call 24; refine HS.out.mono ?_; rintro e w1 ⟨rfl, hb1⟩))
      all_goals go_wp2
      all_goals go_roundw
      all_goals first | exact ⟨k + 1, by omega, by go_num, below_step hbel hb1⟩ | (simp [intOf]; omega)
    · go_wp2
      go_ret
      exact ⟨rfl, hbel⟩

end Go.Proofs.Ytgdlejeopdipiaa
