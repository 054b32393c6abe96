/- makeRoom and Pages of package cache, walked. -/
import Derived.Test.YtmmgdmfdiaoegaaGreatC5
namespace Go.Proofs.YtmmgdmfdiaoegaaGreat
open Go.RowKit
set_option linter.unusedVariables false
set_option maxRecDepth 8000

def mrL (L : List En) (room : Int) (ks : List Int) : List En := if (L.length : Int) < room then L else if goN L ks < L.length then L.take (goN L ks) ++ L.drop (goN L ks + 1) else L
def mrZ (L : List En) (room : Int) (ks : List Int) : Int := if (L.length : Int) < room then -1 else ((L[goN L ks]?.map (fun x => (x.p : Int))).getD (-1))
def mrB (L : List En) (room : Int) (ks : List Int) : Bool := decide ((L.length : Int) < room) || decide (goN L ks < L.length)

theorem Ca.some_of {w : World} {A : Nat → Prop} {c : Nat} {room : Int} {ao : Option Addr} {cap : Nat} {L : List En} (h : Ca w A c room ao cap L) (hL : 0 < L.length) : ∃ g, ao = some ⟨g, 0, none⟩ := by
  rcases h.own with ⟨_, _, e⟩ | ⟨g, _, e, _⟩
  · subst e; simp at hL
  · exact ⟨g, e⟩

set_option maxHeartbeats 1600000 in
theorem makeRoom_any (w : World) (A : Nat → Prop) (c : Nat) (room : Int) (ao : Option Addr) (cap : Nat) (L : List En) (H : Ca w A c room ao cap L) (hl : L.length ≤ 1000000) (ka : Option Addr) (kn kc : Nat) (ks : List Int) (hk : RdI w .i64 ka kc ks) (hkn : ks.length = kn) (hkl : kn ≤ 9223372036854775807) :
    Calls Tryz.prog 96 #[cp c, .slice ka kn kc] w fun e w' => e = .returned (.tuple #[.int .i64 (mrZ L room ks), .bool (mrB L room ks)]) ∧ Ca w' A c room ao cap (mrL L room ks) ∧ OffS A w w' := by
  have hmf : ∀ (fn : Fn) (first cap : Array Value) (w : World), (Instr.makeFunc fn first cap).run Tryz.prog w = .ok (.func fn first cap) w := fun _ _ _ _ => rfl
  have hb0 : Below w.heap.size w (w.alloc (.cells #[.slice ka kn kc] 101)) := (Below.refl _ _).alloc (Nat.le_refl _) _
  have H0 := H.below hb0
  have hbd : Below w.heap.size w (w.alloc (.cells #[.slice ka kn kc] 101)).drew := hb0.trans ⟨rfl, rfl, rfl, Nat.le_refl _, fun _ _ => rfl⟩
  have c0 := H0.c0
  have c1 := H0.c1
  by_cases hr : (L.length : Int) < room
  · have e1 : mrZ L room ks = -1 := if_pos hr
    have e2 : mrB L room ks = true := by simp [mrB, hr]
    have e3 : mrL L room ks = L := if_pos hr
    rw [e1, e2, e3]
    have HC : Hid (Ca (w.alloc (.cells #[.slice ka kn kc] 101)).drew A c room ao cap L ∧ OffS A w (w.alloc (.cells #[.slice ka kn kc] 101)).drew) := ⟨H.below hbd, .of_below hbd⟩
    have hd : decide ((L.length : Int) < room) = true := by simpa using hr
    clear e1 e2 e3 H H0 hk hkn hb0 hbd
    go_enter Tryz.func96, Tryz.ntmps96
    go_wp2
    go_quiet (fail)
    go_wp2
    go_ret2
    exact ⟨rfl, HC.out.1.below ⟨rfl, rfl, rfl, Nat.le_refl _, fun _ _ => rfl⟩, ⟨HC.out.2.os, HC.out.2.tape, HC.out.2.output, HC.out.2.size, HC.out.2.block⟩⟩
  have hd : decide ((L.length : Int) < room) = false := by simpa using hr
  have HI : Hid (∀ j, Calls Tryz.prog 101 #[.slice ao L.length cap, .func (.func 110) #[] #[.pointer (some ⟨w.heap.size, 0, none⟩)]] ((w.alloc (.cells #[.slice ka kn kc] 101)).drewN j) fun e w' => e = .returned (.int .i64 (goZ L ks)) ∧ Below w.heap.size w w') := fun j => by
    have hbj : Below w.heap.size w ((w.alloc (.cells #[.slice ka kn kc] 101)).drewN j) := hb0.trans ⟨rfl, rfl, rfl, Nat.le_refl _, fun _ _ => rfl⟩
    refine (indexo_any ao L.length cap L ka kn kc ks w.heap.size _ (H.below hbj).own.rd rfl hl (hk.below hbj) hkn ?_ hkl).mono ?_
    · have := cell_of_row (w.alloc (.cells #[.slice ka kn kc] 101)) w.heap.size 0 _ _ _ (heap_alloc_new w _)
      exact this.trans rfl
    · rintro e w' ⟨rfl, hb⟩
      exact ⟨rfl, below_step hbj hb⟩
  by_cases hg : goN L ks < L.length
  · have hz : goZ L ks = (goN L ks : Int) := if_pos hg
    obtain ⟨g, rfl⟩ := H.some_of (by omega)
    obtain ⟨k, hkk⟩ : ∃ k, goN L ks = k := ⟨_, rfl⟩
    rw [hkk] at hg
    have hx : L[k]? = some L[k] := List.getElem?_eq_getElem hg
    have e1 : mrZ L room ks = (L[k].p : Int) := by unfold mrZ; rw [if_neg hr, hkk, hx]; rfl
    have e2 : mrB L room ks = true := by simp [mrB, hkk, hg]
    have e3 : mrL L room ks = L.take k ++ L.drop (k + 1) := by unfold mrL; rw [if_neg hr, hkk, if_pos hg]
    rw [e1, e2, e3]
    rw [hz, hkk] at HI
    obtain ⟨q, hq⟩ : ∃ q, L.length = q + 1 := ⟨L.length - 1, by omega⟩
    have HR : Hid (∀ W, Below w.heap.size w W → Calls Tryz.prog 85 #[cp c, .int .i64 (k : Int)] W fun e w' => e = .returned (enV L[k]) ∧ Ca w' A c room (some ⟨g, 0, none⟩) cap (L.take k ++ L.drop (k + 1)) ∧ OffS A w w') := fun W hW => by
      refine (remove_any W A c room g cap L (H.below hW) q hq (by omega) k (by omega) L[k] hx).mono ?_
      rintro e w' ⟨rfl, h1, h2⟩
      exact ⟨rfl, h1, (OffS.of_below hW).trans (h2.mono fun _ h => .inl h)⟩
    clear e1 e2 e3 H H0 hk hkn hb0 hbd hz hkk hx hq
    generalize L[k] = x at *
    have hfd : ∀ W : World, (Instr.field 135 (enV x) 0).run Tryz.prog W = .ok (.int .i64 (x.p : Int)) W := fun _ => rfl
    go_enter Tryz.func96, Tryz.ntmps96
    go_wp2
    go_quiet (fail)
    go_wp2_with (first
      | (go_at_call 101; refine (HI.out _).mono ?_; rintro e w1 ⟨rfl, hb1⟩)
      | (go_at_call 85; refine (HR.out w1 hb1).mono ?_; rintro e w2 ⟨rfl, HC⟩)
      | fail)
    go_ret2
    exact ⟨rfl, HC⟩
  · have hz : goZ L ks = -1 := if_neg hg
    have e1 : mrZ L room ks = -1 := by unfold mrZ; rw [if_neg hr, List.getElem?_eq_none (by omega)]; rfl
    have e2 : mrB L room ks = false := by simp only [mrB, hd]; simpa using hg
    have e3 : mrL L room ks = L := by unfold mrL; rw [if_neg hr, if_neg hg]
    rw [e1, e2, e3]
    rw [hz] at HI
    have HH : Hid (Ca w A c room ao cap L) := H
    clear e1 e2 e3 H H0 hk hkn hb0 hbd hz
    go_enter Tryz.func96, Tryz.ntmps96
    go_wp2
    go_quiet (fail)
    go_wp2_with (first
      | (go_at_call 101; refine (HI.out _).mono ?_; rintro e w1 ⟨rfl, hb1⟩)
      | fail)
    go_ret2
    exact ⟨rfl, HH.out.below hb1, .of_below hb1⟩

end Go.Proofs.YtmmgdmfdiaoegaaGreat
