/- makeRoom and Pages of package cache, walked. -/
import Derived.Test.YtoconakkldahlaaC5
namespace Go.Proofs.Ytoconakkldahlaa
open Go.RowKit
set_option linter.unusedVariables false

def mrL (L : List En) (room : Int) (ks : List Int) : List En := if (L.length : Int) < room then L else if goN L ks < L.length then L.take (goN L ks) ++ L.drop (goN L ks + 1) else L
def mrZ (L : List En) (room : Int) (ks : List Int) : Int := if (L.length : Int) < room then -1 else ((L[goN L ks]?.map (fun x => (x.p : Int))).getD (-1))
def mrB (L : List En) (room : Int) (ks : List Int) : Bool := decide ((L.length : Int) < room) || decide (goN L ks < L.length)

theorem Ca.some_of {w : World} {A : Nat → Prop} {c : Nat} {room : Int} {ao : Option Addr} {cap : Nat} {L : List En} (h : Ca w A c room ao cap L) (hL : 0 < L.length) : ∃ g, ao = some ⟨g, 0, none⟩ := by
  rcases h.own with ⟨_, _, e⟩ | ⟨g, _, e, _⟩
  · subst e; simp at hL
  · exact ⟨g, e⟩

set_option maxHeartbeats 1600000 in
theorem makeRoom_any (w : World) (A : Nat → Prop) (c : Nat) (room : Int) (ao : Option Addr) (cap : Nat) (L : List En) (H : Ca w A c room ao cap L) (hl : L.length ≤ 1000000) (ka : Option Addr) (kn kc : Nat) (ks : List Int) (hk : RdI w .i64 ka kc ks) (hkn : ks.length = kn) (hkl : kn ≤ 9223372036854775807) :
    Calls Try.prog 17 #[cp c, .slice ka kn kc] w fun e w' => e = .returned (.tuple #[.int .i64 (mrZ L room ks), .bool (mrB L room ks)]) ∧ Ca w' A c room ao cap (mrL L room ks) ∧ OffS A w w' := by
  have hmf : ∀ (fn : Fn) (first cap : Array Value) (w : World), (Instr.makeFunc fn first cap).run Try.prog w = .ok (.func fn first cap) w := fun _ _ _ _ => rfl
  have hb0 : Below w.heap.size w (w.alloc (.cells #[.slice ka kn kc] 31)) := (Below.refl _ _).alloc (Nat.le_refl _) _
  have H0 := H.below hb0
  have hbd : Below w.heap.size w (w.alloc (.cells #[.slice ka kn kc] 31)).drew := hb0.trans ⟨rfl, rfl, rfl, Nat.le_refl _, fun _ _ => rfl⟩
  have c0 := H0.c0
  have c1 := H0.c1
  by_cases hr : (L.length : Int) < room
  · have e1 : mrZ L room ks = -1 := if_pos hr
    have e2 : mrB L room ks = true := by simp [mrB, hr]
    have e3 : mrL L room ks = L := if_pos hr
    rw [e1, e2, e3]
    have HC : Hid (Ca (w.alloc (.cells #[.slice ka kn kc] 31)).drew A c room ao cap L ∧ OffS A w (w.alloc (.cells #[.slice ka kn kc] 31)).drew) := ⟨H.below hbd, .of_below hbd⟩
    have hd : decide ((L.length : Int) < room) = true := by simpa using hr
    clear e1 e2 e3 H H0 hk hkn hb0 hbd
    go_enter Try.func17, Try.ntmps17
    go_wp2
    go_quiet (fail)
    go_wp2
    go_ret2
    exact ⟨rfl, HC.out.1.below ⟨rfl, rfl, rfl, Nat.le_refl _, fun _ _ => rfl⟩, ⟨HC.out.2.os, HC.out.2.tape, HC.out.2.output, HC.out.2.size, HC.out.2.block⟩⟩
  have hd : decide ((L.length : Int) < room) = false := by simpa using hr
  have HI : Hid (∀ j, Calls Try.prog 23 #[.slice ao L.length cap, .func (.func 25) #[] #[.pointer (some ⟨w.heap.size, 0, none⟩)]] ((w.alloc (.cells #[.slice ka kn kc] 31)).drewN j) fun e w' => e = .returned (.int .i64 (goZ L ks)) ∧ Below w.heap.size w w') := fun j => by
    have hbj : Below w.heap.size w ((w.alloc (.cells #[.slice ka kn kc] 31)).drewN j) := hb0.trans ⟨rfl, rfl, rfl, Nat.le_refl _, fun _ _ => rfl⟩
    refine (indexo_any ao L.length cap L ka kn kc ks w.heap.size _ (H.below hbj).own.rd rfl hl (hk.below hbj) hkn ?_ hkl).mono ?_
    · have := cell_of_row (w.alloc (.cells #[.slice ka kn kc] 31)) w.heap.size 0 _ _ _ (heap_alloc_new w _)
      exact this.trans rfl
    · rintro e w' ⟨rfl, hb⟩
      exact ⟨rfl, below_step hbj hb⟩
  by_cases hg : goN L ks < L.length
  · have hz : goZ L ks = (goN L ks : Int) := if_pos hg
    obtain ⟨g, rfl⟩ := H.some_of (by omega)
    obtain ⟨k, hkk⟩ : ∃ k, goN L ks = k := ⟨_, rfl⟩
    rw [hkk] at hg
    have hx : L[k]? = some L[k] := List.getElem?_eq_getElem hg
    have e1 : mrZ L room ks = (L[k].p : Int) := by unfold mrZ; rw [if_neg hr, hkk, hx]; rfl
    have e2 : mrB L room ks = true := by simp [mrB, hkk, hg]
    have e3 : mrL L room ks = L.take k ++ L.drop (k + 1) := by unfold mrL; rw [if_neg hr, hkk, if_pos hg]
    rw [e1, e2, e3]
    rw [hz, hkk] at HI
    obtain ⟨q, hq⟩ : ∃ q, L.length = q + 1 := ⟨L.length - 1, by omega⟩
    have HR : Hid (∀ W, Below w.heap.size w W → Calls Try.prog 22 #[cp c, .int .i64 (k : Int)] W fun e w' => e = .returned (enV L[k]) ∧ Ca w' A c room (some ⟨g, 0, none⟩) cap (L.take k ++ L.drop (k + 1)) ∧ OffS A w w') := fun W hW => by
      refine (remove_any W A c room g cap L (H.below hW) q hq (by omega) k (by omega) L[k] hx).mono ?_
      rintro e w' ⟨rfl, h1, h2⟩
      exact ⟨rfl, h1, (OffS.of_below hW).trans (h2.mono fun _ h => .inl h)⟩
    clear e1 e2 e3 H H0 hk hkn hb0 hbd hz hkk hx hq
    generalize L[k] = x at *
    have hfd : ∀ W : World, (Instr.field 43 (enV x) 0).run Try.prog W = .ok (.int .i64 (x.p : Int)) W := fun _ => rfl
    go_enter Try.func17, Try.ntmps17
    go_wp2
    go_quiet (fail)
    go_wp2_with (first
      | (go_at_call 23; refine (HI.out _).mono ?_; rintro e w1 ⟨rfl, hb1⟩)
      | (go_at_call 22; refine (HR.out w1 hb1).mono ?_; rintro e w2 ⟨rfl, HC⟩)
      | fail)
    go_ret2
    exact ⟨rfl, HC⟩
  · have hz : goZ L ks = -1 := if_neg hg
    have e1 : mrZ L room ks = -1 := by unfold mrZ; rw [if_neg hr, List.getElem?_eq_none (by omega)]; rfl
    have e2 : mrB L room ks = false := by simp only [mrB, hd]; simpa using hg
    have e3 : mrL L room ks = L := by unfold mrL; rw [if_neg hr, if_neg hg]
    rw [e1, e2, e3]
    rw [hz] at HI
    have HH : Hid (Ca w A c room ao cap L) := H
    clear e1 e2 e3 H H0 hk hkn hb0 hbd hz
    go_enter Try.func17, Try.ntmps17
    go_wp2
    go_quiet (fail)
    go_wp2_with (first
      | (go_at_call 23; refine (HI.out _).mono ?_; rintro e w1 ⟨rfl, hb1⟩)
      | fail)
    go_ret2
    exact ⟨rfl, HH.out.below hb1, .of_below hb1⟩

set_option maxHeartbeats 1600000 in
theorem pages_any (w : World) (A : Nat → Prop) (c : Nat) (room : Int) (ao : Option Addr) (cap : Nat) (L : List En) (H : Ca w A c room ao cap L) (hl : L.length ≤ 1000000) :
    Calls Try.prog 9 #[cp c] w fun e w' => ∃ a2 c2, e = .returned (.slice a2 L.length c2) ∧ OwnI w' w.heap.size 3 .i64 a2 c2 (L.map fun x => (x.p : Int)) ∧ Below w.heap.size w w' := by
  have hst := fun (ad : Addr) (re im : Nat) (W : World) => run_store Try.prog W ad (.complex .f64 re im) .plain rfl
  obtain ⟨n, hn⟩ : ∃ n, L.length = n := ⟨_, rfl⟩
  have c1 := H.c1
  rw [hn] at c1 hl ⊢
  have HL : Hid (Ca w A c room ao cap L ∧ L.length = n) := ⟨H, hn⟩
  clear H hn
  go_enter Try.func9, Try.ntmps9
  go_wp2
  go_loopw [3, 5, 11] (fun r b i wr => ∃ (k : Nat) (a2 : Option Addr) (c2 : Nat), k ≤ n ∧ i = .int .i64 k ∧ r = .slice a2 k c2 ∧ Hid (OwnI wr w.heap.size 3 .i64 a2 c2 ((L.take k).map fun x => (x.p : Int)) ∧ Below w.heap.size w wr)) (fun r b i _ => n - (intOf i).toNat)
  case atStart => exact ⟨0, none, 0, Nat.zero_le _, rfl, rfl, OwnI.nil _ _ _ _, Below.refl _ _⟩
  case round =>
    obtain ⟨k, a2, c2, hk, rfl, rfl, HI⟩ := hrel
    rename World => wr
    by_cases hlt : k < n
    · have hkl : k < L.length := by have := HL.out.2; omega
      obtain ⟨bk, off, rfl, -, hcc⟩ := (HL.out.1.below HI.out.2).own.rd.at enE hkl
      obtain ⟨z0, z1, z2, z3, z4, z5, z6⟩ := enIn _ _ _ _ hcc
      have HT : Hid ((L.take (k + 1)).map (fun x => (x.p : Int)) = (L.take k).map (fun x => (x.p : Int)) ++ [(L[k].p : Int)]) := by
        unfold Hid
        rw [List.take_add_one, List.getElem?_eq_getElem hkl, List.map_append]
        rfl
      have HN : Hid (((L.take k).map (fun x => (x.p : Int))).length = k) := by unfold Hid; rw [List.length_map, List.length_take]; omega
      clear hcc
      generalize L[k] = x at *
      have e0' : decide ((k : Int) < n) = true := by simp; omega
      have hbA : Below wr.heap.size wr (wr.alloc (enO x)) := (Below.refl _ _).alloc (Nat.le_refl _) _
      have HB : Hid (Below w.heap.size w (wr.alloc (enO x)) ∧ OwnI (wr.alloc (enO x)) w.heap.size 3 .i64 a2 c2 ((L.take k).map fun x => (x.p : Int)) ∧ (wr.alloc (enO x)).heap[wr.heap.size]? = some (enO x)) := ⟨below_step HI.out.2 hbA, HI.out.1.below hbA, heap_alloc_new wr _⟩
      clear hbA
      go_upto_region 5 with fail
      show Code.wp _ _ _ _ (wr.alloc (enO x))
      obtain ⟨n5, hn5⟩ : ∃ n, wr.heap.size = n := ⟨_, rfl⟩
      rw [hn5] at HB ⊢
      generalize wr.alloc (enO x) = W5 at *
      obtain ⟨y0, -⟩ := enCells HB.out.2.2
      clear z0 z1 z2 z3 z4 z5 z6 hn5
      go_wp2_with (first
        | (at_builtin; refine wpList_append_rdI _ rfl _ _ 31 rfl w.heap.size 3 .i64 _ 8 Try.underlying31 info3 rfl rfl rfl (HB.out.2.1.alloc _) (RdI.one W5 3 .i64 (x.p : Int)) HN.out rfl (by omega) (by unfold maxLen; omega) (by have := HB.out.1.size; simp; omega) ?_; intro a3 c3 w3 ho3 hb3)
        | fail)
      go_roundw
      case rel =>
        refine ⟨k + 1, a3, c3, by omega, by go_num, rfl, by rw [HT.out]; exact ho3, ?_⟩
        exact HB.out.1.trans (((Below.refl w.heap.size W5).alloc HB.out.1.size _).trans hb3)
      case measure => simp [intOf]; omega
    · obtain rfl : k = n := by omega
      have HT : Hid (L.take k = L) := List.take_of_length_le (by have := HL.out.2; omega)
      go_wp2
      go_ret
      exact ⟨a2, c2, rfl, by have := HI.out.1; rw [HT.out] at this; exact this, HI.out.2⟩

end Go.Proofs.Ytoconakkldahlaa
