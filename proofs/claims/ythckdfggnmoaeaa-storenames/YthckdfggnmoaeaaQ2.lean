/- What Len of package sector, the short methods of package store and the law's 'one' do, walked. -/
import Derived.Test.YthckdfggnmoaeaaQ1
namespace Go.Proofs.Ythckdfggnmoaeaa
open Go.RowKit
set_option linter.unusedVariables false

theorem slen_any (g : Nat) (V : Nat → Prop) (L : List Sec) (w : World) (h : Drv w g V L) :
    Calls Try.prog 20 #[dp g] w fun e w' => e = .returned (.int .i64 (L.length : Int)) ∧ w' = w := by
  have hp := h.pc
  go_enter Try.func20, Try.ntmps20
  go_wp2
  go_ret
  exact ⟨rfl, rfl⟩

/-- A put as a value. -/
abbrev wputV (p : PutG) : Value := .agg #[.int .i64 (p.pg : Int), .int .i64 (p.ob : Int), .complex .f64 p.c.1 p.c.2]

set_option maxHeartbeats 400000 in
theorem outside_no (gs g gl gp : Nat) (V : Nat → Prop) (L : List Sec) (p : PutG) (w : World) (hs : Ss w gs g gl gp) (hd : Drv w g V L) (h : p.pg < L.length) :
    Calls Try.prog 18 #[tp gs, wputV p] w fun e w' => e = .returned (.bool false) ∧ Below w.heap.size w w' := by
  obtain ⟨pg, ob, c⟩ := p
  simp only at h
  have hst := fun (ad : Addr) (re im : Nat) (W : World) => run_store Try.prog W ad (.complex .f64 re im) .plain rfl
  have HB : Hid (Below w.heap.size w (w.alloc (wputO ⟨pg, ob, c⟩))) := below_box _ _
  have HH : Hid (∀ W : World, Below w.heap.size w W → Calls Try.prog 20 #[dp g] W fun x w' => x = .returned (.int .i64 (L.length : Int)) ∧ w' = W) := fun W hb => slen_any g V L W (hd.below hb)
  have hs0 := (hs.below (below_box w (wputO ⟨pg, ob, c⟩))).c0
  have hd0 : decide ((pg : Int) < 0) = false := by simp
  have hd1 : decide ((pg : Int) ≥ (L.length : Int)) = false := by simp; omega
  have hd2 : decide (L.length ≤ pg) = false := by simp; omega
  generalize L.length = m at *
  go_enter Try.func18, Try.ntmps18
  go_wp2
  go_quiet (first
    | (go_at_call 20; refine (HH.out _ ?_).mono ?_; (exact ⟨HB.out.os, HB.out.tape, HB.out.output, HB.out.size, HB.out.block⟩); rintro x w' ⟨rfl, hw⟩; subst w'; exact ⟨rfl, _, rfl⟩))
  go_wp2
  go_ret
  exact ⟨rfl, ⟨HB.out.os, HB.out.tape, HB.out.output, HB.out.size, HB.out.block⟩⟩

set_option maxHeartbeats 400000 in
theorem outside_yes (gs g gl gp : Nat) (V : Nat → Prop) (L : List Sec) (p : PutG) (w : World) (hs : Ss w gs g gl gp) (hd : Drv w g V L) (h : L.length ≤ p.pg) :
    Calls Try.prog 18 #[tp gs, wputV p] w fun e w' => e = .returned (.bool true) ∧ Below w.heap.size w w' := by
  obtain ⟨pg, ob, c⟩ := p
  simp only at h
  have hst := fun (ad : Addr) (re im : Nat) (W : World) => run_store Try.prog W ad (.complex .f64 re im) .plain rfl
  have HB : Hid (Below w.heap.size w (w.alloc (wputO ⟨pg, ob, c⟩))) := below_box _ _
  have HH : Hid (∀ W : World, Below w.heap.size w W → Calls Try.prog 20 #[dp g] W fun x w' => x = .returned (.int .i64 (L.length : Int)) ∧ w' = W) := fun W hb => slen_any g V L W (hd.below hb)
  have hs0 := (hs.below (below_box w (wputO ⟨pg, ob, c⟩))).c0
  have hd0 : decide ((pg : Int) < 0) = false := by simp
  have hd1 : decide ((pg : Int) ≥ (L.length : Int)) = true := by simp; omega
  generalize L.length = m at *
  go_enter Try.func18, Try.ntmps18
  go_wp2
  go_quiet (first
    | (go_at_call 20; refine (HH.out _ ?_).mono ?_; (exact ⟨HB.out.os, HB.out.tape, HB.out.output, HB.out.size, HB.out.block⟩); rintro x w' ⟨rfl, hw⟩; subst w'; exact ⟨rfl, _, rfl⟩))
  go_wp2
  go_ret
  exact ⟨rfl, ⟨HB.out.os, HB.out.tape, HB.out.output, HB.out.size, HB.out.block⟩⟩

set_option maxHeartbeats 400000 in
theorem pindex_none (gs g gl gp : Nat) (V : Nat → Prop) (L : List Sec) (ap : Option Addr) (n cp : Nat) (ps : List PutG) (w : World) (hs : Ss w gs g gl gp) (hd : Drv w g V L) (hp : RdP w ap n cp ps) (h : ∀ p ∈ ps, p.pg < L.length) (hn : n ≤ 24) :
    Calls Try.prog 37 #[.slice ap n cp, .func (.func 18) #[tp gs] #[]] w fun x w' => x = .returned (.int .i64 (-1)) ∧ Below w.heap.size w w' := by
  have HR : Hid (RdP w ap n cp ps) := hp
  have HI : Hid (∀ (p : PutG) (W : World), Below w.heap.size w W → p ∈ ps → Calls Try.prog 18 #[tp gs, wputV p] W fun e w' => e = .returned (.bool false) ∧ Below W.heap.size W w') := fun p W hb hm => outside_no gs g gl gp V L p W (hs.below hb) (hd.below hb) (h p hm)
  clear hp h hs hd
  go_enter Try.func37, Try.ntmps37
  go_wp2
  go_loopw [8] (fun i wr => ∃ k : Nat, k ≤ n ∧ i = .int .i64 k ∧ Below w.heap.size w wr) (fun i _ => n - (intOf i).toNat)
  case atStart => exact ⟨0, Nat.zero_le _, rfl, Below.refl _ _⟩
  case round =>
    obtain ⟨k, hk, rfl, hbel⟩ := hrel
    by_cases hlt : k < n
    · have hl := HR.out.len
      obtain ⟨b, off, rfl, hb, q0, q1, q2⟩ := (HR.out.below hbel).cell k (by omega)
      have hm : ps[k] ∈ ps := List.getElem_mem _
      have HM : Hid (ps[k] ∈ ps) := hm
      clear hm
      generalize ps[k] = p at *
      obtain ⟨pg, ob, c⟩ := p
      simp only at q0 q1 q2
      go_wp2_with (first
        | (go_at_call 18; refine (HI.out ⟨pg, ob, c⟩ _ hbel HM.out).mono ?_; rintro x w1 ⟨rfl, hbb⟩)
        | (fail))
      go_roundw
      case rel => exact ⟨k + 1, by omega, by go_num, below_step hbel hbb⟩
      case measure => simp [intOf]; omega
    · go_wp2
      go_ret
      exact ⟨rfl, hbel⟩

set_option maxHeartbeats 400000 in
theorem pindex_first (gs g gl gp : Nat) (V : Nat → Prop) (L : List Sec) (ap : Option Addr) (n cp : Nat) (p : PutG) (ps : List PutG) (w : World) (hs : Ss w gs g gl gp) (hd : Drv w g V L) (hp : RdP w ap n cp (p :: ps)) (h : L.length ≤ p.pg) (hn : n ≤ 24) :
    Calls Try.prog 37 #[.slice ap n cp, .func (.func 18) #[tp gs] #[]] w fun x w' => x = .returned (.int .i64 0) ∧ Below w.heap.size w w' := by
  have HI : Hid (Calls Try.prog 18 #[tp gs, wputV p] w fun e w' => e = .returned (.bool true) ∧ Below w.heap.size w w') := outside_yes gs g gl gp V L p w hs hd h
  have hl := hp.len
  obtain ⟨b, off, rfl, hb, q0, q1, q2⟩ := hp.cell 0 (by simp)
  simp only [List.getElem_cons_zero, Nat.zero_mul, Nat.add_zero] at q0 q1 q2
  have hn1 : 1 ≤ n := by simp at hl; omega
  clear hp h hs hd hl
  obtain ⟨pg, ob, c⟩ := p
  simp only at q0 q1 q2
  go_enter Try.func37, Try.ntmps37
  go_wp2
  go_loopw [8] (fun i wr => i = .int .i64 0 ∧ wr = w) (fun i _ => 0)
  case atStart => exact ⟨rfl, rfl⟩
  case round =>
    obtain ⟨rfl, hw⟩ := hrel
    subst hw
    go_wp2_with (first
      | (go_at_call 18; refine HI.out.mono ?_; rintro x w1 ⟨rfl, hbb⟩)
      | (fail))
    go_ret
    exact ⟨rfl, hbb⟩

theorem contains_no (gs g gl gp : Nat) (V : Nat → Prop) (L : List Sec) (ap : Option Addr) (n cp : Nat) (ps : List PutG) (w : World) (hs : Ss w gs g gl gp) (hd : Drv w g V L) (hp : RdP w ap n cp ps) (h : ∀ p ∈ ps, p.pg < L.length) (hn : n ≤ 24) :
    Calls Try.prog 17 #[.slice ap n cp, .func (.func 18) #[tp gs] #[]] w fun x w' => x = .returned (.bool false) ∧ Below w.heap.size w w' := by
  have HI : Hid (Calls Try.prog 37 #[.slice ap n cp, .func (.func 18) #[tp gs] #[]] w fun x w' => x = .returned (.int .i64 (-1)) ∧ Below w.heap.size w w') := pindex_none gs g gl gp V L ap n cp ps w hs hd hp h hn
  clear hs hd hp h
  go_enter Try.func17, Try.ntmps17
  go_wp2_with (first
    | (go_at_call 37; refine HI.out.mono ?_; rintro x w1 ⟨rfl, hb1⟩)
    | (fail))
  go_ret
  exact ⟨rfl, hb1⟩

theorem contains_first (gs g gl gp : Nat) (V : Nat → Prop) (L : List Sec) (ap : Option Addr) (n cp : Nat) (p : PutG) (ps : List PutG) (w : World) (hs : Ss w gs g gl gp) (hd : Drv w g V L) (hp : RdP w ap n cp (p :: ps)) (h : L.length ≤ p.pg) (hn : n ≤ 24) :
    Calls Try.prog 17 #[.slice ap n cp, .func (.func 18) #[tp gs] #[]] w fun x w' => x = .returned (.bool true) ∧ Below w.heap.size w w' := by
  have HI : Hid (Calls Try.prog 37 #[.slice ap n cp, .func (.func 18) #[tp gs] #[]] w fun x w' => x = .returned (.int .i64 0) ∧ Below w.heap.size w w') := pindex_first gs g gl gp V L ap n cp p ps w hs hd hp h hn
  clear hs hd hp h
  go_enter Try.func17, Try.ntmps17
  go_wp2_with (first
    | (go_at_call 37; refine HI.out.mono ?_; rintro x w1 ⟨rfl, hb1⟩)
    | (fail))
  go_ret
  exact ⟨rfl, hb1⟩

/-! ### the short methods -/

theorem last_store (gs g gl gp : Nat) (last : Int) (w : World) (hs : Ss w gs g gl gp) (HL : Calls Try.prog 28 #[tp gl] w fun x w' => x = .returned (.int .i64 last) ∧ w' = w) :
    Calls Try.prog 10 #[tp gs] w fun x w' => x = .returned (.int .i64 last) ∧ w' = w := by
  have H1 : Hid (Calls Try.prog 28 #[tp gl] w fun x w' => x = .returned (.int .i64 last) ∧ w' = w) := HL
  have h1 := hs.c1
  clear HL
  go_enter Try.func10, Try.ntmps10
  go_wp2_with (first
    | (go_at_call 28; refine H1.out.mono ?_; rintro x w' ⟨rfl, hw⟩; subst w')
    | (fail))
  go_ret
  exact ⟨rfl, rfl⟩

theorem durable_store (gs g gl gp : Nat) (z : Int) (w : World) (hs : Ss w gs g gl gp) (HL : Calls Try.prog 42 #[tp gl] w fun x w' => x = .returned (.int .i64 z) ∧ Below w.heap.size w w') :
    Calls Try.prog 25 #[tp gs] w fun x w' => x = .returned (.int .i64 z) ∧ Below w.heap.size w w' := by
  have H1 : Hid (Calls Try.prog 42 #[tp gl] w fun x w' => x = .returned (.int .i64 z) ∧ Below w.heap.size w w') := HL
  have h1 := hs.c1
  clear HL
  go_enter Try.func25, Try.ntmps25
  go_wp2_with (first
    | (go_at_call 42; refine H1.out.mono ?_; rintro x w1 ⟨rfl, hb⟩)
    | (fail))
  go_ret
  exact ⟨rfl, hb⟩

theorem commits_store (gs g gl gp : Nat) (ao : Option Addr) (n cap : Nat) (w : World) (hs : Ss w gs g gl gp) (R : World → Prop) (HL : Calls Try.prog 14 #[tp gl] w fun x w' => x = .returned (.slice ao n cap) ∧ R w') :
    Calls Try.prog 11 #[tp gs] w fun x w' => x = .returned (.slice ao n cap) ∧ R w' := by
  have H1 : Hid (Calls Try.prog 14 #[tp gl] w fun x w' => x = .returned (.slice ao n cap) ∧ R w') := HL
  have h1 := hs.c1
  clear HL
  go_enter Try.func11, Try.ntmps11
  go_wp2_with (first
    | (go_at_call 14; refine H1.out.mono ?_; rintro x w1 ⟨rfl, hb⟩)
    | (fail))
  go_ret
  exact ⟨rfl, hb⟩

theorem sync_store (gs g gl gp : Nat) (w : World) (hs : Ss w gs g gl gp) (R : World → Prop) (HL : Calls Try.prog 41 #[tp gl] w fun x w' => x = .returned (.tuple #[]) ∧ R w') :
    Calls Try.prog 23 #[tp gs] w fun x w' => x = .returned (.tuple #[]) ∧ R w' := by
  have H1 : Hid (Calls Try.prog 41 #[tp gl] w fun x w' => x = .returned (.tuple #[]) ∧ R w') := HL
  have h1 := hs.c1
  clear HL
  go_enter Try.func23, Try.ntmps23
  go_wp2_with (first
    | (go_at_call 41; refine H1.out.mono ?_; rintro x w1 ⟨rfl, hb⟩)
    | (fail))
  go_end0
  exact ⟨rfl, hb⟩

/-- What a Get does, wherever it is called. -/
abbrev Gets (w : World) (gp gf g gl : Nat) (V : Nat → Prop) (n : Int) (l : Int) (a b c d : Nat × Nat) (L : List Sec) (F : List Fr) (hd : Nat) : Prop :=
  ∀ W, Below w.heap.size w W → Calls Try.prog 21 #[tp gp, .int .i64 n] W fun e w' => e = .returned (.tuple #[pgV l a b c d, .int .i64 0]) ∧ Left W w' gp gf g gl V L F hd

set_option maxHeartbeats 800000 in
theorem page_store (gs gp gf g gl : Nat) (V : Nat → Prop) (n l : Int) (a b c d : Nat × Nat) (L : List Sec) (F : List Fr) (hd : Nat) (w : World) (hs : Ss w gs g gl gp) (hlt : gp < w.heap.size ∧ gf < w.heap.size ∧ g + 1 < w.heap.size) (hv : ∀ k, V k → k < w.heap.size) (HL : Gets w gp gf g gl V n l a b c d L F hd) :
    Calls Try.prog 24 #[tp gs, .int .i64 n] w fun e w' => e = .returned (.tuple #[pgV l a b c d, .int .i64 0]) ∧ Left w w' gp gf g gl V L F hd := by
  have H1 : Hid (Gets w gp gf g gl V n l a b c d L F hd) := HL
  have h1 := (hs.below (below_box w pgZ)).c2
  clear HL
  have hst := fun (ad : Addr) (re im : Nat) (W : World) => run_store Try.prog W ad (.complex .f64 re im) .plain rfl
  unfold pgV
  go_enter Try.func24, Try.ntmps24
  go_wp2_with (first
    | (go_at_call 21; refine (H1.out _ (below_box w pgZ)).mono ?_; unfold pgV; rintro e w1 ⟨rfl, V1, hS1, hV1, hO1⟩; have hq := (PgAt.new w 0 zO zO zO zO).keep (hO1.block w.heap.size (by simp) (by omega) (by omega) (by omega)) hO1.size; have q0 := hq.c0; have q1 := hq.c1; have q2 := hq.c2; have q3 := hq.c3; have q4 := hq.c4; have r0 := hq.f0; have r1 := hq.f1; have r2 := hq.f2; have r3 := hq.f3; have r4 := hq.f4)
    | fail)
  refine bodyPost_ret (by simp [results, Try.results24, go_sem, q0, q1, q2, q3, q4]; try rfl) rfl ?_
  have hnv : ¬ PlB gp gf g V1 w.heap.size := by
    rintro (h | h | h | h | h)
    · omega
    · omega
    · omega
    · omega
    · have := hv _ (hV1 _ (by simp) h); omega
  refine ⟨rfl, V1, hS1.put5 _ hnv _ _ _ _ _, fun k hk hx => hV1 k (by simp; omega) hx, ?_⟩
  exact ((Off3.of_below (below_box w pgZ)).trans hO1).put5 _ (Nat.le_refl _) _ _ _ _ _

/-! ### one put -/

theorem put_rd (w : World) (p : PutG) : RdP (w.alloc (wputO p)) (some ⟨w.heap.size, 0, none⟩) 1 1 [p] := by
  have h := heap_alloc_new w (wputO p)
  refine ⟨rfl, fun t ht => ?_⟩
  simp only [List.length_cons, List.length_nil] at ht
  obtain rfl : t = 0 := by omega
  refine ⟨w.heap.size, 0, rfl, by simp, ?_, ?_, ?_⟩
  all_goals rw [cell_of_row _ _ _ _ _ _ h]; rfl

theorem one_any (c : Nat × Nat) (w : World) :
    Calls Try.prog 22 #[.complex .f64 c.1 c.2] w fun x w' => x = .returned (.slice (some ⟨w.heap.size, 0, none⟩) 1 1) ∧ RdP w' (some ⟨w.heap.size, 0, none⟩) 1 1 [⟨1, 2, c⟩] ∧ Below w.heap.size w w' := by
  have hst := fun (ad : Addr) (re im : Nat) (W : World) => run_store Try.prog W ad (.complex .f64 re im) .plain rfl
  go_enter Try.func22, Try.ntmps22
  go_wp2
  go_ret
  exact ⟨rfl, put_rd w ⟨1, 2, c⟩, below_box _ _⟩

end Go.Proofs.Ythckdfggnmoaeaa
