/- What ownParts and Right of package msg do, walked. -/
import Derived.Test.YtpofihiojhbfgaaGreatDoorB7
import Derived.RegionTactic
namespace Go.Proofs.YtpofihiojhbfgaaGreatDoor.Msg
open Go.RowKit
set_option linter.unusedVariables false
set_option maxRecDepth 8000

theorem below3 (w : World) (o1 o2 o3 : Obj) : Below w.heap.size w (((w.alloc o1).alloc o2).alloc o3) := (below2 w o1 o2).alloc (by simp; omega) _

set_option maxHeartbeats 800000 in
theorem own_0 (p o t c n : Int) (wr : Bool) (ps : List PutG) (v0 v1 v2 v3 : Nat × Nat) (ao : Option Addr) (nn cap : Nat) (w : World) :
    Calls Tryz.prog 119 #[msV ⟨0, p, o, t, c, n, wr, ps, v0, v1, v2, v3⟩ ao nn cap] w fun x w' => x = .returned (.tuple #[msV ⟨0, p, o, 0, 0, 0, false, [], z2, z2, z2, z2⟩ none 0 0, .bool true]) ∧ Below w.heap.size w w' := by
  have hst := fun (ad : Addr) (re im : Nat) (W : World) => run_store Tryz.prog W ad (.complex .f64 re im) .plain rfl
  go_enter Tryz.func119, Tryz.ntmps119
  go_wp2
  go_region
  go_wp2
  go_returns
  exact ⟨rfl, by first | exact (below3 _ _ _ _).drew | exact below3 _ _ _ _⟩

set_option maxHeartbeats 800000 in
theorem own_1 (p o t c n : Int) (wr : Bool) (ps : List PutG) (v0 v1 v2 v3 : Nat × Nat) (ao : Option Addr) (nn cap : Nat) (w : World) :
    Calls Tryz.prog 119 #[msV ⟨1, p, o, t, c, n, wr, ps, v0, v1, v2, v3⟩ ao nn cap] w fun x w' => x = .returned (.tuple #[msV ⟨1, p, o, 0, 0, 0, false, [], z2, z2, z2, z2⟩ none 0 0, .bool true]) ∧ Below w.heap.size w w' := by
  have hst := fun (ad : Addr) (re im : Nat) (W : World) => run_store Tryz.prog W ad (.complex .f64 re im) .plain rfl
  go_enter Tryz.func119, Tryz.ntmps119
  go_wp2
  go_region
  go_wp2
  go_returns
  exact ⟨rfl, by first | exact (below3 _ _ _ _).drew | exact below3 _ _ _ _⟩

set_option maxHeartbeats 800000 in
theorem own_2 (p o t c n : Int) (wr : Bool) (ps : List PutG) (v0 v1 v2 v3 : Nat × Nat) (ao : Option Addr) (nn cap : Nat) (w : World) :
    Calls Tryz.prog 119 #[msV ⟨2, p, o, t, c, n, wr, ps, v0, v1, v2, v3⟩ ao nn cap] w fun x w' => x = .returned (.tuple #[msV ⟨2, 0, 0, t, 0, 0, false, ps, z2, z2, z2, z2⟩ ao nn cap, .bool true]) ∧ Below w.heap.size w w' := by
  have hst := fun (ad : Addr) (re im : Nat) (W : World) => run_store Tryz.prog W ad (.complex .f64 re im) .plain rfl
  go_enter Tryz.func119, Tryz.ntmps119
  go_wp2
  go_returns
  exact ⟨rfl, by first | exact (below3 _ _ _ _).drew | exact below3 _ _ _ _⟩

set_option maxHeartbeats 800000 in
theorem own_3 (p o t c n : Int) (wr : Bool) (ps : List PutG) (v0 v1 v2 v3 : Nat × Nat) (ao : Option Addr) (nn cap : Nat) (w : World) :
    Calls Tryz.prog 119 #[msV ⟨3, p, o, t, c, n, wr, ps, v0, v1, v2, v3⟩ ao nn cap] w fun x w' => x = .returned (.tuple #[msV ⟨3, p, 0, 0, c, n, false, [], z2, z2, z2, z2⟩ none 0 0, .bool true]) ∧ Below w.heap.size w w' := by
  have hst := fun (ad : Addr) (re im : Nat) (W : World) => run_store Tryz.prog W ad (.complex .f64 re im) .plain rfl
  go_enter Tryz.func119, Tryz.ntmps119
  go_wp2
  go_region
  go_wp2
  go_returns
  exact ⟨rfl, by first | exact (below3 _ _ _ _).drew | exact below3 _ _ _ _⟩

set_option maxHeartbeats 800000 in
theorem own_4 (p o t c n : Int) (wr : Bool) (ps : List PutG) (v0 v1 v2 v3 : Nat × Nat) (ao : Option Addr) (nn cap : Nat) (w : World) :
    Calls Tryz.prog 119 #[msV ⟨4, p, o, t, c, n, wr, ps, v0, v1, v2, v3⟩ ao nn cap] w fun x w' => x = .returned (.tuple #[msV ⟨4, p, o, 0, 0, 0, wr, [], z2, z2, z2, z2⟩ none 0 0, .bool true]) ∧ Below w.heap.size w w' := by
  have hst := fun (ad : Addr) (re im : Nat) (W : World) => run_store Tryz.prog W ad (.complex .f64 re im) .plain rfl
  go_enter Tryz.func119, Tryz.ntmps119
  go_wp2
  go_region
  go_wp2
  go_returns
  exact ⟨rfl, by first | exact (below3 _ _ _ _).drew | exact below3 _ _ _ _⟩

set_option maxHeartbeats 800000 in
theorem own_5 (p o t c n : Int) (wr : Bool) (ps : List PutG) (v0 v1 v2 v3 : Nat × Nat) (ao : Option Addr) (nn cap : Nat) (w : World) :
    Calls Tryz.prog 119 #[msV ⟨5, p, o, t, c, n, wr, ps, v0, v1, v2, v3⟩ ao nn cap] w fun x w' => x = .returned (.tuple #[msV ⟨5, p, 0, 0, c, n, false, [], v0, v1, v2, v3⟩ none 0 0, .bool true]) ∧ Below w.heap.size w w' := by
  have hst := fun (ad : Addr) (re im : Nat) (W : World) => run_store Tryz.prog W ad (.complex .f64 re im) .plain rfl
  go_enter Tryz.func119, Tryz.ntmps119
  go_wp2
  go_region
  go_wp2
  go_returns
  exact ⟨rfl, by first | exact (below3 _ _ _ _).drew | exact below3 _ _ _ _⟩

set_option maxHeartbeats 800000 in
theorem own_6 (p o t c n : Int) (wr : Bool) (ps : List PutG) (v0 v1 v2 v3 : Nat × Nat) (ao : Option Addr) (nn cap : Nat) (w : World) :
    Calls Tryz.prog 119 #[msV ⟨6, p, o, t, c, n, wr, ps, v0, v1, v2, v3⟩ ao nn cap] w fun x w' => x = .returned (.tuple #[msV ⟨6, p, o, 0, 0, 0, wr, [], z2, z2, z2, z2⟩ none 0 0, .bool true]) ∧ Below w.heap.size w w' := by
  have hst := fun (ad : Addr) (re im : Nat) (W : World) => run_store Tryz.prog W ad (.complex .f64 re im) .plain rfl
  go_enter Tryz.func119, Tryz.ntmps119
  go_wp2
  go_region
  go_wp2
  go_returns
  exact ⟨rfl, by first | exact (below3 _ _ _ _).drew | exact below3 _ _ _ _⟩

set_option maxHeartbeats 800000 in
theorem own_7 (p o t c n : Int) (wr : Bool) (ps : List PutG) (v0 v1 v2 v3 : Nat × Nat) (ao : Option Addr) (nn cap : Nat) (w : World) :
    Calls Tryz.prog 119 #[msV ⟨7, p, o, t, c, n, wr, ps, v0, v1, v2, v3⟩ ao nn cap] w fun x w' => x = .returned (.tuple #[msV ⟨7, 0, 0, t, 0, 0, false, [], z2, z2, z2, z2⟩ none 0 0, .bool true]) ∧ Below w.heap.size w w' := by
  have hst := fun (ad : Addr) (re im : Nat) (W : World) => run_store Tryz.prog W ad (.complex .f64 re im) .plain rfl
  go_enter Tryz.func119, Tryz.ntmps119
  go_wp2
  go_returns
  exact ⟨rfl, by first | exact (below3 _ _ _ _).drew | exact below3 _ _ _ _⟩

set_option maxHeartbeats 800000 in
theorem own_8 (p o t c n : Int) (wr : Bool) (ps : List PutG) (v0 v1 v2 v3 : Nat × Nat) (ao : Option Addr) (nn cap : Nat) (w : World) :
    Calls Tryz.prog 119 #[msV ⟨8, p, o, t, c, n, wr, ps, v0, v1, v2, v3⟩ ao nn cap] w fun x w' => x = .returned (.tuple #[msV ⟨8, 0, 0, t, c, 0, false, [], z2, z2, z2, z2⟩ none 0 0, .bool true]) ∧ Below w.heap.size w w' := by
  have hst := fun (ad : Addr) (re im : Nat) (W : World) => run_store Tryz.prog W ad (.complex .f64 re im) .plain rfl
  go_enter Tryz.func119, Tryz.ntmps119
  go_wp2
  go_region
  go_wp2
  go_returns
  exact ⟨rfl, by first | exact (below3 _ _ _ _).drew | exact below3 _ _ _ _⟩

set_option maxHeartbeats 800000 in
theorem own_else (k p o t c n : Int) (wr : Bool) (ps : List PutG) (v0 v1 v2 v3 : Nat × Nat) (ao : Option Addr) (nn cap : Nat) (w : World)
    (h0 : (k == 0) = false) (h1 : (k == 1) = false) (h2 : (k == 2) = false) (h3 : (k == 3) = false) (h4 : (k == 4) = false) (h5 : (k == 5) = false) (h6 : (k == 6) = false) (h7 : (k == 7) = false) (h8 : (k == 8) = false) :
    Calls Tryz.prog 119 #[msV ⟨k, p, o, t, c, n, wr, ps, v0, v1, v2, v3⟩ ao nn cap] w fun x w' => x = .returned (.tuple #[msV ⟨0, 0, 0, 0, 0, 0, false, [], z2, z2, z2, z2⟩ none 0 0, .bool false]) ∧ Below w.heap.size w w' := by
  have hst := fun (ad : Addr) (re im : Nat) (W : World) => run_store Tryz.prog W ad (.complex .f64 re im) .plain rfl
  go_enter Tryz.func119, Tryz.ntmps119
  go_wp2
  go_returns
  exact ⟨rfl, below3 _ _ _ _⟩

theorem ownParts_any (M : Mg) (ao : Option Addr) (nn cap : Nat) (w : World) (h : RdP w ao nn cap M.ps) :
    Calls Tryz.prog 119 #[msV M ao nn cap] w fun x w' => ∃ a' n' c', x = .returned (.tuple #[msV (ownM M) a' n' c', .bool (thereB M.k)]) ∧ RdP w' a' n' c' (ownM M).ps ∧ n' ≤ nn ∧ Below w.heap.size w w' := by
  obtain ⟨k, p, o, t, c, n, wr, ps, v0, v1, v2, v3⟩ := M
  by_cases h0 : k = 0
  · subst h0; exact (own_0 p o t c n wr ps v0 v1 v2 v3 ao nn cap w).mono fun x w' hx => ⟨none, 0, 0, hx.1, RdP.none _, Nat.zero_le _, hx.2⟩
  by_cases h1 : k = 1
  · subst h1; exact (own_1 p o t c n wr ps v0 v1 v2 v3 ao nn cap w).mono fun x w' hx => ⟨none, 0, 0, hx.1, RdP.none _, Nat.zero_le _, hx.2⟩
  by_cases h2 : k = 2
  · subst h2; exact (own_2 p o t c n wr ps v0 v1 v2 v3 ao nn cap w).mono fun x w' hx => ⟨ao, nn, cap, hx.1, h.below hx.2, Nat.le_refl _, hx.2⟩
  by_cases h3 : k = 3
  · subst h3; exact (own_3 p o t c n wr ps v0 v1 v2 v3 ao nn cap w).mono fun x w' hx => ⟨none, 0, 0, hx.1, RdP.none _, Nat.zero_le _, hx.2⟩
  by_cases h4 : k = 4
  · subst h4; exact (own_4 p o t c n wr ps v0 v1 v2 v3 ao nn cap w).mono fun x w' hx => ⟨none, 0, 0, hx.1, RdP.none _, Nat.zero_le _, hx.2⟩
  by_cases h5 : k = 5
  · subst h5; exact (own_5 p o t c n wr ps v0 v1 v2 v3 ao nn cap w).mono fun x w' hx => ⟨none, 0, 0, hx.1, RdP.none _, Nat.zero_le _, hx.2⟩
  by_cases h6 : k = 6
  · subst h6; exact (own_6 p o t c n wr ps v0 v1 v2 v3 ao nn cap w).mono fun x w' hx => ⟨none, 0, 0, hx.1, RdP.none _, Nat.zero_le _, hx.2⟩
  by_cases h7 : k = 7
  · subst h7; exact (own_7 p o t c n wr ps v0 v1 v2 v3 ao nn cap w).mono fun x w' hx => ⟨none, 0, 0, hx.1, RdP.none _, Nat.zero_le _, hx.2⟩
  by_cases h8 : k = 8
  · subst h8; exact (own_8 p o t c n wr ps v0 v1 v2 v3 ao nn cap w).mono fun x w' hx => ⟨none, 0, 0, hx.1, RdP.none _, Nat.zero_le _, hx.2⟩
  have e : ownM ⟨k, p, o, t, c, n, wr, ps, v0, v1, v2, v3⟩ = ⟨0, 0, 0, 0, 0, 0, false, [], z2, z2, z2, z2⟩ := by simp [ownM, h0, h1, h2, h3, h4, h5, h6, h7, h8]
  have e2 : thereB k = false := by simp [thereB, h0, h1, h2, h3, h4, h5, h6, h7, h8]
  rw [e]
  simp only [e2]
  exact (own_else k p o t c n wr ps v0 v1 v2 v3 ao nn cap w (by simpa using h0) (by simpa using h1) (by simpa using h2) (by simpa using h3) (by simpa using h4) (by simpa using h5) (by simpa using h6) (by simpa using h7) (by simpa using h8)).mono fun x w' hx => ⟨none, 0, 0, hx.1, RdP.none _, Nat.zero_le _, hx.2⟩

set_option maxHeartbeats 800000 in
theorem right_any (M : Mg) (ao : Option Addr) (nn cap : Nat) (w : World) (h : RdP w ao nn cap M.ps) (hn : nn ≤ 140737488355328) :
    Calls Tryz.prog 86 #[msV M ao nn cap] w fun x w' => x = .returned (.bool (rightB M)) ∧ Below w.heap.size w w' := by
  have hst := fun (ad : Addr) (re im : Nat) (W : World) => run_store Tryz.prog W ad (.complex .f64 re im) .plain rfl
  have H1 : Hid (RdP w ao nn cap M.ps) := h
  have HB0 : Hid (RdP (w.alloc (msO M ao nn cap)) ao nn cap M.ps) := h.below (below_box _ _)
  clear h
  go_enter Tryz.func86, Tryz.ntmps86
  go_wp2_with (first
    | (go_at_call 121; refine (same_msg M (ownM M) ao a' nn n' cap c' _ (H1.out.below hB2) (HP.out _ hb2) hn).mono ?_; rintro x w3 ⟨rfl, hb3⟩; have hB3 : Below w.heap.size w w3 := below_step hB2 hb3; clear hb3)
    | (go_at_call 120; refine (within_any M ao nn cap _ (H1.out.below hBx)).mono ?_; rintro x w2 ⟨rfl, hb2⟩; have hB2 : Below w.heap.size w w2 := below_step hBx hb2; have t1 := (hMx.below hb2); have t2 := ((MgAt.new w1 (ownM M) a' n' c').below hb2); have q0 := t1.c0; have q1 := t1.c1; have q2 := t1.c2; have q3 := t1.c3; have q4 := t1.c4; have q5 := t1.c5; have q6 := t1.c6; have q7 := t1.c7; have q8 := t1.c8; have q9 := t1.c9; have qA := t1.cA; have qB := t1.cB; have r0 := t2.c0; have r1 := t2.c1; have r2 := t2.c2; have r3 := t2.c3; have r4 := t2.c4; have r5 := t2.c5; have r6 := t2.c6; have r7 := t2.c7; have r8 := t2.c8; have r9 := t2.c9; have rA := t2.cA; have rB := t2.cB; clear t1 t2)
    | (go_at_call 119; refine (ownParts_any M ao nn cap _ HB0.out).mono ?_; rintro x w1 ⟨a', n', c', rfl, hp, hn', hb1⟩; have hB1 : Below w.heap.size w w1 := below_alloc (hb1.mono (by simp)); have hBx : Below w.heap.size w (w1.alloc (msO (ownM M) a' n' c')) := hB1.alloc hB1.size _; have HP : Hid (∀ W, Below (w1.alloc (msO (ownM M) a' n' c')).heap.size (w1.alloc (msO (ownM M) a' n' c')) W → RdP W a' n' c' (ownM M).ps) := fun W hW => (hp.below (below_box w1 _)).below hW; have hMx : MgAt (w1.alloc (msO (ownM M) a' n' c')) w.heap.size M ao nn cap := ((MgAt.new w M ao nn cap).below hb1).below (below_box w1 _); have q0 := hMx.c0; have q1 := hMx.c1; have q2 := hMx.c2; have q3 := hMx.c3; have q4 := hMx.c4; have q5 := hMx.c5; have q6 := hMx.c6; have q7 := hMx.c7; have q8 := hMx.c8; have q9 := hMx.c9; have qA := hMx.cA; have qB := hMx.cB; clear hp hb1))
  all_goals
    go_ret
    refine ⟨ret_bool (by simp_all [rightB]), ?_⟩
    first | exact hB3 | exact hB2 | exact hBx

end Go.Proofs.YtpofihiojhbfgaaGreatDoor.Msg
