/- isPage, isMask, has, New, place, Copies, Own of package cache, walked; IndexFunc with its closures. -/
import Derived.Test.YtmmgdmfdiaoegaaGreatC0
import Derived.Deep.RegionHeld
import Derived.Handy
import Derived.BigQuiet
import Derived.Deep.DeepCutAuto
namespace Go.Proofs.YtmmgdmfdiaoegaaGreat
open Go.RowKit
set_option linter.unusedVariables false
set_option maxRecDepth 8000

theorem ret_int {k : IntKind} {a b : Int} (h : a = b) : Ending.returned (.int k a) = .returned (.int k b) := by rw [h]
theorem ret_bool {a b : Bool} (h : a = b) : Ending.returned (.bool a) = .returned (.bool b) := by rw [h]

def pgB (p : Int) : Bool := decide (0 ≤ p ∧ p < 6)
def mkB (m : Int) : Bool := decide (0 ≤ m ∧ m ≤ 15)
def hasB (m : Nat) (o : Int) : Bool := decide (0 ≤ o ∧ o < 4) && m.testBit o.toNat

theorem shr16 : ∀ m < 16, ∀ o < 4, (bits .and .i64 (((m : Nat) : Int) / 2 ^ o) 1 == 1) = m.testBit o := by decide +kernel

theorem isPage_any (c : Int) (w : World) : Calls Tryz.prog 95 #[.int .i64 c] w fun e w' => e = .returned (.bool (pgB c)) ∧ w' = w := by
  have HE : Hid (pgB c = (decide (0 ≤ c) && decide (c < 6))) := by unfold Hid; simp [pgB]
  cases hd : decide (0 ≤ c)
  all_goals
    have h' := hd
    simp only [decide_eq_true_eq, decide_eq_false_iff_not] at h'
    go_enter Tryz.func95, Tryz.ntmps95
    go_wp2
    go_ret
    exact ⟨ret_bool (by rw [HE.out, hd]; rfl), rfl⟩

theorem isMask_any (c : Int) (w : World) : Calls Tryz.prog 84 #[.int .i64 c] w fun e w' => e = .returned (.bool (mkB c)) ∧ w' = w := by
  have HE : Hid (mkB c = (decide (0 ≤ c) && decide (c ≤ 15))) := by unfold Hid; simp [mkB]
  cases hd : decide (0 ≤ c)
  all_goals
    have h' := hd
    simp only [decide_eq_true_eq, decide_eq_false_iff_not] at h'
    go_enter Tryz.func84, Tryz.ntmps84
    go_wp2
    go_ret
    exact ⟨ret_bool (by rw [HE.out, hd]; rfl), rfl⟩

theorem has_nat (m o : Nat) (hm : m < 16) (ho : o < 4) (w : World) : Calls Tryz.prog 99 #[.int .i64 (m : Int), .int .i64 (o : Int)] w fun e w' => e = .returned (.bool (m.testBit o)) ∧ w' = w := by
  go_enter Tryz.func99, Tryz.ntmps99
  go_wp2
  go_ret
  exact ⟨ret_bool (shr16 m hm o ho), rfl⟩

theorem has_any (m : Nat) (o : Int) (hm : m < 16) (w : World) : Calls Tryz.prog 99 #[.int .i64 (m : Int), .int .i64 o] w fun e w' => e = .returned (.bool (hasB m o)) ∧ w' = w := by
  by_cases h : 0 ≤ o ∧ o < 4
  · obtain ⟨k, rfl⟩ : ∃ k : Nat, o = (k : Int) := ⟨o.toNat, by omega⟩
    refine (has_nat m k hm (by omega) w).mono ?_
    rintro e w' ⟨rfl, h2⟩
    exact ⟨ret_bool (by simp [hasB]; omega), h2⟩
  · have HE : Hid (hasB m o = false) := by unfold Hid; simp [hasB, h]
    by_cases h0 : 0 ≤ o
    · have h4 : ¬ o < 4 := by omega
      go_enter Tryz.func99, Tryz.ntmps99
      go_wp2
      go_ret
      exact ⟨ret_bool HE.out.symm, rfl⟩
    · go_enter Tryz.func99, Tryz.ntmps99
      go_wp2
      go_ret
      exact ⟨ret_bool HE.out.symm, rfl⟩

/-- A page's place; -1: nowhere. -/
def plN (L : List En) (p : Int) : Nat := L.findIdx (fun x => (x.p : Int) == p)
def plZ (L : List En) (p : Int) : Int := if plN L p < L.length then (plN L p : Int) else -1
/-- The place of the first that isn't to be kept. -/
def inB (ks : List Int) (p : Int) : Bool := ks.any (fun k => p == k)
def goN (L : List En) (ks : List Int) : Nat := L.findIdx (fun x => !inB ks x.p)
def goZ (L : List En) (ks : List Int) : Int := if goN L ks < L.length then (goN L ks : Int) else -1

theorem eq_any (x : En) (c : Int) (g : Nat) (w : World) (hc : w.cell? ⟨g, 0, none⟩ = some (.int .i64 c)) : Calls Tryz.prog 102 #[enV x, .pointer (some ⟨g, 0, none⟩)] w fun e w' => e = .returned (.bool ((x.p : Int) == c)) ∧ Below w.heap.size w w' := by
  have hst := fun (ad : Addr) (re im : Nat) (W : World) => run_store Tryz.prog W ad (.complex .f64 re im) .plain rfl
  have hg := World.block_lt_of_cell? w _ hc
  have hc' : (w.alloc (enO x)).cell? ⟨g, 0, none⟩ = some (.int .i64 c) := (((Below.refl _ _).alloc (Nat.le_refl _) _ : Below w.heap.size w (w.alloc (enO x))).cell hg).trans hc
  go_enter Tryz.func102, Tryz.ntmps102
  go_wp2
  go_ret
  exact ⟨rfl, by go_grown⟩

theorem ixI_any (ao : Option Addr) (n cap : Nat) (zs : List Int) (z : Int) (w : World) (hz : RdI w .i64 ao cap zs) (hn : zs.length = n) (hl : n ≤ 9223372036854775807) :
    Calls Tryz.prog 94 #[.slice ao n cap, .int .i64 z] w fun e w' => (∃ y, e = .returned (.int .i64 y) ∧ decide (0 ≤ y) = inB zs z) ∧ w' = w := by
  have HL : Hid (RdI w .i64 ao cap zs ∧ zs.length = n) := ⟨hz, hn⟩
  clear hz hn
  go_enter Tryz.func94, Tryz.ntmps94
  go_wp2
  go_loopw [8] (fun i wr => ∃ k : Nat, k ≤ n ∧ i = .int .i64 k ∧ wr = w ∧ Hid (∀ t (h : t < zs.length), t < k → (z == zs[t]) = false)) (fun i _ => n - (intOf i).toNat)
  case atStart => exact ⟨0, Nat.zero_le _, rfl, rfl, fun _ _ h => absurd h (by omega)⟩
  case round =>
    obtain ⟨k, hk, rfl, rfl, HI⟩ := hrel
    by_cases hlt : k < n
    · have hkl : k < zs.length := by have := HL.out.2; omega
      obtain ⟨bk, off, rfl, -, hcc⟩ := HL.out.1.at hkl
      have hd := hcc k hkl
      have HQ : Hid ((∀ t (h : t < zs.length), t < k → (z == zs[t]) = false) ∧ ((z == zs[k]) = true → inB zs z = true) ∧ ((z == zs[k]) = false → ∀ t (h : t < zs.length), t < k + 1 → (z == zs[t]) = false)) := by
        refine ⟨HI.out, fun h => ?_, fun h t ht hk => ?_⟩
        · exact List.any_eq_true.2 ⟨zs[k], List.getElem_mem hkl, h⟩
        · by_cases e : t = k
          · subst e; exact h
          · exact HI.out t ht (by omega)
      clear HI hcc
      generalize zs[k] = x at *
      have e0' : decide ((k : Int) < n) = true := by simp; omega
      cases hx : (z == x)
      · go_wp2
        go_roundw
        case rel => exact ⟨k + 1, by omega, by go_num, by trivial, HQ.out.2.2 hx⟩
        case measure => simp [intOf]; omega
      · go_wp2
        go_ret
        exact ⟨⟨_, rfl, by rw [HQ.out.2.1 hx]; simp⟩, rfl⟩
    · obtain rfl : k = n := by omega
      go_wp2
      go_ret
      refine ⟨⟨_, rfl, ?_⟩, rfl⟩
      have : inB zs z = false := by
        rw [inB, List.any_eq_false]
        intro x hx
        obtain ⟨t, ht, rfl⟩ := List.getElem_of_mem hx
        have := HI.out t ht (by have := HL.out.2; omega)
        simp [this]
      rw [this]
      rfl

theorem contains_any (ao : Option Addr) (n cap : Nat) (zs : List Int) (z : Int) (w : World) (hz : RdI w .i64 ao cap zs) (hn : zs.length = n) (hl : n ≤ 9223372036854775807) :
    Calls Tryz.prog 77 #[.slice ao n cap, .int .i64 z] w fun e w' => e = .returned (.bool (inB zs z)) ∧ w' = w := by
  have HI : Hid (Calls Tryz.prog 94 #[.slice ao n cap, .int .i64 z] w fun e w' => (∃ y, e = .returned (.int .i64 y) ∧ decide (0 ≤ y) = inB zs z) ∧ w' = w) := ixI_any ao n cap zs z w hz hn hl
  clear hz hn
  go_enter Tryz.func77, Tryz.ntmps77
  go_wp2_with (first
    | (go_at_call 94; refine HI.out.mono ?_; rintro e w1 ⟨⟨y, rfl, hy⟩, hw⟩; subst w1)
    | fail)
  go_ret
  exact ⟨ret_bool (by rw [← hy]), rfl⟩

theorem out_any (x : En) (ka : Option Addr) (kn kc : Nat) (ks : List Int) (g : Nat) (w : World) (hk : RdI w .i64 ka kc ks) (hn : ks.length = kn) (hc : w.cell? ⟨g, 0, none⟩ = some (.slice ka kn kc)) (hl : kn ≤ 9223372036854775807) : Calls Tryz.prog 110 #[enV x, .pointer (some ⟨g, 0, none⟩)] w fun e w' => e = .returned (.bool (!inB ks x.p)) ∧ Below w.heap.size w w' := by
  have hst := fun (ad : Addr) (re im : Nat) (W : World) => run_store Tryz.prog W ad (.complex .f64 re im) .plain rfl
  have hg := World.block_lt_of_cell? w _ hc
  have hb : Below w.heap.size w (w.alloc (enO x)) := (Below.refl _ _).alloc (Nat.le_refl _) _
  have hc' : (w.alloc (enO x)).cell? ⟨g, 0, none⟩ = some (.slice ka kn kc) := (hb.cell hg).trans hc
  have HC : Hid (Calls Tryz.prog 77 #[.slice ka kn kc, .int .i64 (x.p : Int)] (w.alloc (enO x)) fun e w' => e = .returned (.bool (inB ks x.p)) ∧ w' = w.alloc (enO x)) := contains_any ka kn kc ks x.p _ (hk.below hb) hn hl
  clear hk hn hb
  generalize inB ks x.p = b at *
  go_enter Tryz.func110, Tryz.ntmps110
  go_wp2_with (first
    | (go_at_call 77; refine HC.out.mono ?_; rintro e w1 ⟨rfl, hw⟩; subst w1)
    | fail)
  go_ret
  exact ⟨rfl, by go_grown⟩

theorem index_any (ao : Option Addr) (n cap : Nat) (L : List En) (c : Int) (g : Nat) (w : World) (hL : RdR enC w ao cap L) (hn : L.length = n) (hl : n ≤ 1000000) (hc : w.cell? ⟨g, 0, none⟩ = some (.int .i64 c)) :
    Calls Tryz.prog 101 #[.slice ao n cap, .func (.func 102) #[] #[.pointer (some ⟨g, 0, none⟩)]] w fun e w' => e = .returned (.int .i64 (plZ L c)) ∧ Below w.heap.size w w' := by
  have HL : Hid (RdR enC w ao cap L ∧ L.length = n) := ⟨hL, hn⟩
  have HC : Hid (w.cell? ⟨g, 0, none⟩ = some (.int .i64 c)) := hc
  clear hc
  clear hL hn
  go_enter Tryz.func101, Tryz.ntmps101
  go_wp2
  go_loopw [8] (fun i wr => ∃ k : Nat, k ≤ n ∧ i = .int .i64 k ∧ Below w.heap.size w wr ∧ Hid (∀ t (h : t < L.length), t < k → ((L[t].p : Int) == c) = false)) (fun i _ => n - (intOf i).toNat)
  case atStart => exact ⟨0, Nat.zero_le _, rfl, Below.refl _ _, fun _ _ h => absurd h (by omega)⟩
  case round =>
    obtain ⟨k, hk, rfl, hbel, HI⟩ := hrel
    rename World => wr
    by_cases hlt : k < n
    · have hkl : k < L.length := by have := HL.out.2; omega
      have hbl := HL.out.1.below hbel
      obtain ⟨bk, off, rfl, -, hcc⟩ := hbl.at enE hkl
      obtain ⟨z0, z1, z2, z3, z4, z5, z6⟩ := enIn _ _ _ _ hcc
      have HQ : Hid ((∀ t (h : t < L.length), t < k → ((L[t].p : Int) == c) = false) ∧ (((L[k].p : Int) == c) = true → plZ L c = k) ∧ (((L[k].p : Int) == c) = false → ∀ t (h : t < L.length), t < k + 1 → ((L[t].p : Int) == c) = false)) := by
        refine ⟨HI.out, fun h => ?_, fun h t ht hk => ?_⟩
        · have e : plN L c = k := by
            unfold plN
            rw [List.findIdx_eq hkl]
            exact ⟨h, fun j hj => HI.out j (by omega) hj⟩
          unfold plZ
          rw [e, if_pos hkl]
        · by_cases e : t = k
          · subst e; exact h
          · exact HI.out t ht (by omega)
      have HX : Hid (∀ x, Calls Tryz.prog 102 #[enV x, .pointer (some ⟨g, 0, none⟩)] wr fun e w' => e = .returned (.bool ((x.p : Int) == c)) ∧ Below wr.heap.size wr w') := by
        intro x
        exact eq_any x c g wr ((hbel.cell (World.block_lt_of_cell? w _ HC.out)).trans HC.out)
      clear hcc hbl HI
      generalize L[k] = x at *
      have e0' : decide ((k : Int) < n) = true := by simp; omega
      cases hx : ((x.p : Int) == c)
      · go_wp2_with (first
          | (go_at_call 102; refine (HX.out x).mono ?_; rw [hx]; rintro e w1 ⟨rfl, hb1⟩)
          | fail)
        go_roundw
        case rel => exact ⟨k + 1, by omega, by go_num, below_step hbel hb1, HQ.out.2.2 hx⟩
        case measure => simp [intOf]; omega
      · go_wp2_with (first
          | (go_at_call 102; refine (HX.out x).mono ?_; rw [hx]; rintro e w1 ⟨rfl, hb1⟩)
          | fail)
        go_ret
        exact ⟨ret_int (HQ.out.2.1 hx).symm, below_step hbel hb1⟩
    · obtain rfl : k = n := by omega
      go_wp2
      go_ret
      refine ⟨ret_int (Eq.symm ?_), hbel⟩
      have e : ¬ plN L c < L.length := by
        intro h
        have h1 := List.findIdx_getElem (w := h)
        have h2 := HI.out (plN L c) h (by have := HL.out.2; omega)
        unfold plN at h1 h2
        rw [h2] at h1
        cases h1
      unfold plZ
      rw [if_neg e]

theorem indexo_any (ao : Option Addr) (n cap : Nat) (L : List En) (ka : Option Addr) (kn kc : Nat) (ks : List Int) (g : Nat) (w : World) (hL : RdR enC w ao cap L) (hn : L.length = n) (hl : n ≤ 1000000) (hk : RdI w .i64 ka kc ks) (hkn : ks.length = kn) (hc : w.cell? ⟨g, 0, none⟩ = some (.slice ka kn kc)) (hkl : kn ≤ 9223372036854775807) :
    Calls Tryz.prog 101 #[.slice ao n cap, .func (.func 110) #[] #[.pointer (some ⟨g, 0, none⟩)]] w fun e w' => e = .returned (.int .i64 (goZ L ks)) ∧ Below w.heap.size w w' := by
  have HL : Hid (RdR enC w ao cap L ∧ L.length = n) := ⟨hL, hn⟩
  have HC : Hid (w.cell? ⟨g, 0, none⟩ = some (.slice ka kn kc) ∧ RdI w .i64 ka kc ks ∧ ks.length = kn ∧ kn ≤ 9223372036854775807) := ⟨hc, hk, hkn, hkl⟩
  clear hc hk hkn hkl
  clear hL hn
  go_enter Tryz.func101, Tryz.ntmps101
  go_wp2
  go_loopw [8] (fun i wr => ∃ k : Nat, k ≤ n ∧ i = .int .i64 k ∧ Below w.heap.size w wr ∧ Hid (∀ t (h : t < L.length), t < k → (!inB ks L[t].p) = false)) (fun i _ => n - (intOf i).toNat)
  case atStart => exact ⟨0, Nat.zero_le _, rfl, Below.refl _ _, fun _ _ h => absurd h (by omega)⟩
  case round =>
    obtain ⟨k, hk, rfl, hbel, HI⟩ := hrel
    rename World => wr
    by_cases hlt : k < n
    · have hkl : k < L.length := by have := HL.out.2; omega
      have hbl := HL.out.1.below hbel
      obtain ⟨bk, off, rfl, -, hcc⟩ := hbl.at enE hkl
      obtain ⟨z0, z1, z2, z3, z4, z5, z6⟩ := enIn _ _ _ _ hcc
      have HQ : Hid ((∀ t (h : t < L.length), t < k → (!inB ks L[t].p) = false) ∧ ((!inB ks L[k].p) = true → goZ L ks = k) ∧ ((!inB ks L[k].p) = false → ∀ t (h : t < L.length), t < k + 1 → (!inB ks L[t].p) = false)) := by
        refine ⟨HI.out, fun h => ?_, fun h t ht hk => ?_⟩
        · have e : goN L ks = k := by
            unfold goN
            rw [List.findIdx_eq hkl]
            exact ⟨h, fun j hj => HI.out j (by omega) hj⟩
          unfold goZ
          rw [e, if_pos hkl]
        · by_cases e : t = k
          · subst e; exact h
          · exact HI.out t ht (by omega)
      have HX : Hid (∀ x, Calls Tryz.prog 110 #[enV x, .pointer (some ⟨g, 0, none⟩)] wr fun e w' => e = .returned (.bool (!inB ks x.p)) ∧ Below wr.heap.size wr w') := by
        intro x
        exact out_any x ka kn kc ks g wr (HC.out.2.1.below hbel) HC.out.2.2.1 ((hbel.cell (World.block_lt_of_cell? w _ HC.out.1)).trans HC.out.1) HC.out.2.2.2
      clear hcc hbl HI
      generalize L[k] = x at *
      have e0' : decide ((k : Int) < n) = true := by simp; omega
      cases hx : (!inB ks x.p)
      · go_wp2_with (first
          | (go_at_call 110; refine (HX.out x).mono ?_; rw [hx]; rintro e w1 ⟨rfl, hb1⟩)
          | fail)
        go_roundw
        case rel => exact ⟨k + 1, by omega, by go_num, below_step hbel hb1, HQ.out.2.2 hx⟩
        case measure => simp [intOf]; omega
      · go_wp2_with (first
          | (go_at_call 110; refine (HX.out x).mono ?_; rw [hx]; rintro e w1 ⟨rfl, hb1⟩)
          | fail)
        go_ret
        exact ⟨ret_int (HQ.out.2.1 hx).symm, below_step hbel hb1⟩
    · obtain rfl : k = n := by omega
      go_wp2
      go_ret
      refine ⟨ret_int (Eq.symm ?_), hbel⟩
      have e : ¬ goN L ks < L.length := by
        intro h
        have h1 := List.findIdx_getElem (w := h)
        have h2 := HI.out (goN L ks) h (by have := HL.out.2; omega)
        unfold goN at h1 h2
        rw [h2] at h1
        cases h1
      unfold goZ
      rw [if_neg e]

theorem place_any (w : World) (A : Nat → Prop) (c : Nat) (room : Int) (ao : Option Addr) (cap : Nat) (L : List En) (H : Ca w A c room ao cap L) (hl : L.length ≤ 1000000) (p : Int) :
    Calls Tryz.prog 83 #[cp c, .int .i64 p] w fun e w' => e = .returned (.int .i64 (plZ L p)) ∧ Below w.heap.size w w' := by
  have hmf : ∀ (fn : Fn) (first cap : Array Value) (w : World), (Instr.makeFunc fn first cap).run Tryz.prog w = .ok (.func fn first cap) w := fun _ _ _ _ => rfl
  have hb0 : Below w.heap.size w (w.alloc (.cells #[.int .i64 p] 3)) := (Below.refl _ _).alloc (Nat.le_refl _) _
  have h0 := (H.below hb0).c1
  have HI : Hid (Calls Tryz.prog 101 #[.slice ao L.length cap, .func (.func 102) #[] #[.pointer (some ⟨w.heap.size, 0, none⟩)]] (w.alloc (.cells #[.int .i64 p] 3)) fun e w' => e = .returned (.int .i64 (plZ L p)) ∧ Below w.heap.size w w') := by
    refine (index_any ao L.length cap L p w.heap.size _ (H.below hb0).own.rd rfl hl (by rw [cell_of_row _ _ _ _ _ _ (heap_alloc_new w _)]; rfl)).mono ?_
    rintro e w' ⟨rfl, hb⟩
    exact ⟨rfl, below_step hb0 hb⟩
  clear hb0 H
  go_enter Tryz.func83, Tryz.ntmps83
  go_wp2_with (first
    | (go_at_call 101; refine HI.out.mono ?_; rintro e w1 ⟨rfl, hb1⟩)
    | fail)
  go_ret
  exact ⟨rfl, hb1⟩

def cpN (L : List En) (p : Int) : Nat := (L[plN L p]?.map (·.c)).getD 0
def owN (L : List En) (p : Int) : Nat := (L[plN L p]?.map (·.o)).getD 0

theorem copies_any (w : World) (A : Nat → Prop) (c : Nat) (room : Int) (ao : Option Addr) (cap : Nat) (L : List En) (H : Ca w A c room ao cap L) (hl : L.length ≤ 1000000) (p : Int) :
    Calls Tryz.prog 100 #[cp c, .int .i64 p] w fun e w' => e = .returned (.int .i64 ((cpN L p : Nat) : Int)) ∧ Below w.heap.size w w' := by
  have HP : Hid (Calls Tryz.prog 83 #[cp c, .int .i64 p] w fun e w' => e = .returned (.int .i64 (plZ L p)) ∧ Below w.heap.size w w') := place_any w A c room ao cap L H hl p
  by_cases hk0 : plN L p < L.length
  · have hz : plZ L p = (plN L p : Int) := if_pos hk0
    obtain ⟨k, hkk⟩ : ∃ k, plN L p = k := ⟨_, rfl⟩
    have hk : k < L.length := hkk ▸ hk0
    have HG : Hid ((cpN L p : Nat) = L[k].c) := by unfold Hid cpN; rw [hkk, List.getElem?_eq_getElem hk]; rfl
    rw [hz, hkk] at HP
    have HL : Hid (Ca w A c room ao cap L) := H
    clear H hkk hz hk0
    obtain ⟨n, hn⟩ : ∃ n, L.length = n := ⟨_, rfl⟩
    have hkn : k < n := by omega
    have hln : n ≤ 1000000 := by omega
    have HN : Hid (L.length = n) := hn
    go_enter Tryz.func100, Tryz.ntmps100
    go_upto_region 4 with (first
      | (go_at_call 83; refine HP.out.mono ?_; rintro e w1 ⟨rfl, hb1⟩)
      | fail)
    have H1 := HL.out.below hb1
    have h1 := H1.c1
    obtain ⟨bk, off, rfl, -, hcc⟩ := H1.own.rd.at enE hk
    obtain ⟨z0, z1, z2, -⟩ := enIn _ _ _ _ hcc
    rw [HN.out] at h1
    clear hcc H1 hn
    generalize L[k] = x at *
    clear hk hl
    go_wp2
    go_ret
    exact ⟨ret_int (by rw [HG.out]), hb1⟩
  · have hz : plZ L p = -1 := if_neg hk0
    rw [hz] at HP
    have HG : Hid ((cpN L p : Nat) = 0) := by unfold Hid cpN; rw [List.getElem?_eq_none (by omega)]; rfl
    clear H hz hk0
    go_enter Tryz.func100, Tryz.ntmps100
    go_wp2_with (first
      | (go_at_call 83; refine HP.out.mono ?_; rintro e w1 ⟨rfl, hb1⟩)
      | fail)
    go_ret
    exact ⟨ret_int (by rw [HG.out]; rfl), hb1⟩

theorem own_any (w : World) (A : Nat → Prop) (c : Nat) (room : Int) (ao : Option Addr) (cap : Nat) (L : List En) (H : Ca w A c room ao cap L) (hl : L.length ≤ 1000000) (p : Int) :
    Calls Tryz.prog 63 #[cp c, .int .i64 p] w fun e w' => e = .returned (.int .i64 ((owN L p : Nat) : Int)) ∧ Below w.heap.size w w' := by
  have HP : Hid (Calls Tryz.prog 83 #[cp c, .int .i64 p] w fun e w' => e = .returned (.int .i64 (plZ L p)) ∧ Below w.heap.size w w') := place_any w A c room ao cap L H hl p
  by_cases hk0 : plN L p < L.length
  · have hz : plZ L p = (plN L p : Int) := if_pos hk0
    obtain ⟨k, hkk⟩ : ∃ k, plN L p = k := ⟨_, rfl⟩
    have hk : k < L.length := hkk ▸ hk0
    have HG : Hid ((owN L p : Nat) = L[k].o) := by unfold Hid owN; rw [hkk, List.getElem?_eq_getElem hk]; rfl
    rw [hz, hkk] at HP
    have HL : Hid (Ca w A c room ao cap L) := H
    clear H hkk hz hk0
    obtain ⟨n, hn⟩ : ∃ n, L.length = n := ⟨_, rfl⟩
    have hkn : k < n := by omega
    have hln : n ≤ 1000000 := by omega
    have HN : Hid (L.length = n) := hn
    go_enter Tryz.func63, Tryz.ntmps63
    go_upto_region 4 with (first
      | (go_at_call 83; refine HP.out.mono ?_; rintro e w1 ⟨rfl, hb1⟩)
      | fail)
    have H1 := HL.out.below hb1
    have h1 := H1.c1
    obtain ⟨bk, off, rfl, -, hcc⟩ := H1.own.rd.at enE hk
    obtain ⟨z0, z1, z2, -⟩ := enIn _ _ _ _ hcc
    rw [HN.out] at h1
    clear hcc H1 hn
    generalize L[k] = x at *
    clear hk hl
    go_wp2
    go_ret
    exact ⟨ret_int (by rw [HG.out]), hb1⟩
  · have hz : plZ L p = -1 := if_neg hk0
    rw [hz] at HP
    have HG : Hid ((owN L p : Nat) = 0) := by unfold Hid owN; rw [List.getElem?_eq_none (by omega)]; rfl
    clear H hz hk0
    go_enter Tryz.func63, Tryz.ntmps63
    go_wp2_with (first
      | (go_at_call 83; refine HP.out.mono ?_; rintro e w1 ⟨rfl, hb1⟩)
      | fail)
    go_ret
    exact ⟨ret_int (by rw [HG.out]; rfl), hb1⟩

def roomZ (many : Int) : Int := min (max many 1) 6

theorem new_any (many : Int) (w : World) : Calls Tryz.prog 14 #[.int .i64 many] w fun e w' => e = .returned (cp w.heap.size) ∧ Cw w' (fun k => w.heap.size ≤ k) w.heap.size (roomZ many) [] ∧ Below w.heap.size w w' := by
  go_enter Tryz.func14, Tryz.ntmps14
  go_wp2
  all_goals go_ret
  all_goals refine ⟨rfl, ⟨none, 0, ⟨?_, OwR.nil 135 _, Nat.le_refl _, fun a h => by cases h⟩⟩, by go_grown⟩
  all_goals first
    | (rw [show roomZ many = 1 by unfold roomZ; omega]; exact heap_alloc_new w _)
    | (rw [show roomZ many = 6 by unfold roomZ; omega]; exact heap_alloc_new w _)
    | (rw [show roomZ many = many by unfold roomZ; omega]; exact heap_alloc_new w _)

end Go.Proofs.YtmmgdmfdiaoegaaGreat
