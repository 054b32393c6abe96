/- A queue in memory; New, isClient, isObject, inTheWay, callFor, place, All, Ahead, Reserved, walked. -/
import Derived.Test.YtllggjkhbecalaaDoorQm
import Derived.Deep.RegionHeld
import Derived.Handy
namespace Go.Proofs.YtllggjkhbecalaaDoor
open Go.RowKit Go.Maps
set_option linter.unusedVariables false
set_option maxRecDepth 8000

abbrev qp (q : Nat) : Value := .pointer (some ⟨q, 0, none⟩)

/-- A queue: block q leads to the wants L and to the map of the calls; A holds all three blocks. -/
structure Qu (w : World) (A : Nat → Prop) (q : Nat) (ao : Option Addr) (cap b : Nat) (L : List Wt) (C : Cl) (n : Nat) : Prop where
  blk : w.heap[q]? = some (.cells #[.slice ao L.length cap, .map (some b)] 77 (0, 0))
  own : OwR wtC 4 43 w ao cap L
  map : MapC w b n C
  aq : A q
  ab : A b
  ar : ∀ a, ao = some a → A a.block

section
variable {w w' : World} {A : Nat → Prop} {q : Nat} {ao : Option Addr} {cap b : Nat} {L : List Wt} {C : Cl} {n : Nat}
theorem Qu.lt (h : Qu w A q ao cap b L C n) : q < w.heap.size := (Array.getElem?_eq_some_iff.1 h.blk).1
theorem Qu.c0 (h : Qu w A q ao cap b L C n) : w.cell? ⟨q, 0, none⟩ = some (.slice ao L.length cap) := by rw [cell_of_row _ _ _ _ _ _ h.blk]; rfl
theorem Qu.c1 (h : Qu w A q ao cap b L C n) : w.cell? ⟨q, 1, none⟩ = some (.map (some b)) := by rw [cell_of_row _ _ _ _ _ _ h.blk]; rfl
theorem Qu.fz (h : Qu w A q ao cap b L C n) (j : Nat) : w.frozen? ⟨q, j, none⟩ = false := frozen_of_row _ _ _ _ _ h.blk
theorem Qu.ne (h : Qu w A q ao cap b L C n) : b ≠ q := by
  rintro rfl
  obtain ⟨es, cl, h1⟩ := h.map.blk
  rw [h.blk] at h1
  cases h1
theorem Qu.ner (h : Qu w A q ao cap b L C n) : ∀ a, ao = some a → a.block ≠ q ∧ a.block ≠ b := by
  intro a ha
  obtain ⟨_, cur, h1⟩ := h.own.lt a ha
  refine ⟨fun e => ?_, fun e => ?_⟩
  · rw [e, h.blk] at h1
    cases h1
  · obtain ⟨es, cl, h2⟩ := h.map.blk
    rw [e, h2] at h1
    cases h1
theorem Qu.keep (h : Qu w A q ao cap b L C n) (hk : ∀ k, A k → k < w.heap.size → w'.heap[k]? = w.heap[k]?) : Qu w' A q ao cap b L C n :=
  ⟨(hk q h.aq h.lt).trans h.blk, h.own.keep fun a ha hl => hk _ (h.ar a ha) hl, h.map.keep (hk b h.ab h.map.lt), h.aq, h.ab, h.ar⟩
theorem Qu.below (h : Qu w A q ao cap b L C n) (hb : Below w.heap.size w w') : Qu w' A q ao cap b L C n := h.keep fun k _ hk => hb.block k hk
theorem Qu.mono {B : Nat → Prop} (h : Qu w A q ao cap b L C n) (hB : ∀ k, k < w.heap.size → A k → B k) : Qu w B q ao cap b L C n :=
  ⟨h.blk, h.own, h.map, hB q h.lt h.aq, hB b h.map.lt h.ab, fun a ha => hB _ (h.own.lt a ha).1 (h.ar a ha)⟩
theorem Qu.tight (h : Qu w A q ao cap b L C n) : Qu w (fun k => A k ∧ k < w.heap.size) q ao cap b L C n := h.mono fun k hk ha => ⟨ha, hk⟩
theorem Qu.len (h : Qu w A q ao cap b L C n) : L.length ≤ cap := h.own.le
end

/-- Behind a step: the queue, and all else as it was. -/
def Qw (w : World) (A : Nat → Prop) (q : Nat) (L : List Wt) (C : Cl) (n : Nat) : Prop := ∃ ao cap b, Qu w A q ao cap b L C n
def Nx (w w' : World) (A : Nat → Prop) (q : Nat) (L : List Wt) (C : Cl) (n : Nat) : Prop := Qw w' (fun k => A k ∨ w.heap.size ≤ k) q L C n ∧ OffS A w w'

theorem Qw.below {w w' : World} {A : Nat → Prop} {q : Nat} {L : List Wt} {C : Cl} {n : Nat} (h : Qw w A q L C n) (hb : Below w.heap.size w w') : Qw w' A q L C n := by
  obtain ⟨ao, cap, b, h⟩ := h
  exact ⟨ao, cap, b, h.below hb⟩
theorem Qw.mono {w : World} {A B : Nat → Prop} {q : Nat} {L : List Wt} {C : Cl} {n : Nat} (h : Qw w A q L C n) (hB : ∀ k, k < w.heap.size → A k → B k) : Qw w B q L C n := by
  obtain ⟨ao, cap, b, h⟩ := h
  exact ⟨ao, cap, b, h.mono hB⟩
theorem Qw.keep {w w' : World} {A : Nat → Prop} {q : Nat} {L : List Wt} {C : Cl} {n : Nat} (h : Qw w A q L C n) (hk : ∀ k, A k → k < w.heap.size → w'.heap[k]? = w.heap[k]?) : Qw w' A q L C n := by
  obtain ⟨ao, cap, b, h⟩ := h
  exact ⟨ao, cap, b, h.keep hk⟩
theorem Qw.le {w : World} {A : Nat → Prop} {q : Nat} {L : List Wt} {C : Cl} {n m : Nat} (h : Qw w A q L C n) (hm : n ≤ m) : Qw w A q L C m := by
  obtain ⟨ao, cap, b, h⟩ := h
  obtain ⟨D, h1, h2⟩ := h.map
  exact ⟨ao, cap, b, ⟨h.blk, h.own, ⟨D, h1.mono hm, h2⟩, h.aq, h.ab, h.ar⟩⟩

theorem wtIn (x : Wt) (w : World) (g o : Nat) (h : ∀ j u, (wtC x)[j]? = some u → w.cell? ⟨g, o + j, none⟩ = some u) : w.cell? ⟨g, o, none⟩ = some (.int .i64 x.c) ∧ w.cell? ⟨g, o + 1, none⟩ = some (.int .i64 x.p) ∧ w.cell? ⟨g, o + 2, none⟩ = some (.int .i64 x.o) ∧ w.cell? ⟨g, o + 3, none⟩ = some (.bool x.wr) :=
  ⟨h 0 _ rfl, h 1 _ rfl, h 2 _ rfl, h 3 _ rfl⟩

/-! ### Short ones -/

def cliB (c : Int) : Bool := decide (0 ≤ c ∧ c < 4)
def objB (p o : Int) : Bool := decide (0 ≤ p ∧ p < 6 ∧ 0 ≤ o ∧ o < 4)

theorem ret_int {k : IntKind} {a b : Int} (h : a = b) : Ending.returned (.int k a) = .returned (.int k b) := by rw [h]
theorem ret_bool {a b : Bool} (h : a = b) : Ending.returned (.bool a) = .returned (.bool b) := by rw [h]

theorem isClient_any (c : Int) (w : World) : Calls Tryd.prog 30 #[.int .i64 c] w fun e w' => e = .returned (.bool (cliB c)) ∧ w' = w := by
  have e : cliB c = (decide (0 ≤ c) && decide (c < 4)) := by simp [cliB]
  have HE : Hid (cliB c = (decide (0 ≤ c) && decide (c < 4))) := e
  clear e
  cases hd : decide (0 ≤ c)
  all_goals
    have h' := hd
    simp only [decide_eq_true_eq, decide_eq_false_iff_not] at h'
    go_enter Tryd.func30, Tryd.ntmps30
    go_wp2
    go_ret
    exact ⟨ret_bool (by rw [HE.out, hd]; rfl), rfl⟩

theorem isObject_any (p o : Int) (w : World) : Calls Tryd.prog 31 #[.int .i64 p, .int .i64 o] w fun e w' => e = .returned (.bool (objB p o)) ∧ w' = w := by
  have e : objB p o = (decide (0 ≤ p) && (decide (p < 6) && (decide (0 ≤ o) && decide (o < 4)))) := by simp [objB]
  have HE : Hid (objB p o = (decide (0 ≤ p) && (decide (p < 6) && (decide (0 ≤ o) && decide (o < 4))))) := e
  clear e
  cases hd : decide (0 ≤ p)
  all_goals cases hd2 : decide (p < 6)
  all_goals cases hd3 : decide (0 ≤ o)
  all_goals
    have h' := hd
    have h2' := hd2
    have h3' := hd3
    simp only [decide_eq_true_eq, decide_eq_false_iff_not] at h' h2' h3'
    go_enter Tryd.func31, Tryd.ntmps31
    go_wp2
    go_ret
    exact ⟨ret_bool (by rw [HE.out]; simp only [hd, hd2, hd3, Bool.true_and, Bool.false_and]), rfl⟩

def wayB (a b : Wt) : Bool := a.p == b.p && (a.o == b.o && (!(a.c == b.c) && (a.wr || b.wr)))

theorem way_any (a b : Wt) (w : World) : Calls Tryd.prog 41 #[wtV a, wtV b] w fun e w' => e = .returned (.bool (wayB a b)) ∧ Below w.heap.size w w' := by
  obtain ⟨a0, a1, a2, a3⟩ := a
  obtain ⟨b0, b1, b2, b3⟩ := b
  have HE : Hid (wayB ⟨a0, a1, a2, a3⟩ ⟨b0, b1, b2, b3⟩ = (a1 == b1 && (a2 == b2 && (!(a0 == b0) && (a3 || b3))))) := rfl
  simp only [wtV]
  cases h1 : (a1 == b1)
  · go_enter Tryd.func41, Tryd.ntmps41
    go_wp2
    go_ret
    exact ⟨ret_bool (by rw [HE.out, h1]; rfl), by go_grown⟩
  cases h2 : (a2 == b2)
  · go_enter Tryd.func41, Tryd.ntmps41
    go_wp2
    go_ret
    exact ⟨ret_bool (by rw [HE.out, h1, h2]; rfl), by go_grown⟩
  cases h3 : (a0 == b0)
  · have h3' : (a0 != b0) = true := by simp [bne, h3]
    cases a3
    all_goals
      go_enter Tryd.func41, Tryd.ntmps41
      go_wp2
      go_ret
      exact ⟨ret_bool (by rw [HE.out, h1, h2, h3]; rfl), by go_grown⟩
  · have h3' : (a0 != b0) = false := by simp [bne, h3]
    go_enter Tryd.func41, Tryd.ntmps41
    go_wp2
    go_ret
    exact ⟨ret_bool (by rw [HE.out, h1, h2, h3]; rfl), by go_grown⟩

theorem callFor_any (h : Int) (x : Wt) (w : World) : Calls Tryd.prog 36 #[.int .i64 h, wtV x] w fun e w' => e = .returned (wtV ⟨h, x.p, x.o, x.wr⟩) ∧ Below w.heap.size w w' := by
  go_enter Tryd.func36, Tryd.ntmps36
  go_wp2
  go_returns
  exact ⟨rfl, by go_grown⟩

theorem eq_any (x : Wt) (c : Int) (g : Nat) (w : World) (hc : w.cell? ⟨g, 0, none⟩ = some (.int .i64 c)) : Calls Tryd.prog 45 #[wtV x, .pointer (some ⟨g, 0, none⟩)] w fun e w' => e = .returned (.bool (x.c == c)) ∧ Below w.heap.size w w' := by
  have hg := World.block_lt_of_cell? w _ hc
  have hc' : (w.alloc (wtO x)).cell? ⟨g, 0, none⟩ = some (.int .i64 c) := (((Below.refl _ _).alloc (Nat.le_refl _) _ : Below w.heap.size w (w.alloc (wtO x))).cell hg).trans hc
  go_enter Tryd.func45, Tryd.ntmps45
  go_wp2
  go_ret
  exact ⟨rfl, by go_grown⟩

/-- Where a client's want stands; -1: nowhere. -/
def plN (L : List Wt) (c : Int) : Nat := L.findIdx (fun x => x.c == c)
def plZ (L : List Wt) (c : Int) : Int := if plN L c < L.length then (plN L c : Int) else -1

theorem index_any (ao : Option Addr) (n cap : Nat) (L : List Wt) (c : Int) (g : Nat) (w : World) (hL : RdR wtC w ao cap L) (hn : L.length = n) (hl : n ≤ 1000000) (hc : w.cell? ⟨g, 0, none⟩ = some (.int .i64 c)) :
    Calls Tryd.prog 44 #[.slice ao n cap, .func (.func 45) #[] #[.pointer (some ⟨g, 0, none⟩)]] w fun e w' => e = .returned (.int .i64 (plZ L c)) ∧ Below w.heap.size w w' := by
  have HL : Hid (RdR wtC w ao cap L ∧ L.length = n) := ⟨hL, hn⟩
  have HC : Hid (w.cell? ⟨g, 0, none⟩ = some (.int .i64 c)) := hc
  clear hL hn hc
  go_enter Tryd.func44, Tryd.ntmps44
  go_wp2
  go_loopw [8] (fun i wr => ∃ k : Nat, k ≤ n ∧ i = .int .i64 k ∧ Below w.heap.size w wr ∧ Hid (∀ t (h : t < L.length), t < k → (L[t].c == c) = false)) (fun i _ => n - (intOf i).toNat)
  case atStart => exact ⟨0, Nat.zero_le _, rfl, Below.refl _ _, fun _ _ h => absurd h (by omega)⟩
  case round =>
    obtain ⟨k, hk, rfl, hbel, HI⟩ := hrel
    rename World => wr
    by_cases hlt : k < n
    · have hkl : k < L.length := by have := HL.out.2; omega
      have hbl := HL.out.1.below hbel
      obtain ⟨bk, off, rfl, -, hcc⟩ := hbl.at wtE hkl
      obtain ⟨z0, z1, z2, z3⟩ := wtIn _ _ _ _ hcc
      have hcg : wr.cell? ⟨g, 0, none⟩ = some (.int .i64 c) := (hbel.cell (World.block_lt_of_cell? w _ HC.out)).trans HC.out
      have HQ : Hid ((∀ t (h : t < L.length), t < k → (L[t].c == c) = false) ∧ ((L[k].c == c) = true → plZ L c = k) ∧ ((L[k].c == c) = false → ∀ t (h : t < L.length), t < k + 1 → (L[t].c == c) = false)) := by
        refine ⟨HI.out, fun h => ?_, fun h t ht hk => ?_⟩
        · have e : plN L c = k := by
            unfold plN
            rw [List.findIdx_eq hkl]
            exact ⟨h, fun j hj => HI.out j (by omega) hj⟩
          unfold plZ
          rw [e, if_pos hkl]
        · by_cases e : t = k
          · subst e; exact h
          · exact HI.out t ht (by omega)
      clear hcc hbl HI
      generalize L[k] = x at *
      have e0' : decide ((k : Int) < n) = true := by simp; omega
      cases hx : (x.c == c)
      · go_wp2_with (first
          | (go_at_call 45; refine (eq_any x c g _ hcg).mono ?_; rintro e w1 ⟨rfl, hb1⟩)
          | fail)
        go_roundw
        case rel => exact ⟨k + 1, by omega, by go_num, below_step hbel hb1, HQ.out.2.2 hx⟩
        case measure => simp [intOf]; omega
      · go_wp2_with (first
          | (go_at_call 45; refine (eq_any x c g _ hcg).mono ?_; rintro e w1 ⟨rfl, hb1⟩)
          | fail)
        go_ret
        exact ⟨ret_int (HQ.out.2.1 hx).symm, below_step hbel hb1⟩
    · obtain rfl : k = n := by omega
      go_wp2
      go_ret
      refine ⟨ret_int (Eq.symm ?_), hbel⟩
      have e : ¬ plN L c < L.length := by
        intro h
        have h1 := List.findIdx_getElem (w := h)
        have h2 := HI.out (plN L c) h (by have := HL.out.2; omega)
        unfold plN at h1 h2
        rw [h2] at h1
        cases h1
      unfold plZ
      rw [if_neg e]

theorem place_any (w : World) (A : Nat → Prop) (q : Nat) (ao : Option Addr) (cap b : Nat) (L : List Wt) (C : Cl) (n : Nat) (H : Qu w A q ao cap b L C n) (hl : L.length ≤ 1000000) (c : Int) :
    Calls Tryd.prog 32 #[qp q, .int .i64 c] w fun e w' => e = .returned (.int .i64 (plZ L c)) ∧ Below w.heap.size w w' := by
  have hmf : ∀ (fn : Fn) (first cap : Array Value) (w : World), (Instr.makeFunc fn first cap).run Tryd.prog w = .ok (.func fn first cap) w := fun _ _ _ _ => rfl
  have hb0 : Below w.heap.size w (w.alloc (.cells #[.int .i64 c] 3)) := (Below.refl _ _).alloc (Nat.le_refl _) _
  have h0 := (H.below hb0).c0
  have HI : Hid (Calls Tryd.prog 44 #[.slice ao L.length cap, .func (.func 45) #[] #[.pointer (some ⟨w.heap.size, 0, none⟩)]] (w.alloc (.cells #[.int .i64 c] 3)) fun e w' => e = .returned (.int .i64 (plZ L c)) ∧ Below w.heap.size w w') := by
    refine (index_any ao L.length cap L c w.heap.size _ (H.below hb0).own.rd rfl hl (by rw [cell_of_row _ _ _ _ _ _ (heap_alloc_new w _)]; rfl)).mono ?_
    rintro e w' ⟨rfl, hb⟩
    exact ⟨rfl, below_step hb0 hb⟩
  clear hb0
  go_enter Tryd.func32, Tryd.ntmps32
  go_wp2_with (first
    | (go_at_call 44; refine HI.out.mono ?_; rintro e w1 ⟨rfl, hb1⟩)
    | fail)
  go_ret
  exact ⟨rfl, hb1⟩

end Go.Proofs.YtllggjkhbecalaaDoor
