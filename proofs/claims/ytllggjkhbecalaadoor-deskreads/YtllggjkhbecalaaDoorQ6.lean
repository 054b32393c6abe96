/- Out and Gone of package queue, walked. -/
import Derived.Test.YtllggjkhbecalaaDoorQ5
namespace Go.Proofs.YtllggjkhbecalaaDoor
open Go.RowKit Go.Maps
set_option linter.unusedVariables false
set_option maxRecDepth 8000

/-- Is a holder out for something of a page? -/
def outP (C : Cl) (h p : Int) : Prop := ∃ k : Wt, C k = some false ∧ k.c = h ∧ k.p = p
open Classical in
noncomputable def outB (C : Cl) (h p : Int) : Bool := decide (outP C h p)

theorem outB_true {C : Cl} {h p : Int} (x : outP C h p) : outB C h p = true := by classical exact decide_eq_true x
theorem outB_false {C : Cl} {h p : Int} (x : ¬ outP C h p) : outB C h p = false := by classical exact decide_eq_false x

set_option maxHeartbeats 1600000 in
theorem out_any (w : World) (A : Nat → Prop) (q : Nat) (L : List Wt) (C : Cl) (n : Nat) (H : Qw w A q L C n) (h p : Int) :
    Calls Tryd.prog 52 #[qp q, .int .i64 h, .int .i64 p] w fun e w' => e = .returned (.bool (outB C h p)) ∧ Below w.heap.size w w' := by
  obtain ⟨ao, cap, b, H⟩ := H
  have h1 := H.c1
  have HM : Hid (MapC w b n C ∧ b < w.heap.size) := ⟨H.map, H.map.lt⟩
  clear H
  go_enter Tryd.func52, Tryd.ntmps52
  go_wp2_with (first
    | (at_range; refine wpList_range_C _ rfl _ rfl rfl HM.out.1 ?_; intro w1 cnt1 hr1 hb1 hs1)
    | fail)
  go_frame
  go_loopw [15] (fun _ wr => ∃ (lf : Wt → Bool) (cnt : Nat), Hid (RanC wr b w.heap.size n C lf cnt ∧ ∀ k, C k = some false → k.c = h → k.p = p → lf k = true) ∧ Below w.heap.size w wr) (fun _ wr => wr.rangeLeft b w.heap.size)
  case atStart => exact ⟨_, cnt1, ⟨hr1, fun k hk _ _ => by simp [hk]⟩, hb1⟩
  case round =>
    clear hr1 hb1 hs1
    obtain ⟨lf, cnt, HR, hbel⟩ := hrel
    rename World => wr
    go_wp2_with (first
      | (at_next; refine wpList_next_C _ rfl _ rfl rfl HR.out.1 ?_ ?_)
      | fail)
    · intro hl0
      have HL : Hid (∀ k, lf k = false) := hl0
      clear hl0
      go_wp2
      go_ret
      refine ⟨ret_bool (Eq.symm (outB_false ?_)), hbel⟩
      rintro ⟨k, hk1, hk2, hk3⟩
      have := HR.out.2 k hk1 hk2 hk3
      rw [HL.out k] at this
      cases this
    · intro k c w2 cnt2 hok hlf hc hcu hr2 hlt hg2 hs2 hen
      have HK : Hid (k.ok ∧ lf k = true ∧ C k = some (decide (c = 1)) ∧ (c = 0 ∨ c = 1) ∧ RanC w2 b w.heap.size n C (strike lf k) cnt2 ∧ cnt2 < cnt) := ⟨hok, hlf, hcu, hc, hr2, hlt⟩
      have hb2 : Below w.heap.size w w2 := hbel.grown hg2 hbel.size (fun j hj => by cases hj; exact Nat.le_refl _)
      have HQ : Hid (∀ j, C j = some false → j.c = h → j.p = p → lf j = true) := HR.out.2
      have HLt : Hid (wr.rangeLeft b w.heap.size = cnt) := HR.out.1.left_eq
      have HB2 : Hid (Below w.heap.size w w2 ∧ b < w.heap.size ∧ w.heap.size < w2.heap.size) := ⟨hb2, HM.out.2, hr2.lt⟩
      have HS : Hid (∀ V : World, Below w2.heap.size w2 V → (k.c ≠ h ∨ k.p ≠ p ∨ c = 1) → (RanC V b w.heap.size n C (strike lf k) cnt2 ∧ ∀ j, C j = some false → j.c = h → j.p = p → strike lf k j = true)) := fun V hV hne => by
        refine ⟨hr2.kept hV.size (hV.block _ (by have := HB2.out; omega)) (hV.block _ HB2.out.2.2), fun j h1 h2 h3 => ?_⟩
        unfold strike
        rw [HQ.out j h1 h2 h3]
        have : ¬ (j.c = k.c ∧ j.p = k.p ∧ j.o = k.o ∧ j.wr = k.wr) := by
          intro e
          have e' := wt_eq.1 e
          subst e'
          rw [hcu] at h1
          rcases hne with e1 | e1 | e1
          · exact e1 h2
          · exact e1 h3
          · rw [e1] at h1; cases h1
        simp [this]
      clear hok hlf hcu hr2 hlt hg2 hs2 hb2 HR
      obtain ⟨kc, kp, ko, kw⟩ := k
      simp only [wtV] at hen
      have hbA : Below w2.heap.size w2 (w2.alloc (caO ⟨kc, kp, ko, kw⟩)) := (Below.refl _ _).alloc (Nat.le_refl _) _
      have HBA : Hid (Below w2.heap.size w2 (w2.alloc (caO ⟨kc, kp, ko, kw⟩)) ∧ Below w.heap.size w (w2.alloc (caO ⟨kc, kp, ko, kw⟩))) := ⟨hbA, below_step HB2.out.1 hbA⟩
      clear hbA
      cases e1 : (kc == h)
      · have hn9 : kc ≠ h := by simpa using e1
        have HN : Hid (kc ≠ h) := hn9
        clear hn9
        clear hc
        go_wp2
        go_roundw
        case rel => exact ⟨_, cnt2, HS.out _ HBA.out.1 (.inl HN.out), HBA.out.2⟩
        case measure => rw [(HS.out _ HBA.out.1 (.inl HN.out)).1.left_eq, HLt.out]; exact HK.out.2.2.2.2.2
      · have hn9 : kc = h := by simpa using e1
        have HE1 : Hid (kc = h) := hn9
        clear hn9
        cases e2 : (kp == p)
        · have hn9 : kp ≠ p := by simpa using e2
          have HN : Hid (kp ≠ p) := hn9
          clear hn9
          clear hc
          go_wp2
          go_roundw
          case rel => exact ⟨_, cnt2, HS.out _ HBA.out.1 (.inr (.inl HN.out)), HBA.out.2⟩
          case measure => rw [(HS.out _ HBA.out.1 (.inr (.inl HN.out))).1.left_eq, HLt.out]; exact HK.out.2.2.2.2.2
        · have hn9 : kp = p := by simpa using e2
          have HE2 : Hid (kp = p) := hn9
          clear hn9
          rcases hc with hc0 | hc0
          · have hc1 : (c == 0) = true := by rw [hc0]; rfl
            have HO : Hid (outP C h p) := ⟨⟨kc, kp, ko, kw⟩, by rw [HK.out.2.2.1, hc0]; rfl, HE1.out, HE2.out⟩
            clear hc0
            go_wp2
            go_ret
            exact ⟨ret_bool (outB_true HO.out).symm, HBA.out.2⟩
          · have hc1 : (c == 0) = false := by rw [hc0]; rfl
            have HC1 : Hid (c = 1) := hc0
            clear hc0
            go_wp2
            go_roundw
            case rel => exact ⟨_, cnt2, HS.out _ HBA.out.1 (.inr (.inr HC1.out)), HBA.out.2⟩
            case measure => rw [(HS.out _ HBA.out.1 (.inr (.inr HC1.out))).1.left_eq, HLt.out]; exact HK.out.2.2.2.2.2

/-- The calls without those of a client that have come. -/
def goC (C : Cl) (c : Int) (lf : Wt → Bool) : Cl := fun j => if j.c = c ∧ lf j = false then none else C j
def goneC (C : Cl) (c : Int) : Cl := fun j => if j.c = c then none else C j

theorem goC_start (C : Cl) (c : Int) : goC C c (fun k => (C k).isSome) = C := by
  funext j
  unfold goC
  split
  · rename_i h
    cases hc : C j with
    | none => rfl
    | some u => simp only [hc] at h; exact absurd h.2 (by simp)
  · rfl
theorem goC_end (C : Cl) (c : Int) {lf : Wt → Bool} (h : ∀ k, lf k = false) : goC C c lf = goneC C c := by
  funext j
  unfold goC goneC
  simp [h j]
theorem goC_other (C : Cl) {c : Int} (lf : Wt → Bool) {k : Wt} (h : k.c ≠ c) : goC C c (strike lf k) = goC C c lf := by
  funext j
  unfold goC strike
  by_cases e : j.c = c
  · have : ¬ (j.c = k.c ∧ j.p = k.p ∧ j.o = k.o ∧ j.wr = k.wr) := fun e' => h (e'.1.symm.trans e)
    simp [this]
  · simp [e]
theorem goC_own (C : Cl) {c : Int} (lf : Wt → Bool) {k : Wt} (h : k.c = c) : (goC C c lf).set k none = goC C c (strike lf k) := by
  funext j
  unfold Cl.set goC strike
  by_cases e : j.c = k.c ∧ j.p = k.p ∧ j.o = k.o ∧ j.wr = k.wr
  · rw [if_pos e]
    rw [if_pos ⟨e.1.trans h, by simp [e]⟩]
  · rw [if_neg e]
    simp [e]

end Go.Proofs.YtllggjkhbecalaaDoor
