/- touched and releaseAll of package agent, walked. -/
import Derived.Test.YtmmgdmfdiaoegaaGreatA6
import Derived.Deep.MidRow
namespace Go.Proofs.YtmmgdmfdiaoegaaGreat
open Go.RowKit
set_option linter.unusedVariables false
set_option maxRecDepth 8000

def didL (d : Nat → De) : List Value := deC (d 0) ++ (deC (d 1) ++ (deC (d 2) ++ (deC (d 3) ++ (deC (d 4) ++ deC (d 5)))))
theorem agL_did (c : Nat) (pq ko : Option Addr) (kc : Nat) (s : As) : ∀ j, j < 36 → (agL c pq ko kc s)[3 + j]? = (didL s.d)[j]? := by
  intro j hj
  have e : agL c pq ko kc s = [cp c, .int .i64 s.t, .bool s.op] ++ (didL s.d ++ [.pointer pq, .slice ko s.K.length kc]) := by unfold agL didL; simp only [List.append_assoc]
  rw [e, List.getElem?_append_right (by simp)]
  simp only [List.length_cons, List.length_nil]
  rw [show 3 + j - (0 + 1 + 1 + 1) = j by omega, List.getElem?_append_left (by show j < 36; exact hj)]
theorem Ag.did {w : World} {A : Nat → Prop} {a c : Nat} {pq ko : Option Addr} {kc : Nat} {s : As} (h : Ag w A a c pq ko kc s) : w.rangeAt a 3 (didL s.d) := by
  intro j v hv
  have hj : j < 36 := (List.getElem?_eq_some_iff.1 hv).1
  exact h.cell _ _ ((agL_did c pq ko kc s j hj).trans hv)
theorem did_size : (Tryz.prog.info? 52).map (·.size) = some 36 := by kernel_rfl
theorem did_at (d : Nat → De) (k : Nat) (hk : k < 6) (W : World) : (Instr.index 52 (.agg (didL d).toArray) (.int .i64 (k : Int))).run Tryz.prog W = .ok (.agg #[.int .i64 ((d k).r : Int), .int .i64 ((d k).w : Int), .complex .f64 ((d k).v 0).1 ((d k).v 0).2, .complex .f64 ((d k).v 1).1 ((d k).v 1).2, .complex .f64 ((d k).v 2).1 ((d k).v 2).2, .complex .f64 ((d k).v 3).1 ((d k).v 3).2]) W := by
  rcases six hk with rfl | rfl | rfl | rfl | rfl | rfl <;> kernel_rfl

/-- The pages, below k, of which something was read or written. -/
def touL (d : Nat → De) : Nat → List Int
  | 0 => []
  | k + 1 => if (d k).r ||| (d k).w = 0 then touL d k else touL d k ++ [(k : Int)]
theorem touL_le (d : Nat → De) : ∀ k, (touL d k).length ≤ k
  | 0 => Nat.le_refl _
  | k + 1 => by
    have := touL_le d k
    unfold touL
    split
    · omega
    · simp; omega

set_option maxHeartbeats 1600000 in
theorem touched_any {w : World} {A : Nat → Prop} {a c : Nat} {pq ko : Option Addr} {kc : Nat} {s : As} (H : Ag w A a c pq ko kc s) : Calls Tryz.prog 79 #[cp a] w fun e w' => ∃ ao cap, e = .returned (.slice ao (touL s.d 6).length cap) ∧ RdI w' .i64 ao cap (touL s.d 6) ∧ Below w.heap.size w w' := by
  have hst := fun (ad : Addr) (re im : Nat) (W : World) => run_store Tryz.prog W ad (.complex .f64 re im) .plain rfl
  have HR : Hid (w.rangeAt a 3 (didL s.d) ∧ (Tryz.prog.info? 52).map (·.size) = some (didL s.d).length) := ⟨H.did, did_size⟩
  have HD : Hid (∀ p, (s.d p).r < 16 ∧ (s.d p).w < 16) := H.dm
  have HX : Hid (∀ (k : Nat) (hk : k < 6) (W : World), (Instr.index 52 (.agg (didL s.d).toArray) (.int .i64 (k : Int))).run Tryz.prog W = .ok (.agg #[.int .i64 ((s.d k).r : Int), .int .i64 ((s.d k).w : Int), .complex .f64 ((s.d k).v 0).1 ((s.d k).v 0).2, .complex .f64 ((s.d k).v 1).1 ((s.d k).v 1).2, .complex .f64 ((s.d k).v 2).1 ((s.d k).v 2).2, .complex .f64 ((s.d k).v 3).1 ((s.d k).v 3).2]) W) := did_at s.d
  clear H
  generalize didL s.d = DL at *
  generalize s.d = d at *
  go_enter Tryz.func79, Tryz.ntmps79
  go_wp2_with (first
    | (refine wpList_load_mid rfl 52 (.tmp 8) rfl a 3 rfl DL _ HR.out.1 Tryz.underlying52 rfl HR.out.2 ?_)
    | fail)
  go_loopw [3, 10] (fun t i wr => ∃ (k n : Nat) (lo : Option Addr) (lc : Nat), k ≤ 6 ∧ i = .int .i64 k ∧ t = .slice lo n lc ∧ Hid (n = (touL d k).length ∧ OwnI wr w.heap.size 3 .i64 lo lc (touL d k) ∧ Below w.heap.size w wr)) (fun _ i _ => 6 - (intOf i).toNat)
  case atStart => exact ⟨0, 0, none, 0, by omega, rfl, rfl, rfl, OwnI.nil _ _ _ _, Below.refl _ _⟩
  case round =>
    obtain ⟨k, n, lo, lc, hk, rfl, rfl, HI⟩ := hrel
    rename World => wr
    by_cases hlt : k < 6
    · have hix := HX.out k hlt
      have hk6 : (k : Int) < 6 := by omega
      have HT : Hid (∀ x, x = d k → touL d (k + 1) = if x.r ||| x.w = 0 then touL d k else touL d k ++ [(k : Int)]) := fun x hx => by subst hx; rfl
      have hn6 : n ≤ 6 := by have := touL_le d k; have := HI.out.1; omega
      have hb16 := HD.out k
      have HT2 := HT.out (d k) rfl
      clear HT
      generalize d k = x at *
      have HT3 : Hid (touL d (k + 1) = if x.r ||| x.w = 0 then touL d k else touL d k ++ [(k : Int)]) := HT2
      have hor := (or16c x.r hb16.1 x.w hb16.2).1
      clear HT2
      have HB : Hid (Below w.heap.size w (wr.alloc (deO x)) ∧ OwnI (wr.alloc (deO x)) w.heap.size 3 .i64 lo lc (touL d k)) := by
        have hbA : Below wr.heap.size wr (wr.alloc (deO x)) := (Below.refl _ _).alloc (Nat.le_refl _) _
        exact ⟨below_step HI.out.2.2 hbA, HI.out.2.1.below hbA⟩
      obtain ⟨m, hm⟩ : ∃ m, x.r ||| x.w = m := ⟨_, rfl⟩
      rw [hm] at HT3 hor
      clear hm hb16
      by_cases h0 : m = 0
      · subst h0
        go_wp2
        go_roundw
        case rel =>
          refine ⟨k + 1, n, lo, lc, by omega, by go_num, rfl, ?_, ?_, HB.out.1⟩
          · rw [HT3.out, if_pos rfl]; exact HI.out.1
          · rw [HT3.out, if_pos rfl]; exact HB.out.2
        case measure => simp [intOf]; omega
      · have hne : ((m : Int) != 0) = true := by simp; omega
        have HM : Hid (¬ m = 0) := h0
        clear h0
        have HNW : Hid ((wr.alloc (deO x)).heap[wr.heap.size]? = some (deO x)) := heap_alloc_new wr _
        go_upto_region 5 with fail
        show Code.wp _ _ _ _ (wr.alloc (deO x))
        obtain ⟨n5, hn5⟩ : ∃ n, wr.heap.size = n := ⟨_, rfl⟩
        rw [hn5] at HNW ⊢
        generalize wr.alloc (deO x) = W5 at *
        have d0 : W5.cell? ⟨n5, 0, none⟩ = some (.int .i64 (x.r : Int)) := by rw [cell_of_row _ _ _ _ _ _ HNW.out]; rfl
        have d1 : W5.cell? ⟨n5, 1, none⟩ = some (.int .i64 (x.w : Int)) := by rw [cell_of_row _ _ _ _ _ _ HNW.out]; rfl
        clear hn5
        go_wp2_with (first
          | (at_builtin; refine wpList_append_rdI _ rfl _ _ 101 rfl w.heap.size 3 .i64 _ 8 Tryz.underlying101 info3 rfl rfl rfl (HB.out.2.alloc _) (RdI.one W5 3 .i64 (k : Int)) HI.out.1.symm rfl (by omega) (by unfold maxLen; omega) (by have := HB.out.1.size; simp; omega) ?_; intro a3 c3 w3 ho3 hb3)
          | fail)
        go_roundw
        case rel =>
          refine ⟨k + 1, n + 1, a3, c3, by omega, by go_num, rfl, ?_, ?_, ?_⟩
          · rw [HT3.out, if_neg HM.out, List.length_append, ← HI.out.1]; rfl
          · rw [HT3.out, if_neg HM.out]; exact ho3
          · exact HB.out.1.trans (((Below.refl w.heap.size W5).alloc HB.out.1.size _).trans hb3)
        case measure => simp [intOf]; omega
    · obtain rfl : k = 6 := by omega
      go_wp2
      go_ret
      exact ⟨lo, lc, ret_slice HI.out.1, HI.out.2.1.rd, HI.out.2.2⟩

theorem releaseAll_any (p : Int) (w : World) : Calls Tryz.prog 80 #[.int .i64 p] w fun e w' => e = .returned (mgV ⟨3, p, 0, 0, 15, 15, false, [], z2, z2, z2, z2⟩) ∧ Below w.heap.size w w' := by
  have hst := fun (ad : Addr) (re im : Nat) (W : World) => run_store Tryz.prog W ad (.complex .f64 re im) .plain rfl
  go_enter Tryz.func80, Tryz.ntmps80
  go_wp2
  refine bodyPost_ret (by simp [results, Tryz.results80, go_sem]; try rfl) rfl ?_
  exact ⟨rfl, by go_grown⟩

end Go.Proofs.YtmmgdmfdiaoegaaGreat
