/- live of package host: the sessions that are there, as an iterator; pumpFresh and Tick over it. pumpFresh and Tick of package host, walked over the iterator. Tick of package host without a session, walked over the iterator. pumpFresh of package host where something was said, walked over the iterator. -/
import Derived.RangeFuncNested
import Derived.RangeFuncBound
import Derived.RangeFuncCalls
import Derived.RangeFuncLeaves
import Derived.Shelf.Abstract
import Derived.Shelf.RegionOpen
import Derived.WalkKit
import Derived.OwnWalkIn
import Derived.TacticsInMore
import Derived.LoopNIn
import Derived.LoopIn
import Derived.Test.YtpofihiojhbfgaaGreatDoorE1
import Derived.Test.YtpofihiojhbfgaaGreatDoorC2
namespace Go.Proofs.YtpofihiojhbfgaaGreatDoor
open Go.RowKit Go.Shelf
set_option linter.unusedVariables false
set_option maxRecDepth 8000

attribute [local go_sem] Oper.semAt_some

abbrev Lv (ss : Nat → Option Addr) := { x : Nat × Addr // ss x.1 = some x.2 ∧ x.1 < 4 }
def upS (ss : Nat → Option Addr) : Nat → List (Lv ss)
  | 0 => []
  | k + 1 => match h : ss k with
    | some a => if hk : k < 4 then upS ss k ++ [⟨(k, a), h, hk⟩] else upS ss k
    | none => upS ss k
theorem upS_some {ss : Nat → Option Addr} {k : Nat} {a : Addr} (h : ss k = some a) (hk : k < 4) : upS ss (k + 1) = upS ss k ++ [⟨(k, a), h, hk⟩] := by
  rw [upS]
  split
  · rename_i b hb
    have e : b = a := by rw [h] at hb; cases hb; rfl
    subst e
    rw [dif_pos hk]
  · rename_i hb
    rw [h] at hb
    cases hb
theorem upS_none {ss : Nat → Option Addr} {k : Nat} (h : ss k = none) : upS ss (k + 1) = upS ss k := by
  rw [upS]
  split
  · rename_i b hb
    rw [h] at hb
    cases hb
  · rfl
theorem upS_len (ss : Nat → Option Addr) : ∀ k, (upS ss k).length ≤ k
  | 0 => Nat.le_refl _
  | k + 1 => by
    have := upS_len ss k
    cases h : ss k with
    | none => rw [upS_none h]; omega
    | some a =>
      by_cases hk : k < 4
      · rw [upS_some h hk]; simp; omega
      · rw [upS]
        split
        · rw [dif_neg hk]; omega
        · omega
abbrev enS {ss : Nat → Option Addr} (x : Lv ss) : Array Value := #[.int .i64 (x.1.1 : Int), .pointer (some x.1.2)]
def Kh (h b : Nat) (W W' : World) : Prop := W'.heap[h]? = W.heap[h]? ∧ W'.heap[b]? = W.heap[b]?

set_option maxRecDepth 100000 in
set_option maxHeartbeats 4000000 in
theorem live1_in (n : Nat) (hn : 1 ≤ n) (l h b : Nat) (ss : Nat → Option Addr) (J Jx : List (Lv ss) → World → Prop)
    (hY : ∀ pre x W, J pre W → pre.length < 4 → YieldAt Fence.wide (n - 1) Tryz.prog l (enS x) W fun e W' => (e = .returned (.bool true) ∧ J (pre ++ [x]) W' ∧ Kh h b W W') ∨ (e = .returned (.bool false) ∧ Jx (pre ++ [x]) W'))
    (W : World) (hb : W.cell? ⟨b, 0, none⟩ = some (tp h)) (hc : ∀ k, k < 4 → W.cell? ⟨h, 4 + k, none⟩ = some (.pointer (ss k))) (h0 : J [] W) :
    CallsIn Fence.wide n Tryz.prog 39 #[.func (.yield l) #[] #[], .pointer (some ⟨b, 0, none⟩)] W fun e W' => (∃ v, e = .returned v) ∧ ((∃ xs, xs = upS ss 4 ∧ J xs W') ∨ (∃ pre, True ∧ Jx pre W')) := by
  refine callsIn_of_wp Tryz.func39 rfl trivial ?_ rfl
  simp only [Tryz.ntmps39, List.size_toArray, List.length_cons, List.length_nil, Nat.reduceAdd, Nat.reduceSub, Array.replicate_succ, Array.replicate_zero, List.push_toArray, List.append_toArray, List.nil_append, List.cons_append]
  have HY := hidOf hY
  clear hY
  gi_wp2
  gi_loopw [5] (fun i wr => ∃ k : Nat, k ≤ 4 ∧ i = .int .i64 (k : Int) ∧ Kh h b W wr ∧ J (upS ss k) wr) (fun i _ => 4 - (intOf i).toNat)
  case atStart => exact ⟨0, by omega, rfl, ⟨rfl, rfl⟩, h0⟩
  case round =>
    obtain ⟨k, hk, rfl, hK, hJ⟩ := hrel
    rename World => wr
    clear h0
    have hb' : wr.cell? ⟨b, 0, none⟩ = some (tp h) := (World.cell?_of_block (w := W) (w' := wr) (a := ⟨b, 0, none⟩) hK.2).trans hb
    have hc' : k < 4 → wr.cell? ⟨h, 4 + k, none⟩ = some (.pointer (ss k)) := fun hk => (World.cell?_of_block (w := W) (w' := wr) (a := ⟨h, 4 + k, none⟩) hK.1).trans (hc k hk)
    have hl := upS_len ss k
    by_cases h4 : k = 4
    · subst h4
      clear hc' hl
      gi_wp2
      go_end0
      exact ⟨⟨_, rfl⟩, .inl ⟨_, rfl, hJ⟩⟩
    · have HJ := hidOf (show Kh h b W wr ∧ J (upS ss k) wr ∧ (upS ss k).length < 4 from ⟨hK, hJ, by omega⟩)
      have hcc := hc' (by omega)
      clear hJ hl hc' hc hb hK
      have hk4 : k = 0 ∨ k = 1 ∨ k = 2 ∨ k = 3 := by omega
      rcases hk4 with rfl | rfl | rfl | rfl
      · simp only [Nat.reduceAdd] at hcc
        cases hs : ss 0 with
        | none =>
          rw [hs] at hcc
          have HN := hidOf (show J (upS ss 1) wr from by rw [upS_none hs]; exact HJ.out.2.1)
          gi_wp2
          refine ⟨fun _ h => (by cases h), ?_⟩
          gi_wp2
          go_roundw
          case rel => exact ⟨1, by omega, rfl, HJ.out.1, HN.out⟩
          case measure => simp [intOf]
        | some a =>
          rw [hs] at hcc
          obtain ⟨fn, tmps, assign, body, hy0, hR⟩ := HY.out (upS ss 0) ⟨(0, a), hs, by omega⟩ wr HJ.out.2.1 HJ.out.2.2
          have hy : (Instr.yield l #[.int .i64 0, .pointer (some a)]).run Tryz.prog wr = .ok (.round l fn tmps assign body) wr := hy0
          clear hy0
          gi_wp2
          refine hR.mono ?_
          rintro e W3 (⟨rfl, hJ3, hk3⟩ | ⟨rfl, hJx3⟩)
          · gi_wp2
            go_roundw
            case rel => exact ⟨1, by omega, rfl, ⟨hk3.1.trans HJ.out.1.1, hk3.2.trans HJ.out.1.2⟩, by rw [upS_some hs (by omega)]; exact hJ3⟩
            case measure => simp [intOf]
          · gi_wp2
            refine bodyPost_ret (results_none rfl _ _ _) rfl ?_
            exact ⟨⟨_, rfl⟩, .inr ⟨_, trivial, hJx3⟩⟩
      · simp only [Nat.reduceAdd] at hcc
        cases hs : ss 1 with
        | none =>
          rw [hs] at hcc
          have HN := hidOf (show J (upS ss 2) wr from by rw [upS_none hs]; exact HJ.out.2.1)
          gi_wp2
          refine ⟨fun _ h => (by cases h), ?_⟩
          gi_wp2
          go_roundw
          case rel => exact ⟨2, by omega, rfl, HJ.out.1, HN.out⟩
          case measure => simp [intOf]
        | some a =>
          rw [hs] at hcc
          obtain ⟨fn, tmps, assign, body, hy0, hR⟩ := HY.out (upS ss 1) ⟨(1, a), hs, by omega⟩ wr HJ.out.2.1 HJ.out.2.2
          have hy : (Instr.yield l #[.int .i64 1, .pointer (some a)]).run Tryz.prog wr = .ok (.round l fn tmps assign body) wr := hy0
          clear hy0
          gi_wp2
          refine hR.mono ?_
          rintro e W3 (⟨rfl, hJ3, hk3⟩ | ⟨rfl, hJx3⟩)
          · gi_wp2
            go_roundw
            case rel => exact ⟨2, by omega, rfl, ⟨hk3.1.trans HJ.out.1.1, hk3.2.trans HJ.out.1.2⟩, by rw [upS_some hs (by omega)]; exact hJ3⟩
            case measure => simp [intOf]
          · gi_wp2
            refine bodyPost_ret (results_none rfl _ _ _) rfl ?_
            exact ⟨⟨_, rfl⟩, .inr ⟨_, trivial, hJx3⟩⟩
      · simp only [Nat.reduceAdd] at hcc
        cases hs : ss 2 with
        | none =>
          rw [hs] at hcc
          have HN := hidOf (show J (upS ss 3) wr from by rw [upS_none hs]; exact HJ.out.2.1)
          gi_wp2
          refine ⟨fun _ h => (by cases h), ?_⟩
          gi_wp2
          go_roundw
          case rel => exact ⟨3, by omega, rfl, HJ.out.1, HN.out⟩
          case measure => simp [intOf]
        | some a =>
          rw [hs] at hcc
          obtain ⟨fn, tmps, assign, body, hy0, hR⟩ := HY.out (upS ss 2) ⟨(2, a), hs, by omega⟩ wr HJ.out.2.1 HJ.out.2.2
          have hy : (Instr.yield l #[.int .i64 2, .pointer (some a)]).run Tryz.prog wr = .ok (.round l fn tmps assign body) wr := hy0
          clear hy0
          gi_wp2
          refine hR.mono ?_
          rintro e W3 (⟨rfl, hJ3, hk3⟩ | ⟨rfl, hJx3⟩)
          · gi_wp2
            go_roundw
            case rel => exact ⟨3, by omega, rfl, ⟨hk3.1.trans HJ.out.1.1, hk3.2.trans HJ.out.1.2⟩, by rw [upS_some hs (by omega)]; exact hJ3⟩
            case measure => simp [intOf]
          · gi_wp2
            refine bodyPost_ret (results_none rfl _ _ _) rfl ?_
            exact ⟨⟨_, rfl⟩, .inr ⟨_, trivial, hJx3⟩⟩
      · simp only [Nat.reduceAdd] at hcc
        cases hs : ss 3 with
        | none =>
          rw [hs] at hcc
          have HN := hidOf (show J (upS ss 4) wr from by rw [upS_none hs]; exact HJ.out.2.1)
          gi_wp2
          refine ⟨fun _ h => (by cases h), ?_⟩
          gi_wp2
          go_roundw
          case rel => exact ⟨4, by omega, rfl, HJ.out.1, HN.out⟩
          case measure => simp [intOf]
        | some a =>
          rw [hs] at hcc
          obtain ⟨fn, tmps, assign, body, hy0, hR⟩ := HY.out (upS ss 3) ⟨(3, a), hs, by omega⟩ wr HJ.out.2.1 HJ.out.2.2
          have hy : (Instr.yield l #[.int .i64 3, .pointer (some a)]).run Tryz.prog wr = .ok (.round l fn tmps assign body) wr := hy0
          clear hy0
          gi_wp2
          refine hR.mono ?_
          rintro e W3 (⟨rfl, hJ3, hk3⟩ | ⟨rfl, hJx3⟩)
          · gi_wp2
            go_roundw
            case rel => exact ⟨4, by omega, rfl, ⟨hk3.1.trans HJ.out.1.1, hk3.2.trans HJ.out.1.2⟩, by rw [upS_some hs (by omega)]; exact hJ3⟩
            case measure => simp [intOf]
          · gi_wp2
            refine bodyPost_ret (results_none rfl _ _ _) rfl ?_
            exact ⟨⟨_, rfl⟩, .inr ⟨_, trivial, hJx3⟩⟩

theorem live_any (h : Nat) (w : World) : Calls Tryz.prog 19 #[tp h] w fun e w' => e = .returned (.func (.func 39) #[] #[.pointer (some ⟨w.heap.size, 0, none⟩)]) ∧ w' = w.alloc (.cells #[tp h] 22) := by
  have hmf : ∀ (fn : Fn) (first cap : Array Value) (w : World), (Instr.makeFunc fn first cap).run Tryz.prog w = .ok (.func fn first cap) w := fun _ _ _ _ => rfl
  go_enter Tryz.func19, Tryz.ntmps19
  go_wp2
  go_ret
  exact ⟨rfl, rfl⟩

theorem live_stops (n : Nat) (hn : 1 ≤ n) (h b : Nat) (ss : Nat → Option Addr) (w : World) (hb : w.cell? ⟨b, 0, none⟩ = some (tp h)) (hc : ∀ k, k < 4 → w.cell? ⟨h, 4 + k, none⟩ = some (.pointer (ss k))) :
    SeqStopsK Fence.wide n Tryz.prog 39 #[.pointer (some ⟨b, 0, none⟩)] (enS (ss := ss)) (Kh h b) (fun xs => xs = upS ss 4) (fun _ => True) 4 w := by
  intro l J Jx W hW hJ hJx hY h0
  have hbl := World.block_lt_of_cell? w _ hb
  refine live1_in n hn l h b ss J Jx hY W ((hW.cell (p := ⟨b, 0, none⟩) hbl).trans hb) (fun k hk => ?_) h0
  have hhl := World.block_lt_of_cell? w _ (hc k hk)
  exact (hW.cell (p := ⟨h, 4 + k, none⟩) hhl).trans (hc k hk)

end Go.Proofs.YtpofihiojhbfgaaGreatDoor

namespace Go.Proofs.YtpofihiojhbfgaaGreatDoor
open Go.RowKit Go.Shelf
set_option linter.unusedVariables false
set_option maxRecDepth 8000

attribute [local go_sem] Oper.semAt_some

def ss1 (s1 : Option Addr) (k : Nat) : Option Addr := if k = 1 then s1 else none
theorem ss1_cells {w : World} {h : Nat} {bo pa : Int} {gs d : Nat} {s1 : Option Addr} {e1 : Int} {co : Value} (H : Hc w h bo pa gs d s1 e1 co) : ∀ k, k < 4 → w.cell? ⟨h, 4 + k, none⟩ = some (.pointer (ss1 s1 k)) := by
  intro k hk
  have hk4 : k = 0 ∨ k = 1 ∨ k = 2 ∨ k = 3 := by omega
  rcases hk4 with rfl | rfl | rfl | rfl
  · exact H.c4
  · exact H.c5
  · exact H.c6
  · exact H.c7
theorem Lv.one {t : Nat} (x : Lv (ss1 (some ⟨t, 0, none⟩))) : x.1 = (1, ⟨t, 0, none⟩) := by
  obtain ⟨⟨k, a⟩, h, hk⟩ := x
  have h' : (if k = 1 then some (⟨t, 0, none⟩ : Addr) else none) = some a := h
  by_cases e : k = 1
  · rw [if_pos e] at h'
    cases h'
    show (k, _) = (1, _)
    rw [e]
  · rw [if_neg e] at h'
    cases h'
theorem Lv.no (x : Lv (ss1 none)) : False := by
  obtain ⟨⟨k, a⟩, h, hk⟩ := x
  have h' : (if k = 1 then (none : Option Addr) else none) = some a := h
  rw [ite_self] at h'
  cases h'
theorem Kh.trans {h b : Nat} {A B C : World} (k1 : Kh h b A B) (k2 : Kh h b B C) : Kh h b A C := ⟨k2.1.trans k1.1, k2.2.trans k1.2⟩
theorem Kh.put {h b : Nat} {w : World} (hh : h < w.heap.size) (hb : b < w.heap.size) (W : World) (l : Nat) (o o' : Obj) (hl : w.heap.size ≤ l) (_ : W.heap[l]? = some o) (_ : o.isCells = false) (_ : o.isWalk = false) : Kh h b W (W.putObj l o') :=
  ⟨World.putObj_heap_other (fun e => by omega), World.putObj_heap_other (fun e => by omega)⟩

theorem own_blk {β : Type} (B k : Nat) (o : Obj) (ho : o.isCells = true) : OwnFrom B (fun (_ : β) W => W.heap[k]? = some o) := by
  intro s W W' row hs hg hr
  refine (hg.block k (Array.getElem?_eq_some_iff.1 hs).1 fun e => ?_).trans hs
  obtain ⟨-, o', h1, h2⟩ := hr k e.symm
  rw [hs] at h1
  cases h1
  rw [ho] at h2
  cases h2
theorem two_box (w : World) (o1 o2 : Obj) : ((w.alloc o1).alloc o2).heap[w.heap.size]? = some o1 ∧ ((w.alloc o1).alloc o2).heap[w.heap.size + 1]? = some o2 ∧ Below w.heap.size w ((w.alloc o1).alloc o2) := al2n w o1 o2
theorem box_c {W : World} {k : Nat} {v : Value} {ty : TypeId} (h : W.heap[k]? = some (.cells #[v] ty)) : W.cell? ⟨k, 0, none⟩ = some v ∧ W.frozen? ⟨k, 0, none⟩ = false := ⟨by rw [cell_of_row _ _ _ _ _ _ h]; rfl, frozen_of_row _ _ _ _ _ h⟩

set_option maxRecDepth 100000 in
set_option maxHeartbeats 4000000 in
theorem pf_no {w : World} {h t : Nat} {bo pa : Int} {gs d : Nat} {e1 : Int} {co : Value} (hH : w.heap[h]? = some (hoO bo pa gs d (some ⟨t, 0, none⟩) e1 co)) (hf : w.cell? ⟨t, 4, none⟩ = some (.bool false)) :
    Calls Tryz.prog 26 #[tp h] w fun e w' => e = .returned (.slice none 0 0) ∧ Below w.heap.size w w' := by
  refine (callsIn_wide (n := 6)).1 ?_
  refine callsIn_of_wp_marks Tryz.func26 rfl trivial ?_ rfl
  simp only [Tryz.ntmps26, List.size_toArray, List.length_cons, List.length_nil, Nat.reduceAdd, Nat.reduceSub, Array.replicate_succ, Array.replicate_zero, List.push_toArray, List.append_toArray, List.nil_append, List.cons_append]
  have hhl := (Array.getElem?_eq_some_iff.1 hH).1
  have htl : t < w.heap.size := World.block_lt_of_cell? w _ hf
  have HH := hidOf hH
  have HF := hidOf hf
  clear hH hf
  gi_wp2_with (refine ⟨trivial, ?_⟩; gi_at_call 19; refine (callsIn_wide.2 (live_any h _)).mono ?_; rintro e w' ⟨rfl, rfl⟩)
  obtain ⟨hs, hb, hB0⟩ := two_box w (.cells #[.slice none 0 0] 28) (.cells #[tp h] 22)
  refine wpIn_rangeFunc_ownF (F := Fence.wide) (n := 6) (ps := #[8, 9]) rfl (by omega) (gf := 39) (lb := #[.pointer (some ⟨w.heap.size + 1, 0, none⟩)]) rfl trivial (enters_of Tryz.func39 (by kernel_rfl) rfl)
    (live_stops 5 (by omega) h (w.heap.size + 1) (ss1 (some ⟨t, 0, none⟩)) _ (box_c hb).1 (ss1_cells (ho_cells ((hB0.block h hhl).trans HH.out)))) Kh.trans (Kh.put (by simp; omega) (by simp)) (Below.refl _ _) (fun _ => rfl)
    (fun pre W => W.heap[w.heap.size]? = some (.cells #[.slice none 0 0] 28) ∧ Below w.heap.size w W)
    (fun _ _ _ => False)
    (OwnFrom.and (own_blk _ _ _ rfl) (ownFrom_below (Nat.le_refl _) (by simp; omega)))
    (fun _ _ _ _ _ hs _ _ => hs)
    ⟨hs, hB0⟩
    (fun x => { tmps := #[tp h, undef, .slice none 0 0, .pointer (some ⟨w.heap.size, 0, none⟩), undef, .pointer (some x.1.2), tp h, .func (.func 39) #[] #[.pointer (some ⟨w.heap.size + 1, 0, none⟩)], .int .i64 (x.1.1 : Int), .pointer (some x.1.2), undef, undef, undef, undef, undef, undef, undef, undef, undef], defers := [] }) ?assign ?body ?done ?stop
  case assign =>
    intro l x W K hK
    gi_wp2
    exact hK
  case body =>
    rintro l pre x W ⟨hc, hB⟩ _
    have hx := Lv.one x
    have hf' : W.cell? ⟨t, 4, none⟩ = some (.bool false) := (hB.cell (p := ⟨t, 4, none⟩) htl).trans HF.out
    rw [hx]
    gi_wp2
    exact ⟨KeepsOthers.refl _, ⟨rfl, rfl⟩, hc, hB⟩
  case done =>
    rintro D ys W hD _ ⟨hc0, hB⟩ hK
    have hc := (box_c hc0).1
    gi_wp2
    refine ⟨by simp, .inl ⟨_, _, rfl, run_takeDeferred hK, ?_⟩⟩
    exact ⟨_, results_tmp rfl _ _ _, rfl, hB.trans (belowK_b (w := w) (Nat.le_refl _) W D _ _ (by simp at hD; omega) hK rfl rfl)⟩
  case stop =>
    rintro D c pre W _ _ h _
    exact h.elim

end Go.Proofs.YtpofihiojhbfgaaGreatDoor

namespace Go.Proofs.YtpofihiojhbfgaaGreatDoor
open Go.RowKit Go.Shelf
set_option linter.unusedVariables false
set_option maxRecDepth 8000

attribute [local go_sem] Oper.semAt_some

theorem own_def {β : Type} {B k : Nat} (o : Obj) (hk : k < B) : OwnFrom B (fun (_ : β) W => W.heap[k]? = some o) := by
  intro s W W' row hs hg hr
  refine (hg.block k (Array.getElem?_eq_some_iff.1 hs).1 fun e => ?_).trans hs
  obtain ⟨h1, -⟩ := hr k e.symm
  omega

set_option maxRecDepth 100000 in
set_option maxHeartbeats 4000000 in
theorem tick_no {w : World} {h : Nat} {bo pa : Int} {gs d : Nat} {e1 : Int} {co : Value} (hH : w.heap[h]? = some (hoO bo pa gs d none e1 co)) :
    Calls Tryz.prog 7 #[tp h] w fun e w' => e = .returned (.slice none 0 0) ∧ Below w.heap.size w w' := by
  refine (callsIn_wide (n := 6)).1 ?_
  refine callsIn_of_wp_marks Tryz.func7 rfl trivial ?_ rfl
  simp only [Tryz.ntmps7, List.size_toArray, List.length_cons, List.length_nil, Nat.reduceAdd, Nat.reduceSub, Array.replicate_succ, Array.replicate_zero, List.push_toArray, List.append_toArray, List.nil_append, List.cons_append]
  have hhl := (Array.getElem?_eq_some_iff.1 hH).1
  have HH := hidOf hH
  clear hH
  gi_wp2_with (refine ⟨trivial, ?_⟩; gi_at_call 19; refine (callsIn_wide.2 (live_any h _)).mono ?_; rintro e w' ⟨rfl, rfl⟩)
  obtain ⟨hs, hb, hB0⟩ := two_box w (.cells #[tp h] 22) (.cells #[tp h] 22)
  refine wpIn_rangeFunc_ownF (F := Fence.wide) (n := 6) (ps := #[10, 11]) rfl (by omega) (gf := 39) (lb := #[.pointer (some ⟨w.heap.size + 1, 0, none⟩)]) rfl trivial (enters_of Tryz.func39 (by kernel_rfl) rfl)
    (live_stops 5 (by omega) h (w.heap.size + 1) (ss1 none) _ (box_c hb).1 (ss1_cells (ho_cells ((hB0.block h hhl).trans HH.out)))) Kh.trans (Kh.put (by simp; omega) (by simp)) (Below.refl _ _) (fun _ => rfl)
    (fun pre W => W.heap[w.heap.size]? = some (.cells #[tp h] 22) ∧ Below w.heap.size w W)
    (fun _ _ _ => False)
    (OwnFrom.and (own_blk _ _ _ rfl) (ownFrom_below (Nat.le_refl _) (by simp; omega)))
    (fun _ _ _ _ _ hs _ _ => hs)
    ⟨hs, hB0⟩
    (fun x => { tmps := #[], defers := [] }) ?assign ?body ?done ?stop
  case assign =>
    intro l x W K hK
    exact (Lv.no x).elim
  case body =>
    intro l pre x
    exact (Lv.no x).elim
  case stop =>
    rintro D c pre W _ _ h _
    exact h.elim
  case done =>
    rintro D ys W hD _ ⟨hc0, hB⟩ hK
    have hc := (box_c hc0).1
    have hDl := (Array.getElem?_eq_some_iff.1 hK).1
    simp only [World.size_alloc] at hD
    have hcl := (box_c ((((Below.refl _ W).alloc (Nat.le_refl _) (.cells #[.slice none 0 0] 28)).block _ (Array.getElem?_eq_some_iff.1 hc0).1).trans hc0)).1
    clear hs hb hB0
    gi_wp2_with (refine ⟨trivial, ?_⟩; gi_at_call 19; refine (callsIn_wide.2 (live_any h _)).mono ?_; rintro e w' ⟨rfl, rfl⟩)
    obtain ⟨hs, hb, hB1⟩ := two_box W (.cells #[.slice none 0 0] 28) (.cells #[tp h] 22)
    have hBB : Below w.heap.size w ((W.alloc (.cells #[.slice none 0 0] 28)).alloc (.cells #[tp h] 22)) := below_step hB hB1
    have hsz := hB.size
    refine wpIn_rangeFunc_ownF (F := Fence.wide) (n := 6) (ps := #[33, 34]) rfl (by omega) (gf := 39) (lb := #[.pointer (some ⟨W.heap.size + 1, 0, none⟩)]) rfl trivial (enters_of Tryz.func39 (by kernel_rfl) rfl)
      (live_stops 5 (by omega) h (W.heap.size + 1) (ss1 none) _ (box_c hb).1 (ss1_cells (ho_cells ((hBB.block h hhl).trans HH.out)))) Kh.trans (Kh.put (by simp; omega) (by simp)) (Below.refl _ _) (fun _ => rfl)
      (fun pre U => (U.heap[W.heap.size]? = some (.cells #[.slice none 0 0] 28) ∧ U.heap[D]? = some (.deferred (some []))) ∧ Below w.heap.size w U)
      (fun _ _ _ => False)
      (OwnFrom.and (OwnFrom.and (own_blk _ _ _ rfl) (own_def _ (by simp; omega))) (ownFrom_below (Nat.le_refl _) (by simp; omega)))
      (fun _ _ _ _ _ hs _ _ => hs)
      ⟨⟨hs, (hB1.block D hDl).trans hK⟩, hBB⟩
      (fun x => { tmps := #[], defers := [] }) ?assign2 ?body2 ?done2 ?stop2
    case assign2 =>
      intro l x W K hK
      exact (Lv.no x).elim
    case body2 =>
      intro l pre x
      exact (Lv.no x).elim
    case stop2 =>
      rintro D c pre W _ _ h _
      exact h.elim
    case done2 =>
      rintro D2 ys U hD2 _ ⟨⟨hc2, hK1⟩, hBU⟩ hK2
      have hc3 := (box_c hc2).1
      simp only [World.size_alloc] at hD2
      clear hc hc0 hs hb
      gi_wp2
      have hne : D ≠ D2 := by omega
      have hK1' : (U.putObj D2 (.deferred none)).heap[D]? = some (.deferred (some [])) := (World.putObj_heap_other hne).trans hK1
      refine ⟨by simp, .inl ⟨_, _, rfl, run_takeDeferred hK2, ⟨by simp, .inl ⟨_, _, rfl, run_takeDeferred hK1', ?_⟩⟩⟩⟩
      refine ⟨_, results_tmp rfl _ _ _, rfl, ?_⟩
      refine (hBU.trans (belowK_b (w := w) (Nat.le_refl _) U D2 _ _ (by omega) hK2 rfl rfl)).trans (belowK_b (w := w) (Nat.le_refl _) _ D _ _ (by omega) hK1' rfl rfl)

end Go.Proofs.YtpofihiojhbfgaaGreatDoor

namespace Go.Proofs.YtpofihiojhbfgaaGreatDoor
open Go.RowKit Go.Shelf
set_option linter.unusedVariables false
set_option maxRecDepth 8000

attribute [local go_sem] Oper.semAt_some

def isC (w : World) (k : Nat) : Prop := ∃ cs ty fr, w.heap[k]? = some (.cells cs ty fr)
theorem Lnk.By.nar {w : World} {V : Nat → Prop} {v : Value} {bs : List Nat} (h : Lnk.By w V v bs) : Lnk.By w (fun k => V k ∧ isC w k) v bs := by
  obtain ⟨ao, n, cap, rfl, hr, ht, hi⟩ := h
  refine ⟨ao, n, cap, rfl, hr, ht, fun a ha => ⟨⟨(hi a ha).1, ?_⟩, (hi a ha).2⟩⟩
  obtain ⟨cs, fr, hc⟩ := ht a ha
  exact ⟨cs, 5, fr, hc⟩
theorem Lnk.Bys.nar {w : World} {V : Nat → Prop} {vs : List Value} {L : List (List Nat)} (h : Lnk.Bys w V vs L) : Lnk.Bys w (fun k => V k ∧ isC w k) vs L := ⟨h.len, fun i v bs e1 e2 => (h.each i v bs e1 e2).nar⟩
theorem own_isC {w : World} {base : Nat} {e : TypeId} {ao : Option Addr} {cap : Nat} {xs : List Value} (h : OwnS w base e ao cap xs) : ∀ x, ao = some x → isC w x.block := by
  intro x hx
  obtain ⟨cs, fr, hc⟩ := Lnk.Ty.own h x hx
  exact ⟨cs, e, fr, hc⟩
theorem Lw.nar {w : World} {D : Nat → Prop} {l : Nat} {I : LkI} {L : List (List Nat)} {s h : Nat} (H : Lw w D l I L s h) : Lw w (fun k => D k ∧ isC w k) l I L s h := by
  obtain ⟨ao, n, cap, ⟨hd, ⟨vs, ho, hb⟩, r1, r2, r3, r4, r5, r6, r7⟩, h2, h3, h4⟩ := H
  obtain ⟨cs, hc⟩ := hd.ty
  exact ⟨ao, n, cap, ⟨hd, ⟨vs, ho, hb.nar⟩, r1, r2, r3, r4, r5, r6, r7⟩, ⟨h2, cs, _, _, hc⟩, fun x hx => ⟨h3 x hx, own_isC ho x hx⟩, fun k hk => h4 k hk.1⟩
theorem Se.nar {w : World} {Z : Nat → Prop} {t : Nat} {I : LkI} {L : List (List Nat)} {sn h : Nat} {si : Int} {fr : Bool} {bss : List (List Nat)} (H : Se w Z t I L sn h si fr bss) : Se w (fun k => Z k ∧ isC w k) t I L sn h si fr bss := by
  obtain ⟨D, Y, l, xo, n, xc, vs, h1, h2, h3, h4, h5, h6⟩ := H
  exact ⟨fun k => D k ∧ isC w k, fun k => Y k ∧ isC w k, l, xo, n, xc, vs, ⟨h1.blk, h1.lk.nar, h1.row, h1.bys.nar, h1.len, fun e => h1.td e.1, fun x hx => ⟨(h1.xd x hx).1, fun e => (h1.xd x hx).2.1 e.1, (h1.xd x hx).2.2⟩, fun k hk e => h1.yd k hk.1 e.1⟩, ⟨h2, _, _, _, h1.blk⟩, fun k hk => ⟨h3 k hk.1, hk.2⟩, fun k hk => ⟨h4 k hk.1, hk.2⟩, fun x hx => ⟨h5 x hx, own_isC h1.row x hx⟩, fun k hk => h6 k hk.1⟩

structure Ck (N : Nat) (U W : World) : Prop where
  os : W.os = U.os
  tape : W.tape = U.tape
  output : W.output = U.output
  size : U.heap.size ≤ W.heap.size
  block : ∀ k, k < U.heap.size → (isC U k ∨ k < N) → W.heap[k]? = U.heap[k]?
theorem Ck.refl (N : Nat) (U : World) : Ck N U U := ⟨rfl, rfl, rfl, Nat.le_refl _, fun _ _ _ => rfl⟩
theorem Ck.grown {N B : Nat} {U W W' : World} (h : Ck N U W) (hN : N ≤ B) {row : Option Nat} (hg : W.grownBy W' row) (hr : ∀ r, row = some r → B ≤ r ∧ ∃ o : Obj, W.heap[r]? = some o ∧ o.isCells = false) : Ck N U W' := by
  refine ⟨hg.os.trans h.os, hg.tape.trans h.tape, hg.output.trans h.output, Nat.le_trans h.size hg.size, fun k hk hc => ?_⟩
  have e := h.block k hk hc
  refine (hg.block k (Nat.lt_of_lt_of_le hk h.size) fun e' => ?_).trans e
  obtain ⟨h1, o, h2, h3⟩ := hr k e'.symm
  rcases hc with ⟨cs, ty, fr, hc⟩ | hc
  · rw [e, hc] at h2
    cases h2
    cases h3
  · omega

theorem pksOf_len (I : LkI) (L : List (List Nat)) (s h : Nat) : (Lnk.pksOf I L s h).length = max 1 L.length := by
  have hf : ∀ (q : Int) (M : List (List Nat)), (Lnk.pksFrom I h q M).length = M.length := by
    intro q M
    induction M generalizing q with
    | nil => rfl
    | cons b M ih => simp [Lnk.pksFrom, ih]
  unfold Lnk.pksOf
  split
  · rename_i e
    rw [e]; rfl
  · rename_i e
    rw [hf]
    have := List.length_pos_iff.2 e
    omega
theorem two_size (w : World) (o1 o2 : Obj) : ((w.alloc o1).alloc o2).heap.size = w.heap.size + 2 := by simp
theorem op_append {F : Fence} {n : Nat} {P : Program} {o : Oper} {a : Act} {w w' : World} {K : Act → World → Prop} {Q : Exit → Act → World → Prop} {v y v' : Value} (s x : Operand) (t ty : TypeId) (ho : o.op = .call { callee := .builtin .append, args := #[s, x], argTypes := #[t, t] }) (hs : a.eval s = v) (hx : a.eval x = y) (hty : o.type = ty) (hr : (Builtin.append_ #[t, t] ty #[v, y]).run P w = .ok v' w') (h : K (a.put o.dst v') w') : o.wpIn F n P a w K Q := by
  subst hty
  unfold Oper.wpIn
  refine ⟨?_, ?_⟩
  · simp [Oper.about, ho, resolve, Target.leads, Sem.run_pure]
  · rw [Oper.semAt_plain F _ _ (by rw [ho]; intro c hc'; cases hc')]
    simp [execOp, ho, resolve, invoke, builtin, hs, hx, hr, Result.andThen]
    exact h
theorem Lnk.Pks.high {w w' : World} {M : Nat} {v : Value} {Ps : List Lnk.PkG} (h : Lnk.Pks w M (fun k => M ≤ k) v Ps) (hs : w.heap.size ≤ w'.heap.size) (hk : ∀ k, M ≤ k → k < w.heap.size → w'.heap[k]? = w.heap[k]?) : Lnk.Pks w' M (fun k => M ≤ k) v Ps := by
  obtain ⟨R, rfl, ho, hb⟩ := h
  refine ⟨R, rfl, ⟨ho.1, ?_⟩, fun r hr => (hb r hr).kept ⟨hs, fun k hk' hv => hk k hv hk'⟩⟩
  rcases ho.2 with hv | ⟨g, cp, cur, hv, hg, hh, r⟩
  · exact .inl hv
  · exact .inr ⟨g, cp, cur, hv, hg, (hk g hg (Array.getElem?_eq_some_iff.1 hh).1).trans hh, r⟩

set_option maxRecDepth 100000 in
set_option maxHeartbeats 4000000 in
theorem pf_yes {w : World} {h t : Nat} {bo pa : Int} {gs d : Nat} {e1 : Int} {co : Value} {Z : Nat → Prop} {I : LkI} {L : List (List Nat)} {sn hh : Nat} {si : Int} {bss : List (List Nat)} (hH : w.heap[h]? = some (hoO bo pa gs d (some ⟨t, 0, none⟩) e1 co)) (hZ : ¬ Z h) (H : Se w Z t I L sn hh si true bss) (n : Nat) (hn : bss.length = n) (hl : L.length + n ≤ 8) (hs : sn + n ≤ 16777215) (hb : ∀ b ∈ bss, b.length ≤ 700) :
    Calls Tryz.prog 26 #[tp h] w fun e w' => ∃ v M Z', e = .returned v ∧ w.heap.size ≤ M ∧ Lnk.Pks w' M (fun k => M ≤ k) v (Lnk.pksOf I (L ++ bss) (sn + n) hh) ∧ Se w' Z' t I (L ++ bss) (sn + n) hh si false [] ∧ (∀ k, Z' k → (Z k ∨ w.heap.size ≤ k) ∧ k < M) ∧ OffS Z w w' := by
  refine (callsIn_wide (n := 6)).1 ?_
  refine callsIn_of_wp_marks Tryz.func26 rfl trivial ?_ rfl
  simp only [Tryz.ntmps26, List.size_toArray, List.length_cons, List.length_nil, Nat.reduceAdd, Nat.reduceSub, Array.replicate_succ, Array.replicate_zero, List.push_toArray, List.append_toArray, List.nil_append, List.cons_append]
  have hhl := (Array.getElem?_eq_some_iff.1 hH).1
  have htl : t < w.heap.size := H.lt t H.own
  have HH := hidOf hH
  have HS := hidOf H
  have HE := hidOf (show bss.length = n ∧ L.length + n ≤ 8 ∧ sn + n ≤ 16777215 ∧ (∀ b ∈ bss, b.length ≤ 700) ∧ ¬ Z h from ⟨hn, hl, hs, hb, hZ⟩)
  clear hH hn hl hs hb H hZ
  gi_wp2_with (refine ⟨trivial, ?_⟩; gi_at_call 19; refine (callsIn_wide.2 (live_any h _)).mono ?_; rintro e w' ⟨rfl, rfl⟩)
  obtain ⟨hs, hb, hB0⟩ := two_box w (.cells #[.slice none 0 0] 28) (.cells #[tp h] 22)
  refine wpIn_rangeFunc_ownG (F := Fence.wide) (n := 6) (ps := #[8, 9]) rfl (by omega) (gf := 39) (lb := #[.pointer (some ⟨w.heap.size + 1, 0, none⟩)]) rfl trivial (enters_of Tryz.func39 (by kernel_rfl) rfl)
    (live_stops 5 (by omega) h (w.heap.size + 1) (ss1 (some ⟨t, 0, none⟩)) _ (box_c hb).1 (ss1_cells (ho_cells ((hB0.block h hhl).trans HH.out)))) Kh.trans (Kh.put (by simp; omega) (by simp)) (Below.refl _ _) (fun _ => rfl)
    (fun pre W => (pre = [] ∧ W.heap[w.heap.size]? = some (.cells #[.slice none 0 0] 28) ∧ W.heap[w.heap.size + 1]? = some (.cells #[tp h] 22) ∧ Below w.heap.size w W) ∨
      (pre ≠ [] ∧ ∃ U v M Z', Ck (w.heap.size + 2) U W ∧ U.heap[w.heap.size]? = some (.cells #[v] 28) ∧ w.heap.size ≤ M ∧ Lnk.Pks U M (fun k => M ≤ k) v (Lnk.pksOf I (L ++ bss) (sn + n) hh) ∧ Se U Z' t I (L ++ bss) (sn + n) hh si false [] ∧ (∀ k, Z' k → (Z k ∨ w.heap.size ≤ k) ∧ k < M) ∧ OffS Z w U))
    (fun _ _ _ => False)
    (by
      intro s W W' row hs hg hr
      rcases hs with ⟨e, h1, h3, h2⟩ | ⟨e, U, v, M, Z', h1, h2⟩
      · exact .inl ⟨e, own_blk (β := Unit) _ _ _ rfl () W W' row h1 hg hr, own_blk (β := Unit) _ _ _ rfl () W W' row h3 hg hr, ownFrom_below (β := Unit) (Nat.le_refl _) (by simp; omega) () W W' row h2 hg hr⟩
      · exact .inr ⟨e, U, v, M, Z', h1.grown (by simp) hg hr, h2⟩)
    (fun _ _ _ _ _ hs _ _ => hs)
    (.inl ⟨rfl, hs, hb, hB0⟩)
    (fun x => { tmps := #[tp h, undef, .slice none 0 0, .pointer (some ⟨w.heap.size, 0, none⟩), undef, .pointer (some x.1.2), tp h, .func (.func 39) #[] #[.pointer (some ⟨w.heap.size + 1, 0, none⟩)], .int .i64 (x.1.1 : Int), .pointer (some x.1.2), undef, undef, undef, undef, undef, undef, undef, undef, undef], defers := [] }) ?assign ?body ?done ?stop
  case assign =>
    intro l x W K hK
    gi_wp2
    exact hK
  case stop =>
    rintro D c pre W _ _ h _
    exact h.elim
  case body =>
    rintro l pre x W hI _
    have hx := Lv.one x
    rw [hx]
    clear hs hb hB0
    rcases hI with ⟨rfl, hc0, hcb0, hB⟩ | ⟨e, U, v, M, Z', h1, h2, h3, h4, h5, h6, h7⟩
    · have H2 : Se W Z t I L sn hh si true bss := HS.out.below hB
      have hf := H2.cells
      obtain ⟨l2, v2, -, -, -, -, c4⟩ := hf
      obtain ⟨hc, hfz⟩ := box_c hc0
      have hmx : Tryz.prog.follows .mixedOrders = true := by kernel_rfl
      obtain ⟨bx, hbx⟩ : ∃ b, w.heap.size = b := ⟨_, rfl⟩
      have HP : Hid (Calls Tryz.prog 21 #[cp t] W.drew fun e w1 => ∃ v, e = .returned v ∧ w1.cell? ⟨bx, 0, none⟩ = some (.slice none 0 0) ∧ ∃ ao m cap w2, (Builtin.append_ #[28, 28] 28 #[.slice none 0 0, v]).run Tryz.prog w1 = .ok (.slice ao m cap) w2 ∧ w2.cell? ⟨bx, 0, none⟩ = some (.slice none 0 0) ∧ w2.frozen? ⟨bx, 0, none⟩ = false ∧ Hid (KeepsFrom (w.heap.size + 2) W (w2.setCell ⟨bx, 0, none⟩ (.slice ao m cap)) ∧ Kh h (w.heap.size + 1) W (w2.setCell ⟨bx, 0, none⟩ (.slice ao m cap)) ∧ ∃ M Z', (w2.setCell ⟨bx, 0, none⟩ (.slice ao m cap)).heap[w.heap.size]? = some (.cells #[.slice ao m cap] 28) ∧ w.heap.size ≤ M ∧ Lnk.Pks (w2.setCell ⟨bx, 0, none⟩ (.slice ao m cap)) M (fun k => M ≤ k) (.slice ao m cap) (Lnk.pksOf I (L ++ bss) (sn + n) hh) ∧ Se (w2.setCell ⟨bx, 0, none⟩ (.slice ao m cap)) Z' t I (L ++ bss) (sn + n) hh si false [] ∧ (∀ k, Z' k → (Z k ∨ w.heap.size ≤ k) ∧ k < M) ∧ OffS Z w (w2.setCell ⟨bx, 0, none⟩ (.slice ao m cap)))) := by
        have hWs := hB.size
        have hbl := (Array.getElem?_eq_some_iff.1 hc0).1
        have hZl := HS.out.lt
        refine (pump_se (H2.below (bel0 W)) n HE.out.1 HE.out.2.1 HE.out.2.2.1 HE.out.2.2.2.1).mono ?_
        rintro e w1 ⟨v, M, Z', rfl, ⟨k0, k1⟩, k2, k3, k4, k5⟩
        have k0' : W.heap.size ≤ M := k0
        have k6 : OffS Z W w1 := (OffS.of_below (bel0 W)).trans (k5.mono fun j hj => .inl hj)
        have hs1 := k6.size
        have hnz : ∀ k, w.heap.size ≤ k → ¬ Z k := fun k hk e => by have := hZl k e; omega
        have hb1 : w1.heap[bx]? = some (.cells #[.slice none 0 0] 28) := by
          rw [← hbx]
          exact (k6.block _ hbl (hnz _ (Nat.le_refl _))).trans hc0
        obtain ⟨v', w2, hr, q1, q2, -⟩ := Lnk.run_append_pks (w := w1) 28 M (Lnk.Pks.nil w1 M (fun k => M ≤ k)) k2.rd (by rw [pksOf_len]; simp; have := HE.out; omega) k1
        rw [List.nil_append] at q1
        obtain ⟨ao, cap, e', -, -, -⟩ := q1.shape
        subst e'
        have hB2 : Below w1.heap.size w1 w2 := (Below.refl _ w1).grown q2 (Nat.le_refl _) (fun k e => by cases e)
        have hs2 := hB2.size
        have hb2 : w2.heap[bx]? = some (.cells #[.slice none 0 0] 28) := (hB2.block bx (Array.getElem?_eq_some_iff.1 hb1).1).trans hb1
        have hO : ∀ k, k < W.heap.size → ¬ Z k → k ≠ bx → (w2.setCell ⟨bx, 0, none⟩ (.slice ao (Lnk.pksOf I (L ++ bss) (sn + n) hh).length cap)).heap[k]? = W.heap[k]? := fun k hk hz hne => by
          rw [Below.heap_setCell _ _ _ _ hne, hB2.block k (by omega), k6.block k hk hz]
        refine ⟨v, rfl, (box_c hb1).1, ao, _, cap, w2, hr, (box_c hb2).1, (box_c hb2).2, ⟨?_, ?_⟩, ⟨?_, ?_⟩, M, Z', ?_, by omega, ?_, ?_, ?_, ?_⟩
        · simp; omega
        · intro k o hk hko _
          exact (hO k (Array.getElem?_eq_some_iff.1 hko).1 (hnz k (by omega)) (by omega)).trans hko
        · exact hO h (by omega) HE.out.2.2.2.2 (by omega)
        · refine hO _ ?_ (hnz _ (by omega)) (by omega)
          exact (Array.getElem?_eq_some_iff.1 hcb0).1
        · rw [hbx, heap_setCell_same w2 bx _ _ 28 _ hb2]; rfl
        · refine q1.high (by simp) fun k hk hlt => Below.heap_setCell _ _ _ _ ?_
          show k ≠ bx
          omega
        · refine k3.keep (by simp; omega) fun k hk => ?_
          have hne : k ≠ bx := by
            rcases (k4 k hk).1 with h' | h'
            · have := hZl k h'; omega
            · have h'' : W.heap.size ≤ k := h'
              omega
          rw [Below.heap_setCell _ _ _ _ hne, hB2.block k (k3.lt k hk)]
        · intro k hk
          refine ⟨(k4 k hk).1.imp id fun h' => ?_, (k4 k hk).2⟩
          have h'' : W.heap.size ≤ k := h'
          omega
        · refine (((OffS.of_below hB).trans (k6.mono fun j hj => .inl hj)).trans (OffS.of_below hB2)).trans (OffS.setCell (OffS.refl _ _) (.inr ?_) _)
          show w.heap.size ≤ bx
          omega
      have HW := hidOf hbx
      rw [hbx] at hc hfz ⊢
      clear hbx hc0 hB H2 hcb0
      gi_wp2
      refine wpIn_region_any hmx ?_
      change wpAnyIn _ _ _ _ _ _ _ _ _ (World.drew _)
      refine wpAnyIn_ready (rs := [0, 1]) (by kernel_rfl) (by simp) ?_
      refine AllReadyIn.cons rfl (fun K hK => ?_) ?_
      · go_simp
        refine hK _ _ ?_
        clear hK K
        refine wpAnyIn_ready (rs := [1]) (by kernel_rfl) (by simp) ?_
        refine AllReadyIn.cons rfl (fun K hK => ?_) ?_
        · go_simp
          refine hK _ _ ?_
          clear hK K
          refine wpAnyIn_ready (rs := [2]) (by kernel_rfl) (by simp) ?_
          refine AllReadyIn.cons rfl (fun K hK => ?_) ?_
          · go_simp
            refine ⟨trivial, ?_⟩
            refine (CallsIn.inRound l (callsIn_wide.2 HP.out)).mono ?_
            rintro e w1 ⟨v, rfl, hc1, ao, m, cap, w2, hr, hc2, hf2, HZ⟩
            refine hK _ _ ?_
            clear hK K
            refine wpAnyIn_ready (rs := [3]) (by kernel_rfl) (by simp) ?_
            refine BigFrame.allReadyIn_want rfl rfl (fun K hK => op_append (.tmp 14) (.tmp 16) 28 28 rfl rfl rfl rfl hr (hK _ _ ?_)) ?_
            · clear hK K
              simp only [Act.put, List.setIfInBounds_toArray]
              refine wpAnyIn_ready (rs := [4]) (by kernel_rfl) (by simp) ?_
              refine AllReadyIn.cons rfl (fun K hK => ?_) ?_
              · go_simp
                refine hK _ _ ?_
                clear hK K
                refine wpAnyIn_done (by kernel_rfl) ?_ _
                have ew := HW.out
                subst ew
                exact ⟨by rw [two_size]; exact HZ.out.1, HZ.out.2.1, .inr ⟨by simp, HZ.out.2.2.elim fun M h => h.elim fun Z' h => ⟨_, _, M, Z', Ck.refl _ _, h⟩⟩⟩
              exact AllReadyIn.nil
            exact AllReadyIn.nil
          exact AllReadyIn.nil
        exact AllReadyIn.nil
      refine AllReadyIn.cons rfl (fun K hK => ?_) ?_
      · go_simp
        refine hK _ _ ?_
        clear hK K
        refine wpAnyIn_ready (rs := [0, 2]) (by kernel_rfl) (by simp) ?_
        refine AllReadyIn.cons rfl (fun K hK => ?_) ?_
        · go_simp
          refine hK _ _ ?_
          clear hK K
          refine wpAnyIn_ready (rs := [2]) (by kernel_rfl) (by simp) ?_
          refine AllReadyIn.cons rfl (fun K hK => ?_) ?_
          · go_simp
            refine ⟨trivial, ?_⟩
            refine (CallsIn.inRound l (callsIn_wide.2 HP.out)).mono ?_
            rintro e w1 ⟨v, rfl, hc1, ao, m, cap, w2, hr, hc2, hf2, HZ⟩
            refine hK _ _ ?_
            clear hK K
            refine wpAnyIn_ready (rs := [3]) (by kernel_rfl) (by simp) ?_
            refine BigFrame.allReadyIn_want rfl rfl (fun K hK => op_append (.tmp 14) (.tmp 16) 28 28 rfl rfl rfl rfl hr (hK _ _ ?_)) ?_
            · clear hK K
              simp only [Act.put, List.setIfInBounds_toArray]
              refine wpAnyIn_ready (rs := [4]) (by kernel_rfl) (by simp) ?_
              refine AllReadyIn.cons rfl (fun K hK => ?_) ?_
              · go_simp
                refine hK _ _ ?_
                clear hK K
                refine wpAnyIn_done (by kernel_rfl) ?_ _
                have ew := HW.out
                subst ew
                exact ⟨by rw [two_size]; exact HZ.out.1, HZ.out.2.1, .inr ⟨by simp, HZ.out.2.2.elim fun M h => h.elim fun Z' h => ⟨_, _, M, Z', Ck.refl _ _, h⟩⟩⟩
              exact AllReadyIn.nil
            exact AllReadyIn.nil
          exact AllReadyIn.nil
        refine AllReadyIn.cons rfl (fun K hK => ?_) ?_
        · go_simp
          refine ⟨trivial, ?_⟩
          refine (CallsIn.inRound l (callsIn_wide.2 HP.out)).mono ?_
          rintro e w1 ⟨v, rfl, hc1, ao, m, cap, w2, hr, hc2, hf2, HZ⟩
          refine hK _ _ ?_
          clear hK K
          refine wpAnyIn_ready (rs := [0]) (by kernel_rfl) (by simp) ?_
          refine AllReadyIn.cons rfl (fun K hK => ?_) ?_
          · go_simp
            refine hK _ _ ?_
            clear hK K
            refine wpAnyIn_ready (rs := [3]) (by kernel_rfl) (by simp) ?_
            refine BigFrame.allReadyIn_want rfl rfl (fun K hK => op_append (.tmp 14) (.tmp 16) 28 28 rfl rfl rfl rfl hr (hK _ _ ?_)) ?_
            · clear hK K
              simp only [Act.put, List.setIfInBounds_toArray]
              refine wpAnyIn_ready (rs := [4]) (by kernel_rfl) (by simp) ?_
              refine AllReadyIn.cons rfl (fun K hK => ?_) ?_
              · go_simp
                refine hK _ _ ?_
                clear hK K
                refine wpAnyIn_done (by kernel_rfl) ?_ _
                have ew := HW.out
                subst ew
                exact ⟨by rw [two_size]; exact HZ.out.1, HZ.out.2.1, .inr ⟨by simp, HZ.out.2.2.elim fun M h => h.elim fun Z' h => ⟨_, _, M, Z', Ck.refl _ _, h⟩⟩⟩
              exact AllReadyIn.nil
            exact AllReadyIn.nil
          exact AllReadyIn.nil
        exact AllReadyIn.nil
      exact AllReadyIn.nil
    · obtain ⟨l2, v2, -, -, -, -, c4⟩ := h5.cells
      have htU := h5.lt t h5.own
      have hf : W.cell? ⟨t, 4, none⟩ = some (.bool false) := (World.cell?_of_block (w := U) (w' := W) (a := ⟨t, 4, none⟩) (h1.block t htU (.inr (by omega)))).trans c4
      clear c4
      gi_wp2
      exact ⟨KeepsFrom.refl _ _, ⟨rfl, rfl⟩, .inr ⟨by simp, U, v, M, Z', h1, h2, h3, h4, h5, h6, h7⟩⟩
  case done =>
    rintro D ys W hD hys hI hK
    have hne : ys ≠ [] := by
      rw [hys]
      have e : upS (ss1 (some ⟨t, 0, none⟩)) 4 = upS (ss1 (some ⟨t, 0, none⟩)) 2 := (upS_none (k := 3) rfl).trans (upS_none (k := 2) rfl)
      rw [e, upS_some (k := 1) (a := ⟨t, 0, none⟩) rfl (by omega)]
      simp
    rcases hI with ⟨e, -, -, -⟩ | ⟨-, U, v, M, Z', h1, h2, h3, h4, h5, h6, h7⟩
    · exact absurd e hne
    · have hc := (box_c ((h1.block _ (Array.getElem?_eq_some_iff.1 h2).1 (.inl ⟨_, _, _, h2⟩)).trans h2)).1
      gi_wp2
      refine ⟨by simp, .inl ⟨_, _, rfl, run_takeDeferred hK, ?_⟩⟩
      have hD' : w.heap.size + 2 ≤ D := by simpa using hD
      have h8 : Ck (w.heap.size + 2) U (W.putObj D (.deferred none)) := h1.grown (Nat.le_refl _) (grownBy_putObj' W D (.deferred none)) (fun r e => by cases e; exact ⟨hD', _, hK, rfl⟩)
      refine ⟨_, results_tmp rfl _ _ _, v, M, fun k => Z' k ∧ isC U k, rfl, h3, h4.kt ⟨h8.size, fun k cs e fr hk _ _ => h8.block k (Array.getElem?_eq_some_iff.1 hk).1 (.inl ⟨_, _, _, hk⟩)⟩, h5.nar.keep h8.size fun k hk => h8.block k (h5.lt k hk.1) (.inl hk.2), fun k hk => h6 k hk.1, ⟨h8.os.trans h7.os, h8.tape.trans h7.tape, h8.output.trans h7.output, Nat.le_trans h7.size h8.size, fun k hk hn => (h8.block k (Nat.lt_of_lt_of_le hk h7.size) (.inr (by omega))).trans (h7.block k hk hn)⟩⟩

end Go.Proofs.YtpofihiojhbfgaaGreatDoor
