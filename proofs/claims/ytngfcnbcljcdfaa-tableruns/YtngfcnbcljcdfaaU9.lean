/- What the document's Clear does, walked; two slices of the same integers. -/
import Derived.Test.YtngfcnbcljcdfaaU8
import Derived.Deep.QuietTactic
namespace Go.Proofs.Ytngfcnbcljcdfaa
open Go.RowKit
set_option linter.unusedVariables false

theorem wpList_callP {P : Program} {ops : Array Oper} {rest : List Oper} {o : Oper} {a : Act} {w : World} {Q : Exit → Act → World → Prop} (hg : o.guard = none)
    (f : FuncId) (args : Array Value) (hrun : (execOp a.eval o).run P w = .ok (.enter f args) w) {Post : Ending → World → Prop} (hc : Calls P f args w Post)
    (h : ∀ e w', Post e w' → ∃ v, e = .returned v ∧ wpList P ops Q rest (a.put o.dst v) w') : wpList P ops Q (o :: rest) a w :=
  wpList_plain hg fun K hK => by
    have key : Calls P f args w (fun | .returned v, w'' => K (a.put o.dst v) w'' | .panicked c, w'' => Q (.panic c) a w'' | .outgrown, _ => LetsOut Q) :=
      hc.mono fun e w2 hp => by
        rcases h e w2 hp with ⟨v, e1, h2⟩
        rw [e1]
        exact hK _ _ h2
    show Oper.upon P o a K Q ((execOp a.eval o).run P w)
    rw [hrun]
    exact key

set_option maxRecDepth 100000 in
set_option maxHeartbeats 3200000 in
theorem rclear_any (T : Nat → Nat) (hT : ∀ i, T i < 16) (c : Int) (w : World) : Calls Try.prog 18 #[.agg (rfA T), .int .i64 c] w fun e w' => e = .returned (.agg (rfA (cT T c))) ∧ Below w.heap.size w w' := by
  have hz := zero37
  have HZ : Hid (Rb (Z37 w T) w.heap.size T ∧ Rb (Z37 w T) (w.heap.size + 1) (fun _ => 0) ∧ Below w.heap.size w (Z37 w T)) := ⟨Z37_0 w T, Z37_1 w T, Z37_b w T⟩
  have HT : Hid (∀ i, T i < 16) := hT
  clear hT
  go_enter Try.func18, Try.ntmps18
  go_upto_region 2 with fail
  all_goals clear hz
  go_loopw [5] (fun i wr => ∃ k : Nat, i = .int .i64 k ∧ k ≤ 6 ∧ Hid (Rb wr w.heap.size (clP T c k) ∧ Rb wr (w.heap.size + 1) (fun _ => 0)) ∧ Below w.heap.size w wr) (fun i _ => 6 - (intOf i).toNat)
  case atStart => exact ⟨0, rfl, by omega, ⟨HZ.out.1, HZ.out.2.1⟩, HZ.out.2.2⟩
  case round =>
    clear HZ
    obtain ⟨k, rfl, hk, HR, hbel⟩ := hrel
    rename World => wr
    by_cases hlt : k < 6
    · have e6 : decide ((k : Int) < 6) = true := by simp; omega
      go_upto_region 4 with fail
      refine wp_region_lit ?_
      refine wpList_load37 rfl _ rfl w.heap.size _ rfl HR.out.1 ?_
      refine wpList_plain rfl fun K1 hK1 => ?_
      go_step
      refine hK1 _ _ ?_
      clear hK1 K1
      refine wpList_plain rfl fun K1 hK1 => ?_
      go_step
      refine hK1 _ _ ?_
      clear hK1 K1
      refine wpList_callP rfl 16 #[.agg (rfA (clP T c k)), .int .i64 c, .int .i64 (k : Int), .int .i64 15, .int .i64 15] (by simp [go_sem]) (rdrop_any (clP T c k) (clP_lt HT.out c k) c k 15 15 wr) ?_
      rintro e w3 ⟨rfl, hb3⟩
      refine ⟨_, rfl, ?_⟩
      refine wpList_store37 rfl _ _ rfl w.heap.size (clP T c (k + 1)) (clP T c k) rfl rfl (HR.out.1.below hb3) ?_
      intro w4 hR4 ho4
      refine wpList_nil ?_
      have hB3 := below_step hbel hb3
      have HR4 : Hid (Rb w4 w.heap.size (clP T c (k + 1)) ∧ Rb w4 (w.heap.size + 1) (fun _ => 0)) := ⟨hR4, (HR.out.2.below hb3).off ho4 (by omega)⟩
      have hB4 : Below w.heap.size w w4 := hB3.trans (ho4.below (Nat.le_refl _) hB3.size)
      clear hR4 ho4 hb3 hB3 HR hbel
      go_wp2
      go_roundw
      case rel => exact ⟨k + 1, by go_num, by omega, HR4.out, hB4⟩
      case measure => simp [intOf]; omega
    · obtain rfl : k = 6 := by omega
      go_upto_region 5 with fail
      refine wp_region_lit ?_
      refine wpList_load37 rfl _ rfl w.heap.size _ rfl HR.out.1 ?_
      refine wpList_store37 rfl _ _ rfl (w.heap.size + 1) _ _ rfl rfl HR.out.2 ?_
      intro w9 hR9 ho9
      refine wpList_nil ?_
      go_wp2
      refine bodyPost_ret (results_cell Try.results18 (by rfl) (loadV37 hR9)) (by rfl) ?_
      exact ⟨by rw [clP_is HT.out], hbel.trans (ho9.below (by omega) hbel.size)⟩

theorem sameInts_true (a : Option Addr) (c n : Nat) (b : Option Addr) (d : Nat) (zs : List Int) (w : World) (ha : RdI w .i64 a c zs) (hb : RdI w .i64 b d zs) (hn : zs.length = n) (hm : n ≤ 9223372036854775807) :
    Calls Try.prog 25 #[.slice a n c, .slice b n d] w fun e w' => e = .returned (.bool true) ∧ Below w.heap.size w w' := by
  go_enter Try.func25, Try.ntmps25
  go_wp2
  go_loopw [13] (fun i wr => ∃ k j : Nat, k ≤ n ∧ i = .int .i64 k ∧ wr = w.drewN j) (fun i _ => n - (intOf i).toNat)
  case atStart => exact ⟨0, 0, Nat.zero_le _, rfl, rfl⟩
  case round =>
    obtain ⟨k, j, hk, rfl, rfl⟩ := hrel
    by_cases hlt : k < n
    · obtain ⟨b1, o1, rfl, _, hc1⟩ := ha.at (t := k) (by omega)
      obtain ⟨b2, o2, rfl, _, hc2⟩ := hb.at (t := k) (by omega)
      have hd1 := hc1 k (by omega)
      have hd2 := hc2 k (by omega)
      have hlt' : (k : Int) < (n : Int) := by omega
      go_wp2
      go_quiet (fail)
      go_wp2
      go_roundw
      case rel => exact ⟨k + 1, _, by omega, by go_num, rfl⟩
      case measure => simp [intOf]; omega
    · go_wp2
      go_ret
      exact ⟨rfl, ⟨rfl, rfl, rfl, Nat.le_refl _, fun _ _ => rfl⟩⟩

end Go.Proofs.Ytngfcnbcljcdfaa
