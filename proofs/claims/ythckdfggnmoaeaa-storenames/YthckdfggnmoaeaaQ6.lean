/- What Open of package store does, walked, out of what apply does with each commit. -/
import Derived.Test.YthckdfggnmoaeaaQ5
namespace Go.Proofs.Ythckdfggnmoaeaa
open Go.RowKit
set_option linter.unusedVariables false

/-- A drive and a tape lie apart. -/
structure Apt (gt g : Nat) (V : Nat → Prop) (ao : Option Addr) : Prop where
  t : gt ≠ g ∧ gt ≠ g + 1 ∧ ¬ V gt
  a : ∀ a, ao = some a → a.block ≠ g ∧ a.block ≠ g + 1 ∧ ¬ V a.block

theorem Sto.start {w w1 w2 : World} {B g gl gt : Nat} {V : Nat → Prop} {L : List Sec} {F : List Fr} {ao : Option Addr} {n cap : Nat} {bs : List Nat} {s r last : Nat} (hD : Drv w g V L) (hv : ∀ k, V k → k < w.heap.size) (hA : Apt gt g V ao) (hBg : B ≤ g)
    (hl : LogAt w1 B gl gt ao n cap bs s r last) (hO : Off2 gt ao w w1) (hgl : w.heap.size ≤ gl) (hP : Pl w2 (w1.heap.size + 1) w1.heap.size g gl F 0) (hb2 : Below w1.heap.size w1 w2) (hs2 : w2.heap.size = w1.heap.size + 2) :
    Sto (w2.alloc (.cells #[dp g, tp gl, tp (w1.heap.size + 1)] 51)) B w2.heap.size (w1.heap.size + 1) w1.heap.size g gl gt V L F 0 ao n cap bs s r last := by
  have hs1 := hO.size
  have hdl := hD.lt
  have hbx := below_box w2 (.cells #[dp g, tp gl, tp (w1.heap.size + 1)] 51)
  have hD1 : Drv w1 g V L := hD.kept ⟨hs1, fun k hk hx => hO.block k hk (by intro e; subst e; rcases hx with hx | hx | hx; exact hA.t.2.2 hx; exact hA.t.1 hx; exact hA.t.2.1 hx) (fun a ha e => by subst e; rcases hx with hx | hx | hx; exact (hA.a a ha).2.2 hx; exact (hA.a a ha).1 hx; exact (hA.a a ha).2.1 hx)⟩
  have hll : ∀ k, LgB gl gt ao k → k < w1.heap.size := by
    intro k hk
    rcases hk with rfl | rfl | ⟨a, ha, rfl⟩
    · exact hl.l.lt
    · exact hl.t.hd.lt
    · exact hl.t.own.lt a ha
  have hpl : ∀ k, PlB (w1.heap.size + 1) w1.heap.size g V k → k < w1.heap.size + 2 := by
    intro k hk
    rcases hk with hk | hk | hk | hk | hk
    · omega
    · omega
    · omega
    · omega
    · have := hv k hk; omega
  have hBs : B ≤ w1.heap.size := by omega
  refine ⟨Ss.new w2 g gl (w1.heap.size + 1), St.below ⟨hP, hD1.below hb2, by omega, by omega, by omega, by omega, fun h => ?_, fun h => ?_⟩ hbx, (hl.below hb2).below hbx, fun k hk => ?_, fun k hk hx => ?_, fun hk => ?_, fun hk => ?_, ⟨by omega, by omega, hBg⟩⟩
  · have := hv _ h; omega
  · have := hv _ h; omega
  · have := hv k hk; simp; omega
  · have h1 := hll k hk
    rcases hx with hx | hx | hx | hx | hx
    · omega
    · omega
    · subst hx
      rcases hk with hk | hk | ⟨a, ha, hk⟩
      · omega
      · exact hA.t.1 hk.symm
      · exact (hA.a a ha).1 hk
    · subst hx
      rcases hk with hk | hk | ⟨a, ha, hk⟩
      · omega
      · exact hA.t.2.1 hk.symm
      · exact (hA.a a ha).2.1 hk
    · rcases hk with hk | hk | ⟨a, ha, hk⟩
      · have := hv k hx; omega
      · subst hk; exact hA.t.2.2 hx
      · subst hk; exact (hA.a a ha).2.2 hx
  · have := hll _ hk; omega
  · have := hpl _ hk; omega

set_option maxRecDepth 100000 in
set_option maxHeartbeats 1600000 in
theorem open_store (B g gt : Nat) (V : Nat → Prop) (L : List Sec) (ao : Option Addr) (n cap : Nat) (Lb : List Bt) (s r frames : Nat) (FS : Nat → List Fr) (w : World) (hT : Tp w B gt ao n cap (rowN Lb) s r) (hok : ∀ b ∈ Lb, BtOk b) (hch : Chain Lb)
    (hD : Drv w g V L) (hv : ∀ k, V k → k < w.heap.size) (hA : Apt gt g V ao) (hBg : B ≤ g) (h1 : 1 ≤ frames) (h6 : frames ≤ 6) (hF0 : List.replicate frames Fr.e = FS 0)
    (HA : ∀ k (hk : k < Lb.length) (gs gp gf gl : Nat) (W : World) (V' : Nat → Prop) (ap : Option Addr), Sto W B gs gp gf g gl gt V' L (FS k) 0 ao n cap (rowN Lb) s r (lastL Lb) → RdP W ap Lb[k].ps.length Lb[k].ps.length (Lb[k].ps.map PutG.can) → Calls Try.prog 15 #[tp gs, btV Lb[k].lsn Lb[k].cl Lb[k].ep Lb[k].tx ap Lb[k].ps.length Lb[k].ps.length] W fun x w' => x = .returned (.int .i64 0) ∧ Left W w' gp gf g gl V' L (FS (k + 1)) 0) :
    Calls Try.prog 4 #[tp gt, dp g, .int .i64 (frames : Int)] w fun x w' => ∃ gs gp gf gl, x = .returned (.tuple #[tp gs, .int .i64 0]) ∧ (∃ V', Sto w' B gs gp gf g gl gt V' L (FS Lb.length) 0 ao n cap (rowN Lb) s r (lastL Lb)) ∧ Below B w w' := by
  have HH : Hid (∀ k (hk : k < Lb.length) (gs gp gf gl : Nat) (W : World) (V' : Nat → Prop) (ap : Option Addr), Sto W B gs gp gf g gl gt V' L (FS k) 0 ao n cap (rowN Lb) s r (lastL Lb) → RdP W ap Lb[k].ps.length Lb[k].ps.length (Lb[k].ps.map PutG.can) → Calls Try.prog 15 #[tp gs, btV Lb[k].lsn Lb[k].cl Lb[k].ep Lb[k].tx ap Lb[k].ps.length Lb[k].ps.length] W fun x w' => x = .returned (.int .i64 0) ∧ Left W w' gp gf g gl V' L (FS (k + 1)) 0) := HA
  have HOK : Hid (∀ b ∈ Lb, BtOk b) := hok
  have HC : Hid (Chain Lb) := hch
  have HF : Hid (List.replicate frames Fr.e = FS 0) := hF0
  have hle := hT.le
  have HLL : Hid (Lb.length ≤ 20000) := by
    have h2 := rowN_le Lb
    have h3 := hT.own.len
    show Lb.length ≤ 20000
    omega
  obtain ⟨m, hm⟩ : ∃ m, Lb.length = m := ⟨_, rfl⟩
  have HM : Hid (Lb.length = m) := hm
  have hm2 : m ≤ 20000 := by have := HLL.out; omega
  clear HA hok hch hF0 hle
  rw [hm]
  clear hm
  go_enter Try.func4, Try.ntmps4
  go_wp2_with (first
    | (go_at_call 14; refine (commits_log B gl gt ao n cap Lb s r _ _ hS3.lg HOK.out HC.out).mono ?_; rintro x w4 ⟨v, rfl, hF4, hb4⟩; obtain ⟨av, cv, rfl, -⟩ := hF4.shape; rw [HM.out])
    | (go_at_call 13; refine (pnew_any frames g gl h1 h6 _).mono ?_; rintro x w2 ⟨rfl, hP2, hs2, hb2⟩; have HS2 : Hid (w2.heap.size = w1.heap.size + 2) := hs2; clear hs2; rw [HF.out] at hP2; have hS3 := Sto.start hD hv hA hBg hG1 hO1 hgl hP2 hb2 HS2.out)
    | (go_at_call 12; refine (open_log B gt ao n cap Lb s r _ hT HOK.out HC.out).mono ?_; rintro x w1 ⟨gl, rfl, hG1, hb1, hgl, hO1⟩)
    | (fail))
  have hBw1 : B ≤ w1.heap.size := by have := hb1.size; have := hD.lt; omega
  have hs12 := hb2.size
  have hB3 : Below B w (w2.alloc (.cells #[dp g, tp gl, tp (w1.heap.size + 1)] 51)) := (hb1.trans (hb2.mono hBw1)).alloc (by omega) _
  have hS4 := hS3.below hb4
  have hB4 : Below B w w4 := hB3.trans (hb4.mono hS3.leB)
  rw [HM.out] at hF4
  have hbs : w1.heap.size + 2 ≤ (w2.alloc (.cells #[dp g, tp gl, tp (w1.heap.size + 1)] 51)).heap.size := by have := HS2.out; simp; omega
  have hgb : g + 1 < w1.heap.size := by have := hO1.size; have := hD.lt; omega
  generalize (w2.alloc (.cells #[dp g, tp gl, tp (w1.heap.size + 1)] 51)).heap.size = base at *
  clear hS3 hP2 hG1 hO1 hb4 hb2 hb1 hB3
  go_loopw [26] (fun i wr => ∃ k : Nat, k ≤ m ∧ i = .int .i64 k ∧ (∃ V', Sto wr B w2.heap.size (w1.heap.size + 1) w1.heap.size g gl gt V' L (FS k) 0 ao n cap (rowN Lb) s r (lastL Lb)) ∧ Fnd wr base (.slice av m cv) Lb ∧ Below B w wr) (fun i _ => m - (intOf i).toNat)
  case atStart => exact ⟨0, Nat.zero_le _, rfl, ⟨V, hS4⟩, hF4, hB4⟩
  case round =>
    obtain ⟨k, hk, rfl, ⟨V', hS⟩, hF, hbel⟩ := hrel
    clear hS4 hF4 hB4
    by_cases hlt : k < m
    · have hkl : k < Lb.length := by have := HM.out; omega
      obtain ⟨gv, cap', ap, hvv, hgv, -, q0, q1, q2, q3, q4, hP⟩ := hF.at k hkl
      rw [HM.out] at hvv
      simp only [Value.slice.injEq, true_and] at hvv
      obtain ⟨rfl, rfl⟩ := hvv
      have HK := HH.out k hkl w2.heap.size (w1.heap.size + 1) w1.heap.size gl
      generalize Lb[k] = b at *
      have HK2 : Hid (∀ (W : World) (V' : Nat → Prop) (ap : Option Addr), Sto W B w2.heap.size (w1.heap.size + 1) w1.heap.size g gl gt V' L (FS k) 0 ao n cap (rowN Lb) s r (lastL Lb) → RdP W ap b.ps.length b.ps.length (b.ps.map PutG.can) → Calls Try.prog 15 #[tp w2.heap.size, btV b.lsn b.cl b.ep b.tx ap b.ps.length b.ps.length] W fun x w' => x = .returned (.int .i64 0) ∧ Left W w' (w1.heap.size + 1) w1.heap.size g gl V' L (FS (k + 1)) 0) := HK
      clear HK
      have hbx := below_box wr (btO b.lsn b.cl b.ep b.tx ap b.ps.length b.ps.length)
      have hSb := hS.below hbx
      go_wp2_with (first
        | (go_at_call 15; refine (HK2.out _ _ ap hSb (hP.rd.below hbx)).mono ?_; rintro x w5 ⟨rfl, hL5⟩)
        | (fail))
      obtain ⟨⟨V5, hS5⟩, hB5, hO5⟩ := hSb.left hL5
      go_roundw
      case rel => exact ⟨k + 1, by omega, by go_num, ⟨V5, hS5⟩, (hF.below hbx).keep (fun q a1 a2 => hO5.block q a2 (by omega) (by omega) (by omega)) hO5.size, (hbel.alloc (by have := hS.leB; omega) _).trans hB5⟩
      case measure => simp [intOf]; omega
    · have hkm : k = m := by omega
      subst hkm
      go_wp2
      go_ret2
      exact ⟨_, _, _, _, rfl, ⟨V', hS⟩, hbel⟩

end Go.Proofs.Ythckdfggnmoaeaa
