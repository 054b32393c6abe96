/- What Commit of package store does, walked: with a page that is none, and with one put. What Open of package store does, walked, out of what apply does with each commit. What Map of package store does, walked, out of what Get does with each page. Gets and Sets of pages: of one that isn't in a frame, of one that is; and the steps of the chapter's example. -/
import Derived.Test.YtpofihiojhbfgaaGreatDoorQ4
import Derived.Maps.AppendAt
namespace Go.Proofs.YtpofihiojhbfgaaGreatDoor
open Go.RowKit
set_option linter.unusedVariables false
set_option maxRecDepth 8000

theorem RdP.off {w w' : World} {ap : Option Addr} {n cp : Nat} {ps : List PutG} (h : RdP w ap n cp ps) (hk : ∀ a, ap = some a → a.block < w.heap.size → w'.heap[a.block]? = w.heap[a.block]?) (hs : w.heap.size ≤ w'.heap.size) : RdP w' ap n cp ps := by
  refine ⟨h.len, fun t ht => ?_⟩
  obtain ⟨b, off, e, hlt, h1, h2, h3⟩ := h.cell t ht
  have hb : w'.heap[b]? = w.heap[b]? := hk _ e hlt
  exact ⟨b, off, e, Nat.lt_of_lt_of_le hlt hs, (World.cell?_of_block (w := w) hb).trans h1, (World.cell?_of_block (w := w) hb).trans h2, (World.cell?_of_block (w := w) hb).trans h3⟩

theorem Sto.other {w : World} {B gs gp gf g gl gt : Nat} {V : Nat → Prop} {L : List Sec} {F : List Fr} {hd : Nat} {ao : Option Addr} {n cap : Nat} {bs : List Nat} {s r last : Nat} (h : Sto w B gs gp gf g gl gt V L F hd ao n cap bs s r last) (q j : Nat) (u : Value) (h1 : q ≠ gs) (h2 : ¬ LgB gl gt ao q) (h3 : ¬ PlB gp gf g V q) : Sto (w.setCell ⟨q, j, none⟩ u) B gs gp gf g gl gt V L F hd ao n cap bs s r last := by
  have hk : ∀ k, k ≠ q → (w.setCell ⟨q, j, none⟩ u).heap[k]? = w.heap[k]? := fun k hk => Below.heap_setCell _ _ _ _ hk
  have hsz : (w.setCell ⟨q, j, none⟩ u).heap.size = w.heap.size := by simp [World.setCell]
  exact ⟨h.st.keep (hk gs (Ne.symm h1)) (Nat.le_of_eq hsz.symm), h.pd.blocks (Nat.le_of_eq hsz.symm) (fun k _ hx => hk k (by intro e; subst e; exact h3 hx)), h.lg.blocks (Nat.le_of_eq hsz.symm) (fun k _ hx => hk k (by intro e; subst e; exact h2 hx)), fun k hx => by rw [hsz]; exact h.v k hx, h.ap, h.sl, h.sp, h.b⟩

theorem Sto.apart {w : World} {B gs gp gf g gl gt : Nat} {V : Nat → Prop} {L : List Sec} {F : List Fr} {hd : Nat} {ao : Option Addr} {n cap : Nat} {bs : List Nat} {s r last : Nat} (h : Sto w B gs gp gf g gl gt V L F hd ao n cap bs s r last) : gs ≠ gp ∧ gs ≠ gf ∧ gs ≠ g :=
  ⟨fun e => h.sp (.inl e), fun e => h.sp (.inr (.inl e)), fun e => h.sp (.inr (.inr (.inl e)))⟩

theorem Sto.new {w : World} {B gs gp gf g gl gt : Nat} {V : Nat → Prop} {L : List Sec} {F : List Fr} {hd : Nat} {ao : Option Addr} {n cap : Nat} {bs : List Nat} {s r last : Nat} (h : Sto w B gs gp gf g gl gt V L F hd ao n cap bs s r last) (q : Nat) (hq : w.heap.size ≤ q) : q ≠ gs ∧ ¬ LgB gl gt ao q ∧ ¬ PlB gp gf g V q := by
  refine ⟨by have := h.st.lt; omega, fun hx => by have := h.lgLt q hx; omega, ?_⟩
  obtain ⟨h1, h2, h3⟩ := h.lt
  rintro (h4 | h4 | h4 | h4 | h4)
  · omega
  · omega
  · omega
  · omega
  · have := h.v q h4; omega

theorem commit_mid {w w1 w3 : World} {B gs gp gf g gl gt : Nat} {V : Nat → Prop} {L : List Sec} {F : List Fr} {hd : Nat} {ao ao3 : Option Addr} {n cap n3 cap3 : Nat} {bs bs3 : List Nat} {s r last last3 : Nat} {cl ep tx : Int} {ap : Option Addr} {cp : Nat} {p : PutG} (u : Value)
    (h : Sto w B gs gp gf g gl gt V L F hd ao n cap bs s r last) (hp : RdP w ap 1 cp [p]) (hna : ∀ a, ap = some a → ¬ LgB gl gt ao a.block) (hb1 : Below w.heap.size w w1)
    (hlg : LogAt w3 B gl gt ao3 n3 cap3 bs3 s r last3) (hO : OffL gl gt ao (w1.alloc (btO 0 cl ep tx ap 1 cp)).drew w3) (hN : Nw (w1.alloc (btO 0 cl ep tx ap 1 cp)).drew ao ao3) :
    Sto (w3.setCell ⟨w1.heap.size, 0, none⟩ u) B gs gp gf g gl gt V L F hd ao3 n3 cap3 bs3 s r last3 ∧ RdP (w3.setCell ⟨w1.heap.size, 0, none⟩ u) ap 1 cp [p] ∧ BtAt w3 w1.heap.size 0 cl ep tx ap 1 cp ∧ Below B w (w3.setCell ⟨w1.heap.size, 0, none⟩ u) := by
  have hs1 := hb1.size
  have hbx : Below w1.heap.size w1 (w1.alloc (btO 0 cl ep tx ap 1 cp)).drew := (below_box w1 _).drew
  have hB : Below w.heap.size w (w1.alloc (btO 0 cl ep tx ap 1 cp)).drew := below_step hb1 hbx
  have h2 := h.below hB
  have e2 : (w1.alloc (btO 0 cl ep tx ap 1 cp)).drew.heap.size = w1.heap.size + 1 := by simp
  obtain ⟨n1, n2, n3⟩ := h.new w1.heap.size hs1
  have hq : (BtAt (w1.alloc (btO 0 cl ep tx ap 1 cp)).drew w1.heap.size 0 cl ep tx ap 1 cp) := (BtAt.new w1 0 cl ep tx ap 1 cp).keep rfl (Nat.le_refl _)
  have hk : ∀ k, k < (w1.alloc (btO 0 cl ep tx ap 1 cp)).drew.heap.size → ¬ LgB gl gt ao k → w3.heap[k]? = (w1.alloc (btO 0 cl ep tx ap 1 cp)).drew.heap[k]? := fun k hk hn => hO.block k hk (fun e => hn (.inl e)) (fun e => hn (.inr (.inl e))) (fun a ha e => hn (.inr (.inr ⟨a, ha, e⟩)))
  have h3 := h2.log hlg hO hN
  have n2' : ¬ LgB gl gt ao3 w1.heap.size := by
    rintro (h4 | h4 | ⟨a, ha, e⟩)
    · exact n2 (.inl h4)
    · exact n2 (.inr (.inl h4))
    · rcases hN a ha with ⟨c, hc, e3⟩ | hc
      · exact n2 (.inr (.inr ⟨c, hc, e3.trans e⟩))
      · omega
  refine ⟨h3.other _ _ _ n1 n2' n3, ?_, hq.keep (hk _ (by omega) n2) hO.size, ?_⟩
  · have hp3 := (hp.below hB).off (w' := w3) (fun a ha hl => hk _ hl (hna a ha)) hO.size
    refine hp3.off (fun a ha hl => Below.heap_setCell _ _ _ _ ?_) (by simp [World.setCell])
    obtain ⟨b, off, e, hlt, _⟩ := hp.cell 0 (by simp)
    rw [ha] at e
    cases e
    show b ≠ w1.heap.size
    omega
  · have hB0 : Below B w (w1.alloc (btO 0 cl ep tx ap 1 cp)).drew := hB.mono h.leB
    exact (hB0.trans (h2.belowL hO)).setCell (by have := h.leB; show B ≤ w1.heap.size; omega) _

end Go.Proofs.YtpofihiojhbfgaaGreatDoor

namespace Go.Proofs.YtpofihiojhbfgaaGreatDoor
open Go.RowKit
set_option linter.unusedVariables false
set_option maxRecDepth 8000

structure Apt (gt g : Nat) (V : Nat → Prop) (ao : Option Addr) : Prop where
  t : gt ≠ g ∧ gt ≠ g + 1 ∧ ¬ V gt
  a : ∀ a, ao = some a → a.block ≠ g ∧ a.block ≠ g + 1 ∧ ¬ V a.block

theorem Sto.start {w w1 w2 : World} {B g gl gt : Nat} {V : Nat → Prop} {L : List Sec} {F : List Fr} {ao : Option Addr} {n cap : Nat} {bs : List Nat} {s r last : Nat} (hD : Drv w g V L) (hv : ∀ k, V k → k < w.heap.size) (hA : Apt gt g V ao) (hBg : B ≤ g)
    (hl : LogAt w1 B gl gt ao n cap bs s r last) (hO : Off2 gt ao w w1) (hgl : w.heap.size ≤ gl) (hP : Pl w2 (w1.heap.size + 1) w1.heap.size g gl F 0) (hb2 : Below w1.heap.size w1 w2) (hs2 : w2.heap.size = w1.heap.size + 2) :
    Sto (w2.alloc (.cells #[dp g, tp gl, tp (w1.heap.size + 1)] 79)) B w2.heap.size (w1.heap.size + 1) w1.heap.size g gl gt V L F 0 ao n cap bs s r last := by
  have hs1 := hO.size
  have hdl := hD.lt
  have hbx := below_box w2 (.cells #[dp g, tp gl, tp (w1.heap.size + 1)] 79)
  have hD1 : Drv w1 g V L := hD.kept ⟨hs1, fun k hk hx => hO.block k hk (by intro e; subst e; rcases hx with hx | hx | hx; exact hA.t.2.2 hx; exact hA.t.1 hx; exact hA.t.2.1 hx) (fun a ha e => by subst e; rcases hx with hx | hx | hx; exact (hA.a a ha).2.2 hx; exact (hA.a a ha).1 hx; exact (hA.a a ha).2.1 hx)⟩
  have hll : ∀ k, LgB gl gt ao k → k < w1.heap.size := by
    intro k hk
    rcases hk with rfl | rfl | ⟨a, ha, rfl⟩
    · exact hl.l.lt
    · exact hl.t.hd.lt
    · exact hl.t.own.lt a ha
  have hpl : ∀ k, PlB (w1.heap.size + 1) w1.heap.size g V k → k < w1.heap.size + 2 := by
    intro k hk
    rcases hk with hk | hk | hk | hk | hk
    · omega
    · omega
    · omega
    · omega
    · have := hv k hk; omega
  have hBs : B ≤ w1.heap.size := by omega
  refine ⟨Ss.new w2 g gl (w1.heap.size + 1), St.below ⟨hP, hD1.below hb2, by omega, by omega, by omega, by omega, fun h => ?_, fun h => ?_⟩ hbx, (hl.below hb2).below hbx, fun k hk => ?_, fun k hk hx => ?_, fun hk => ?_, fun hk => ?_, ⟨by omega, by omega, hBg⟩⟩
  · have := hv _ h; omega
  · have := hv _ h; omega
  · have := hv k hk; simp; omega
  · have h1 := hll k hk
    rcases hx with hx | hx | hx | hx | hx
    · omega
    · omega
    · subst hx
      rcases hk with hk | hk | ⟨a, ha, hk⟩
      · omega
      · exact hA.t.1 hk.symm
      · exact (hA.a a ha).1 hk
    · subst hx
      rcases hk with hk | hk | ⟨a, ha, hk⟩
      · omega
      · exact hA.t.2.1 hk.symm
      · exact (hA.a a ha).2.1 hk
    · rcases hk with hk | hk | ⟨a, ha, hk⟩
      · have := hv k hx; omega
      · subst hk; exact hA.t.2.2 hx
      · subst hk; exact (hA.a a ha).2.2 hx
  · have := hll _ hk; omega
  · have := hpl _ hk; omega

set_option maxRecDepth 100000 in
set_option maxHeartbeats 1600000 in
theorem open_store (B g gt : Nat) (V : Nat → Prop) (L : List Sec) (ao : Option Addr) (n cap : Nat) (Lb : List Bt) (s r frames : Nat) (FS : Nat → List Fr) (w : World) (hT : Tp w B gt ao n cap (rowN Lb) s r) (hok : ∀ b ∈ Lb, BtOk b) (hch : Chain Lb)
    (hD : Drv w g V L) (hv : ∀ k, V k → k < w.heap.size) (hA : Apt gt g V ao) (hBg : B ≤ g) (h1 : 1 ≤ frames) (h6 : frames ≤ 6) (hF0 : List.replicate frames Fr.e = FS 0)
    (HA : ∀ k (hk : k < Lb.length) (gs gp gf gl : Nat) (W : World) (V' : Nat → Prop) (ap : Option Addr), Sto W B gs gp gf g gl gt V' L (FS k) 0 ao n cap (rowN Lb) s r (lastL Lb) → RdP W ap Lb[k].ps.length Lb[k].ps.length (Lb[k].ps.map PutG.can) → Calls Tryz.prog 30 #[tp gs, btV Lb[k].lsn Lb[k].cl Lb[k].ep Lb[k].tx ap Lb[k].ps.length Lb[k].ps.length] W fun x w' => x = .returned (.int .i64 0) ∧ Left W w' gp gf g gl V' L (FS (k + 1)) 0) :
    Calls Tryz.prog 9 #[tp gt, dp g, .int .i64 (frames : Int)] w fun x w' => ∃ gs gp gf gl, x = .returned (.tuple #[tp gs, .int .i64 0]) ∧ (∃ V', Sto w' B gs gp gf g gl gt V' L (FS Lb.length) 0 ao n cap (rowN Lb) s r (lastL Lb)) ∧ Below B w w' := by
  have HH : Hid (∀ k (hk : k < Lb.length) (gs gp gf gl : Nat) (W : World) (V' : Nat → Prop) (ap : Option Addr), Sto W B gs gp gf g gl gt V' L (FS k) 0 ao n cap (rowN Lb) s r (lastL Lb) → RdP W ap Lb[k].ps.length Lb[k].ps.length (Lb[k].ps.map PutG.can) → Calls Tryz.prog 30 #[tp gs, btV Lb[k].lsn Lb[k].cl Lb[k].ep Lb[k].tx ap Lb[k].ps.length Lb[k].ps.length] W fun x w' => x = .returned (.int .i64 0) ∧ Left W w' gp gf g gl V' L (FS (k + 1)) 0) := HA
  have HOK : Hid (∀ b ∈ Lb, BtOk b) := hok
  have HC : Hid (Chain Lb) := hch
  have HF : Hid (List.replicate frames Fr.e = FS 0) := hF0
  have hle := hT.le
  have HLL : Hid (Lb.length ≤ 20000) := by
    have h2 := rowN_le Lb
    have h3 := hT.own.len
    show Lb.length ≤ 20000
    omega
  obtain ⟨m, hm⟩ : ∃ m, Lb.length = m := ⟨_, rfl⟩
  have HM : Hid (Lb.length = m) := hm
  have hm2 : m ≤ 20000 := by have := HLL.out; omega
  clear HA hok hch hF0 hle
  rw [hm]
  clear hm
  go_enter Tryz.func9, Tryz.ntmps9
  go_wp2_with (first
    | (go_at_call 29; refine (commits_log B gl gt ao n cap Lb s r _ _ hS3.lg HOK.out HC.out).mono ?_; rintro x w4 ⟨v, rfl, hF4, hb4⟩; obtain ⟨av, cv, rfl, -⟩ := hF4.shape; rw [HM.out])
    | (go_at_call 28; refine (pnew_any frames g gl h1 h6 _).mono ?_; rintro x w2 ⟨rfl, hP2, hs2, hb2⟩; have HS2 : Hid (w2.heap.size = w1.heap.size + 2) := hs2; clear hs2; rw [HF.out] at hP2; have hS3 := Sto.start hD hv hA hBg hG1 hO1 hgl hP2 hb2 HS2.out)
    | (go_at_call 27; refine (open_log B gt ao n cap Lb s r _ hT HOK.out HC.out).mono ?_; rintro x w1 ⟨gl, rfl, hG1, hb1, hgl, hO1⟩)
    | (fail))
  have hBw1 : B ≤ w1.heap.size := by have := hb1.size; have := hD.lt; omega
  have hs12 := hb2.size
  have hB3 : Below B w (w2.alloc (.cells #[dp g, tp gl, tp (w1.heap.size + 1)] 79)) := (hb1.trans (hb2.mono hBw1)).alloc (by omega) _
  have hS4 := hS3.below hb4
  have hB4 : Below B w w4 := hB3.trans (hb4.mono hS3.leB)
  rw [HM.out] at hF4
  have hbs : w1.heap.size + 2 ≤ (w2.alloc (.cells #[dp g, tp gl, tp (w1.heap.size + 1)] 79)).heap.size := by have := HS2.out; simp; omega
  have hgb : g + 1 < w1.heap.size := by have := hO1.size; have := hD.lt; omega
  generalize (w2.alloc (.cells #[dp g, tp gl, tp (w1.heap.size + 1)] 79)).heap.size = base at *
  clear hS3 hP2 hG1 hO1 hb4 hb2 hb1 hB3
  go_loopw [26] (fun i wr => ∃ k : Nat, k ≤ m ∧ i = .int .i64 k ∧ (∃ V', Sto wr B w2.heap.size (w1.heap.size + 1) w1.heap.size g gl gt V' L (FS k) 0 ao n cap (rowN Lb) s r (lastL Lb)) ∧ Fnd wr base (.slice av m cv) Lb ∧ Below B w wr) (fun i _ => m - (intOf i).toNat)
  case atStart => exact ⟨0, Nat.zero_le _, rfl, ⟨V, hS4⟩, hF4, hB4⟩
  case round =>
    obtain ⟨k, hk, rfl, ⟨V', hS⟩, hF, hbel⟩ := hrel
    clear hS4 hF4 hB4
    by_cases hlt : k < m
    · have hkl : k < Lb.length := by have := HM.out; omega
      obtain ⟨gv, cap', ap, hvv, hgv, -, q0, q1, q2, q3, q4, hP⟩ := hF.at k hkl
      rw [HM.out] at hvv
      simp only [Value.slice.injEq, true_and] at hvv
      obtain ⟨rfl, rfl⟩ := hvv
      have HK := HH.out k hkl w2.heap.size (w1.heap.size + 1) w1.heap.size gl
      generalize Lb[k] = b at *
      have HK2 : Hid (∀ (W : World) (V' : Nat → Prop) (ap : Option Addr), Sto W B w2.heap.size (w1.heap.size + 1) w1.heap.size g gl gt V' L (FS k) 0 ao n cap (rowN Lb) s r (lastL Lb) → RdP W ap b.ps.length b.ps.length (b.ps.map PutG.can) → Calls Tryz.prog 30 #[tp w2.heap.size, btV b.lsn b.cl b.ep b.tx ap b.ps.length b.ps.length] W fun x w' => x = .returned (.int .i64 0) ∧ Left W w' (w1.heap.size + 1) w1.heap.size g gl V' L (FS (k + 1)) 0) := HK
      clear HK
      have hbx := below_box wr (btO b.lsn b.cl b.ep b.tx ap b.ps.length b.ps.length)
      have hSb := hS.below hbx
      go_wp2_with (first
        | (go_at_call 30; refine (HK2.out _ _ ap hSb (hP.rd.below hbx)).mono ?_; rintro x w5 ⟨rfl, hL5⟩)
        | (fail))
      obtain ⟨⟨V5, hS5⟩, hB5, hO5⟩ := hSb.left hL5
      go_roundw
      case rel => exact ⟨k + 1, by omega, by go_num, ⟨V5, hS5⟩, (hF.below hbx).keep (fun q a1 a2 => hO5.block q a2 (by omega) (by omega) (by omega)) hO5.size, (hbel.alloc (by have := hS.leB; omega) _).trans hB5⟩
      case measure => simp [intOf]; omega
    · have hkm : k = m := by omega
      subst hkm
      go_wp2
      go_ret2
      exact ⟨_, _, _, _, rfl, ⟨V', hS⟩, hbel⟩

end Go.Proofs.YtpofihiojhbfgaaGreatDoor

namespace Go.Proofs.YtpofihiojhbfgaaGreatDoor
open Go.RowKit
set_option linter.unusedVariables false
set_option maxRecDepth 8000


end Go.Proofs.YtpofihiojhbfgaaGreatDoor

namespace Go.Proofs.YtpofihiojhbfgaaGreatDoor
open Go.RowKit
set_option linter.unusedVariables false
set_option maxRecDepth 8000

section
variable {w : World} {gp gf g gl : Nat} {V : Nat → Prop} {L L' : List Sec} {hd : Nat} {x x' : Fr}

theorem none_cons {T : List Fr} {n : Int} (h : x.has n = false) (hT : ∀ y ∈ T, y.has n = false) : ∀ j (hj : j < (x :: T).length), (x :: T)[j].has n = false := by
  intro j hj
  rcases List.mem_cons.1 (List.getElem_mem hj) with e | e
  · rw [e]; exact h
  · exact hT _ e

theorem gets_new {T : List Fr} (h : St w gp gf g gl V L (Fr.e :: T) hd) (hv : ∀ k, V k → k < w.heap.size) (n : Nat) (hn : n < L.length) (hb : L[n].b = []) (hT : ∀ y ∈ T, y.has (n : Int) = false) :
    Gets w gp gf g gl V (n : Int) 0 zO zO zO zO L (Fr.of (n : Int) 0 zO zO zO zO :: T) hd := by
  intro W hW
  have hX := h.below hW
  refine pool_get_ok gp gf g gl V L (Fr.of (n : Int) 0 zO zO zO zO :: T) hd (n : Int) 0 (by simp) W ⟨hX.p.lp, hX.p.lf, hX.d.lt⟩ (fun k hk => Nat.lt_of_lt_of_le (hv k hk) hW.size) ?_
  intro W1 h1
  have hY := hX.below h1
  exact load_new gp gf g gl V L L (Fr.e :: T) (Fr.e :: T) hd hd (n : Int) 0 zO zO zO zO 0 (by simp) W1 hY (none_cons rfl hT) (fun W2 h2 => fetch_empty gp gf g gl V L (Fr.e :: T) hd n W2 (hY.below h2) hn hb)
    (fun W2 h2 => (room_empty gp gf g gl (Fr.e :: T) hd 0 (by simp) W2 (hY.below h2).p (by intro j hj; omega) rfl).mono (by rintro e w' ⟨rfl, rfl⟩; exact ⟨rfl, V, hY.below h2, fun _ _ h => h, Off3.refl _ _ _ _⟩))

theorem loads_first {T : List Fr} (h : St w gp gf g gl V L (x :: T) hd) (n : Int) (hn : x.has n = true) : Loads w gp gf g gl V n 0 L (x.use :: T) hd := by
  intro W hW
  refine (load_hit gp gf g gl V L (x :: T) hd n 0 (by simp) W (h.below hW) (by intro j hj; omega) hn).mono ?_
  rintro e w' ⟨rfl, hs, hO⟩
  exact ⟨rfl, V, hs, fun _ _ h => h, hO⟩

theorem gets_hit {T : List Fr} (h : St w gp gf g gl V L (x :: T) hd) (hv : ∀ k, V k → k < w.heap.size) (n : Int) (hn : x.has n = true) :
    Gets w gp gf g gl V n x.l x.a x.b x.c x.d L (x.use :: T) hd := by
  intro W hW
  have hX := h.below hW
  exact pool_get_ok gp gf g gl V L (x.use :: T) hd n 0 (by simp) W ⟨hX.p.lp, hX.p.lf, hX.d.lt⟩ (fun k hk => Nat.lt_of_lt_of_le (hv k hk) hW.size) (loads_first hX n hn)

theorem sets_hit (gp gf g gl : Nat) (L : List Sec) (hd : Nat) (x : Fr) (T : List Fr) (n l : Int) (a b c d : Nat × Nat) (hn : x.has n = true) (hl : lsnB l = true) :
    Sets gp gf g gl n l a b c d L (x :: T) hd L ({ x with l := l, a := a, b := b, c := c, d := d, dr := true, us := true } :: T) hd := by
  intro W V h hv
  exact pool_set_ok gp gf g gl V L (x.use :: T) hd n 0 (by simp) l a b c d W ⟨h.p.lp, h.p.lf, h.d.lt⟩ hv hl (loads_first h n hn)

end

/-! ### the example's commits -/

theorem chain0 : Chain [] := by intro i p q hp hq; simp at hp
abbrev L0 (m : Nat) : List Sec := List.replicate m Sec.e


theorem op0 (B g gt : Nat) (V : Nat → Prop) (m r frames : Nat) (w : World) (hT : Tp w B gt none 0 0 [] 0 r) (hD : Drv w g V (L0 m)) (hv : ∀ k, V k → k < w.heap.size) (hA : Apt gt g V none) (hBg : B ≤ g) (h1 : 1 ≤ frames) (h6 : frames ≤ 6) :
    Calls Tryz.prog 9 #[tp gt, dp g, .int .i64 (frames : Int)] w fun x w' => ∃ gs gp gf gl, x = .returned (.tuple #[tp gs, .int .i64 0]) ∧ (∃ V', Sto w' B gs gp gf g gl gt V' (L0 m) (List.replicate frames Fr.e) 0 none 0 0 (rowN []) 0 r 0) ∧ Below B w w' :=
  open_store B g gt V (L0 m) none 0 0 [] 0 r frames (fun _ => List.replicate frames Fr.e) w hT (by simp) chain0 hD hv hA hBg h1 h6 rfl (fun k hk => by simp at hk)

end Go.Proofs.YtpofihiojhbfgaaGreatDoor
