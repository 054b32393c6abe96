/- A store with its own blocks: what its calls leave of it, and that all else stays. -/
import Derived.Test.YtpofihiojhbfgaaGreatDoorB3
import Derived.Test.YtpofihiojhbfgaaGreatDoorB4
namespace Go.Proofs.YtpofihiojhbfgaaGreatDoor
open Go.RowKit
set_option linter.unusedVariables false
set_option maxRecDepth 8000

def StB (gs gp gf g gl gt : Nat) (V : Nat → Prop) (ao : Option Addr) (k : Nat) : Prop := k = gs ∨ LgB gl gt ao k ∨ PlB gp gf g V k

def Sw (w : World) (B : Nat) (S : Nat → Prop) (gs : Nat) (L : List Sec) (F : List Fr) (hd n : Nat) (bs : List Nat) (s r last : Nat) : Prop :=
  ∃ gp gf g gl gt V ao cap, Sto w B gs gp gf g gl gt V L F hd ao n cap bs s r last ∧ (∀ k, StB gs gp gf g gl gt V ao k → S k) ∧ ∀ k, S k → k < w.heap.size

structure Ns (w w' : World) (B : Nat) (S : Nat → Prop) (gs : Nat) (L : List Sec) (F : List Fr) (hd n : Nat) (bs : List Nat) (s r last : Nat) : Prop where
  st : ∃ S', (∀ k, S' k → S k ∨ w.heap.size ≤ k) ∧ Sw w' B S' gs L F hd n bs s r last
  off : OffS S w w'
  bel : Below B w w'

section
variable {w w' w1 : World} {B gs gp gf g gl gt : Nat} {V V' S : Nat → Prop} {L L' : List Sec} {F F' : List Fr} {hd hd' : Nat} {ao ao' : Option Addr} {n cap n' cap' : Nat} {bs bs' : List Nat} {s r last s' last' : Nat}

theorem Sto.keepS (h : Sto w B gs gp gf g gl gt V L F hd ao n cap bs s r last) (hs : w.heap.size ≤ w'.heap.size) (hk : ∀ k, StB gs gp gf g gl gt V ao k → w'.heap[k]? = w.heap[k]?) : Sto w' B gs gp gf g gl gt V L F hd ao n cap bs s r last :=
  ⟨h.st.keep (hk gs (.inl rfl)) hs, h.pd.blocks hs (fun k _ hP => hk k (.inr (.inr hP))), h.lg.blocks hs (fun k _ hL => hk k (.inr (.inl hL))), fun k hx => Nat.lt_of_lt_of_le (h.v k hx) hs, h.ap, h.sl, h.sp, h.b⟩

theorem Sto.allLt (h : Sto w B gs gp gf g gl gt V L F hd ao n cap bs s r last) : ∀ k, StB gs gp gf g gl gt V ao k → k < w.heap.size := by
  intro k hk
  obtain ⟨h1, h2, h3⟩ := h.lt
  rcases hk with rfl | hk | hk | hk | hk | hk | hk
  · exact h.st.lt
  · exact h.lgLt k hk
  · omega
  · omega
  · omega
  · omega
  · exact h.v k hk

theorem Sto.leftV (h : Sto w B gs gp gf g gl gt V L F hd ao n cap bs s r last) (hl : Left w w' gp gf g gl V L' F' hd') : ∃ V', Sto w' B gs gp gf g gl gt V' L' F' hd' ao n cap bs s r last ∧ (∀ k, V' k → V k ∨ w.heap.size ≤ k) ∧ OffS (StB gs gp gf g gl gt V ao) w w' ∧ Below B w w' := by
  obtain ⟨V1, h1, h2, h3⟩ := hl
  have hb := h3.below h.b.1 h.b.2.1 h.b.2.2 h.leB
  have hk : ∀ k, k < w.heap.size → ¬ PlB gp gf g V k → w'.heap[k]? = w.heap[k]? := fun k hk hn => h3.block k hk (fun e => hn (.inl e)) (fun e => hn (.inr (.inl e))) (fun e => hn (.inr (.inr (.inl e))))
  have hp : ∀ k, k < w.heap.size → PlB gp gf g (fun k => V1 k ∧ k < w'.heap.size) k → PlB gp gf g V k := by
    intro k hk hx
    rcases hx with hx | hx | hx | hx | hx
    · exact .inl hx
    · exact .inr (.inl hx)
    · exact .inr (.inr (.inl hx))
    · exact .inr (.inr (.inr (.inl hx)))
    · exact .inr (.inr (.inr (.inr (h2 k hk hx.1))))
  refine ⟨fun k => V1 k ∧ k < w'.heap.size, ⟨h.st.keep (hk gs h.st.lt h.sp) h3.size, h1.tight, h.lg.blocks h3.size (fun k hk2 hx => hk k hk2 (h.ap k hx)), fun k hx => hx.2, fun k hx hy => h.ap k hx (hp k (h.lgLt k hx) hy), h.sl, fun hy => h.sp (hp gs h.st.lt hy), h.b⟩, fun k hx => ?_, ⟨h3.os, h3.tape, h3.output, h3.size, fun k hk2 hn => hk k hk2 fun hx => hn (.inr (.inr hx))⟩, hb⟩
  by_cases hlt : k < w.heap.size
  · exact .inl (h2 k hlt hx.1)
  · exact .inr (by omega)

theorem Ns.of (hS : ∀ k, StB gs gp gf g gl gt V ao k → S k) (h' : Sto w' B gs gp gf g gl gt V' L F hd ao' n cap bs s r last) (hV : ∀ k, V' k → V k ∨ w.heap.size ≤ k) (hN : Nw w ao ao') (ho : OffS (StB gs gp gf g gl gt V ao) w w') (hb : Below B w w') : Ns w w' B S gs L F hd n bs s r last := by
  refine ⟨⟨StB gs gp gf g gl gt V' ao', fun k hk => ?_, gp, gf, g, gl, gt, V', ao', cap, h', fun _ h => h, h'.allLt⟩, ho.mono hS, hb⟩
  rcases hk with rfl | (hk | hk | ⟨a, ha, rfl⟩) | hk | hk | hk | hk | hk
  · exact .inl (hS _ (.inl rfl))
  · exact .inl (hS _ (.inr (.inl (.inl hk))))
  · exact .inl (hS _ (.inr (.inl (.inr (.inl hk)))))
  · rcases hN a ha with ⟨c, hc, e⟩ | hc
    · exact .inl (hS _ (.inr (.inl (.inr (.inr ⟨c, hc, e⟩)))))
    · exact .inr hc
  · exact .inl (hS _ (.inr (.inr (.inl hk))))
  · exact .inl (hS _ (.inr (.inr (.inr (.inl hk)))))
  · exact .inl (hS _ (.inr (.inr (.inr (.inr (.inl hk))))))
  · exact .inl (hS _ (.inr (.inr (.inr (.inr (.inr (.inl hk)))))))
  · rcases hV k hk with h | h
    · exact .inl (hS _ (.inr (.inr (.inr (.inr (.inr (.inr h)))))))
    · exact .inr h

theorem Sw.lt (h : Sw w B S gs L F hd n bs s r last) : ∀ k, S k → k < w.heap.size := by
  obtain ⟨gp, gf, g, gl, gt, V, ao, cap, h1, h2, h3⟩ := h
  exact h3

theorem Sw.keep (h : Sw w B S gs L F hd n bs s r last) (hs : w.heap.size ≤ w'.heap.size) (hk : ∀ k, S k → w'.heap[k]? = w.heap[k]?) : Sw w' B S gs L F hd n bs s r last := by
  obtain ⟨gp, gf, g, gl, gt, V, ao, cap, h1, h2, h3⟩ := h
  exact ⟨gp, gf, g, gl, gt, V, ao, cap, h1.keepS hs fun k hB => hk k (h2 k hB), h2, fun k hS => Nat.lt_of_lt_of_le (h3 k hS) hs⟩

theorem Sw.below (h : Sw w B S gs L F hd n bs s r last) (hb : Below w.heap.size w w') : Sw w' B S gs L F hd n bs s r last := h.keep hb.size fun k hk => hb.block k (h.lt k hk)

theorem pageS_hit {x : Fr} {T : List Fr} (H : Sw w B S gs L (x :: T) hd n bs s r last) (p : Int) (hx : x.has p = true) :
    Calls Tryz.prog 17 #[tp gs, .int .i64 p] w fun e w' => e = .returned (.tuple #[pgV x.l x.a x.b x.c x.d, .int .i64 0]) ∧ Ns w w' B S gs L (x.use :: T) hd n bs s r last := by
  obtain ⟨gp, gf, g, gl, gt, V, ao, cap, h, h2, h3⟩ := H
  refine (page_store gs gp gf g gl V p x.l x.a x.b x.c x.d L (x.use :: T) hd w h.st h.lt h.v (gets_hit h.pd h.v p hx)).mono ?_
  rintro e w' ⟨rfl, hl⟩
  obtain ⟨V', k1, k2, k3, k4⟩ := h.leftV hl
  exact ⟨rfl, .of h2 k1 k2 (Nw.refl _ _) k3 k4⟩

theorem pageS_new {T : List Fr} (H : Sw w B S gs L (Fr.e :: T) hd n bs s r last) (p : Nat) (hp : p < L.length) (hb : L[p].b = []) (hT : ∀ y ∈ T, y.has (p : Int) = false) :
    Calls Tryz.prog 17 #[tp gs, .int .i64 (p : Int)] w fun e w' => e = .returned (.tuple #[pgV 0 zO zO zO zO, .int .i64 0]) ∧ Ns w w' B S gs L (Fr.of (p : Int) 0 zO zO zO zO :: T) hd n bs s r last := by
  obtain ⟨gp, gf, g, gl, gt, V, ao, cap, h, h2, h3⟩ := H
  refine (page_store gs gp gf g gl V (p : Int) 0 zO zO zO zO L (Fr.of (p : Int) 0 zO zO zO zO :: T) hd w h.st h.lt h.v (gets_new h.pd h.v p hp hb hT)).mono ?_
  rintro e w' ⟨rfl, hl⟩
  obtain ⟨V', k1, k2, k3, k4⟩ := h.leftV hl
  exact ⟨rfl, .of h2 k1 k2 (Nw.refl _ _) k3 k4⟩

theorem syncS (H : Sw w B S gs L F hd n bs s r last) :
    Calls Tryz.prog 35 #[tp gs] w fun e w' => e = .returned (.tuple #[]) ∧ Ns w w' B S gs L F hd n bs n r last := by
  obtain ⟨gp, gf, g, gl, gt, V, ao, cap, h, h2, h3⟩ := H
  refine sync_store gs g gl gp w h.st _ ((force_log B gl gt ao n cap bs s r last w h.lg).mono ?_)
  rintro e w' ⟨rfl, k1, k2, k3⟩
  exact ⟨rfl, .of h2 (h.log k1 (OffL.of_off2 gl k3) (Nw.refl _ _)) (fun k hk => .inl hk) (Nw.refl _ _) ⟨k3.os, k3.tape, k3.output, k3.size, fun k hk hn => k3.block k hk (fun e => hn (.inr (.inl (.inr (.inl e))))) fun a ha e => hn (.inr (.inl (.inr (.inr ⟨a, ha, e⟩))))⟩ k2⟩

theorem durS {Lb : List Bt} {rest : List Nat} (H : Sw w B S gs L F hd n (rowN Lb ++ rest) s r last) (hs : s = (rowN Lb).length) (hok : ∀ b ∈ Lb, BtOk b) (hch : Chain Lb) :
    Calls Tryz.prog 18 #[tp gs] w fun e w' => e = .returned (.int .i64 (lastL Lb : Int)) ∧ Below w.heap.size w w' := by
  obtain ⟨gp, gf, g, gl, gt, V, ao, cap, h, h2, h3⟩ := H
  exact durable_store gs g gl gp _ w h.st (durable_log B gl gt ao n cap Lb rest s r last w h.lg hs hok hch)

theorem openS (B g gt : Nat) (V : Nat → Prop) (m r frames : Nat) (w : World) (hT : Tp w B gt none 0 0 [] 0 r) (hD : Drv w g V (L0 m)) (hv : ∀ k, V k → k < w.heap.size) (hA : Apt gt g V none) (hBg : B ≤ g) (h1 : 1 ≤ frames) (h6 : frames ≤ 6) :
    Calls Tryz.prog 9 #[tp gt, dp g, .int .i64 (frames : Int)] w fun x w' => ∃ gs S, x = .returned (.tuple #[tp gs, .int .i64 0]) ∧ Sw w' B S gs (L0 m) (List.replicate frames Fr.e) 0 0 (rowN []) 0 r 0 ∧ Below B w w' := by
  refine (op0 B g gt V m r frames w hT hD hv hA hBg h1 h6).mono ?_
  rintro x w' ⟨gs, gp, gf, gl, rfl, ⟨V', h⟩, hb⟩
  exact ⟨gs, StB gs gp gf g gl gt V' none, rfl, ⟨gp, gf, g, gl, gt, V', none, 0, h, fun _ h => h, h.allLt⟩, hb⟩
end

set_option maxRecDepth 100000 in
set_option maxHeartbeats 1600000 in
theorem commit_far (B gs gp gf g gl gt : Nat) (V : Nat → Prop) (L : List Sec) (F F1 F2 : List Fr) (hd hd1 hd2 : Nat) (ao : Option Addr) (n cap : Nat) (bs : List Nat) (s r last : Nat) (b : Bt) (p : PutG) (ap : Option Addr) (cp : Nat) (l0 : Int) (a0 b0 c0 d0 : Nat × Nat) (w : World)
    (h : Sto w B gs gp gf g gl gt V L F hd ao n cap bs s r last) (hp : RdP w ap 1 cp [p]) (hna : ∀ a, ap = some a → ¬ LgB gl gt ao a.block) (hb : b.ps = [p]) (hl : b.lsn = last + 1) (hok : BtOk b) (hfit : n + 42 ≤ r) (hpl : p.pg < L.length) (h0 : l0 < b.lsn)
    (HG : ∀ (W : World) (V' : Nat → Prop), St W gp gf g gl V' L F hd → (∀ k, V' k → k < W.heap.size) → Gets W gp gf g gl V' (p.pg : Int) l0 a0 b0 c0 d0 L F1 hd1)
    (HS : Sets gp gf g gl (p.pg : Int) (b.lsn : Int) (putO p.ob p.c 0 a0) (putO p.ob p.c 1 b0) (putO p.ob p.c 2 c0) (putO p.ob p.c 3 d0) L F1 hd1 L F2 hd2) :
    Calls Tryz.prog 128 #[tp gs, .int .i64 b.cl, .int .i64 b.ep, .int .i64 b.tx, .slice ap 1 cp] w fun x w' => x = .returned (.tuple #[.int .i64 (b.lsn : Int), .int .i64 0]) ∧ ∃ V' ao' cap', Sto w' B gs gp gf g gl gt V' L F2 hd2 ao' (n + 42) cap' (bs ++ wbN b) s r b.lsn ∧ (∀ k, V' k → V k ∨ w.heap.size ≤ k) ∧ Nw w ao ao' ∧ OffS (StB gs gp gf g gl gt V ao) w w' ∧ Below B w w' := by
  have HI : Hid (Calls Tryz.prog 162 #[.slice ap 1 cp, .func (.func 163) #[tp gs] #[]] w fun x w' => x = .returned (.bool false) ∧ Below w.heap.size w w') := contains_no gs g gl gp V L ap 1 cp [p] w h.st h.pd.d hp (by intro q hq; simp only [List.mem_cons, List.not_mem_nil, or_false] at hq; subst hq; exact hpl) (by omega)
  have hmf : ∀ (fn : Fn) (first cap : Array Value) (w : World), (Instr.makeFunc fn first cap).run Tryz.prog w = .ok (.func fn first cap) w := fun _ _ _ _ => rfl
  have hpp := hok.ps.pg p (by rw [hb]; simp)
  have hbl := hok.lsn
  have hlB : lsnB (b.lsn : Int) = true := by simp [lsnB]; omega
  have HA : Hid (∀ W : World, LogAt W B gl gt ao n cap bs s r last → RdP W ap 1 cp [p] → Calls Tryz.prog 164 #[tp gl, btV 0 b.cl b.ep b.tx ap 1 cp] W fun x w' => x = .returned (.tuple #[.int .i64 (b.lsn : Int), .int .i64 0]) ∧ ∃ ao2 cap2, LogAt w' B gl gt ao2 (n + 42) cap2 (bs ++ wbN b) s r b.lsn ∧ Below B W w' ∧ OffL gl gt ao W w' ∧ Nw W ao ao2) := by
    intro W hW hR
    rw [← hb] at hR
    have := append_log B gl gt ao n cap bs s r last b 0 ap 1 cp W hW hR hl hok hfit
    rw [← hl] at this
    exact this
  have H1 : Hid (∀ (W : World) (V' : Nat → Prop), St W gp gf g gl V' L F hd → (∀ k, V' k → k < W.heap.size) → Gets W gp gf g gl V' (p.pg : Int) l0 a0 b0 c0 d0 L F1 hd1) := HG
  have H2 : Hid (Sets gp gf g gl (p.pg : Int) (b.lsn : Int) (putO p.ob p.c 0 a0) (putO p.ob p.c 1 b0) (putO p.ob p.c 2 c0) (putO p.ob p.c 3 d0) L F1 hd1 L F2 hd2) := HS
  have HP : Hid (RdP w ap 1 cp [p]) := hp
  have HN : Hid (∀ a, ap = some a → ¬ LgB gl gt ao a.block) := hna
  clear HG HS hp hb hl hok hna
  go_enter Tryz.func128, Tryz.ntmps128
  go_upto_region 4 with (first
    | (go_at_call 162; refine HI.out.mono ?_; rintro x w1 ⟨rfl, hb1⟩)
    | (fail))
  have hbx := below_box w1 (btO 0 b.cl b.ep b.tx ap 1 cp)
  have hS1 := (h.below hb1).below hbx
  have r0 := hS1.st.c1
  have hS2 := hS1.below ((Below.refl _ _).drew)
  have hp2 := ((HP.out.below hb1).below hbx).below ((Below.refl _ _).drew)
  go_region_with (first
    | (go_at_call 164; refine (HA.out _ hS2.lg hp2).mono ?_; rintro x w3 ⟨rfl, ao3, cap3, hlg3, hb3, hO3, hN3⟩; obtain ⟨hS4, hp4, hq3, hB4⟩ := commit_mid (.int .i64 (b.lsn : Int)) h HP.out HN.out hb1 hlg3 hO3 hN3; have q0 := hq3.c0; have q1 := hq3.c1; have q2 := hq3.c2; have q3 := hq3.c3; have q4 := hq3.c4; have y0 := hq3.fz 0)
    | (fail))
  all_goals (
    go_wp2_with (first
      | (go_at_call 30; refine (apply_one gs gp gf g gl V L L F1 F2 hd1 hd2 p l0 b.lsn b.cl b.ep b.tx a0 b0 c0 d0 ap cp _ hS4.st hS4.lt hS4.apart hS4.v hp4 (by omega) (by omega) hlB h0 (H1.out _ _ hS4.pd hS4.v) H2.out).mono ?_; rintro x w5 ⟨rfl, hL5⟩)
      | (fail))
    go_ret2
    have hs1 := hb1.size
    have hBw : Below w.heap.size w (w1.alloc (btO 0 b.cl b.ep b.tx ap 1 cp)).drew := below_step hb1 ((below_box w1 _).drew)
    have hsz := hBw.size
    have hN : Nw w ao ao3 := fun a ha => (hN3 a ha).imp id fun hh => Nat.le_trans hsz hh
    have hO1 : OffS (StB gs gp gf g gl gt V ao) w w3 := (OffS.of_below hBw).trans ⟨hO3.os, hO3.tape, hO3.output, hO3.size, fun k hk hn => hO3.block k hk (fun e => hn (.inl (.inr (.inl (.inl e))))) (fun e => hn (.inl (.inr (.inl (.inr (.inl e)))))) fun a ha e => hn (.inl (.inr (.inl (.inr (.inr ⟨a, ha, e⟩)))))⟩
    have hO4 : OffS (StB gs gp gf g gl gt V ao) w (w3.setCell ⟨w1.heap.size, 0, none⟩ (.int .i64 (b.lsn : Int))) := hO1.trans (OffS.setCell (OffS.refl _ _) (.inr hs1) _)
    have hz4 := hO4.size
    obtain ⟨V5, hS5, hV5, hO5, hB5⟩ := hS4.leftV hL5
    refine ⟨rfl, V5, ao3, cap3, hS5, fun k hk => (hV5 k hk).imp id fun hh => Nat.le_trans hz4 hh, hN, hO4.trans (hO5.mono fun k hk => ?_), hB4.trans hB5⟩
    rcases hk with hk | (hk | hk | ⟨a, ha, e⟩) | hk
    · exact .inl (.inl hk)
    · exact .inl (.inr (.inl (.inl hk)))
    · exact .inl (.inr (.inl (.inr (.inl hk))))
    · rcases hN a ha with ⟨c, hc, e3⟩ | hc
      · exact .inl (.inr (.inl (.inr (.inr ⟨c, hc, e3.trans e⟩))))
      · exact .inr (e ▸ hc)
    · exact .inl (.inr (.inr hk)))

theorem commitS_hit {w : World} {B gs : Nat} {S : Nat → Prop} {L : List Sec} {hd n : Nat} {bs : List Nat} {s r last : Nat} {x : Fr} {T : List Fr} (H : Sw w B S gs L (x :: T) hd n bs s r last) (b : Bt) (p : PutG) (ap : Option Addr) (cp : Nat) (hp : RdP w ap 1 cp [p]) (hna : ∀ a, ap = some a → ¬ S a.block) (hb : b.ps = [p]) (hl : b.lsn = last + 1) (hok : BtOk b) (hfit : n + 42 ≤ r) (hpl : p.pg < L.length) (hx : x.has (p.pg : Int) = true) (h0 : x.l < b.lsn) (hlB : lsnB (b.lsn : Int) = true) :
    Calls Tryz.prog 128 #[tp gs, .int .i64 b.cl, .int .i64 b.ep, .int .i64 b.tx, .slice ap 1 cp] w fun e w' => e = .returned (.tuple #[.int .i64 (b.lsn : Int), .int .i64 0]) ∧ Ns w w' B S gs L ({ x.use with l := b.lsn, a := putO p.ob p.c 0 x.a, b := putO p.ob p.c 1 x.b, c := putO p.ob p.c 2 x.c, d := putO p.ob p.c 3 x.d, dr := true, us := true } :: T) hd (n + 42) (bs ++ wbN b) s r b.lsn := by
  obtain ⟨gp, gf, g, gl, gt, V, ao, cap, h, h2, h3⟩ := H
  refine (commit_far B gs gp gf g gl gt V L (x :: T) (x.use :: T) _ hd hd hd ao n cap bs s r last b p ap cp x.l x.a x.b x.c x.d w h hp (fun a ha e => hna a ha (h2 _ (.inr (.inl e)))) hb hl hok hfit hpl h0 (fun W V' hW hV => gets_hit hW hV _ hx) (sets_hit gp gf g gl L hd x.use T _ _ _ _ _ _ (by simpa [Fr.use, Fr.has] using hx) hlB)).mono ?_
  rintro e w' ⟨rfl, V', ao', cap', k1, k2, k3, k4, k5⟩
  exact ⟨rfl, .of h2 k1 k2 k3 k4 k5⟩

end Go.Proofs.YtpofihiojhbfgaaGreatDoor
