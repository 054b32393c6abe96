/- What Commit of package store does, walked: with a page that is none, and with one put. -/
import Derived.Test.YthckdfggnmoaeaaQ4
namespace Go.Proofs.Ythckdfggnmoaeaa
open Go.RowKit
set_option linter.unusedVariables false

set_option maxHeartbeats 400000 in
theorem commit_outside (gs g gl gp : Nat) (V : Nat → Prop) (L : List Sec) (cl ep tx : Int) (ap : Option Addr) (n cp : Nat) (p : PutG) (ps : List PutG) (w : World) (hs : Ss w gs g gl gp) (hd : Drv w g V L) (hp : RdP w ap n cp (p :: ps)) (h : L.length ≤ p.pg) (hn : n ≤ 24) :
    Calls Try.prog 7 #[tp gs, .int .i64 cl, .int .i64 ep, .int .i64 tx, .slice ap n cp] w fun x w' => x = .returned (.tuple #[.int .i64 0, .int .i64 51]) ∧ Below w.heap.size w w' := by
  have HI : Hid (Calls Try.prog 17 #[.slice ap n cp, .func (.func 18) #[tp gs] #[]] w fun x w' => x = .returned (.bool true) ∧ Below w.heap.size w w') := contains_first gs g gl gp V L ap n cp p ps w hs hd hp h hn
  have hmf : ∀ (fn : Fn) (first cap : Array Value) (w : World), (Instr.makeFunc fn first cap).run Try.prog w = .ok (.func fn first cap) w := fun _ _ _ _ => rfl
  clear hs hd hp h
  go_enter Try.func7, Try.ntmps7
  go_wp2_with (first
    | (go_at_call 17; refine HI.out.mono ?_; rintro x w1 ⟨rfl, hb1⟩)
    | (fail))
  go_ret2
  exact ⟨rfl, hb1⟩

theorem RdP.off {w w' : World} {ap : Option Addr} {n cp : Nat} {ps : List PutG} (h : RdP w ap n cp ps) (hk : ∀ a, ap = some a → a.block < w.heap.size → w'.heap[a.block]? = w.heap[a.block]?) (hs : w.heap.size ≤ w'.heap.size) : RdP w' ap n cp ps := by
  refine ⟨h.len, fun t ht => ?_⟩
  obtain ⟨b, off, e, hlt, h1, h2, h3⟩ := h.cell t ht
  have hb : w'.heap[b]? = w.heap[b]? := hk _ e hlt
  exact ⟨b, off, e, Nat.lt_of_lt_of_le hlt hs, (World.cell?_of_block (w := w) hb).trans h1, (World.cell?_of_block (w := w) hb).trans h2, (World.cell?_of_block (w := w) hb).trans h3⟩

theorem BtAt.put0 {w : World} {g : Nat} {l c e t : Int} {ao : Option Addr} {n cap : Nat} (h : BtAt w g l c e t ao n cap) (l' : Int) : BtAt (w.setCell ⟨g, 0, none⟩ (.int .i64 l')) g l' c e t ao n cap :=
  ⟨World.cell?_setCell_same _ _ _ h.c0, by rw [put_other _ _ _ _ _ (by omega)]; exact h.c1, by rw [put_other _ _ _ _ _ (by omega)]; exact h.c2, by rw [put_other _ _ _ _ _ (by omega)]; exact h.c3, by rw [put_other _ _ _ _ _ (by omega)]; exact h.c4, fun j => by rw [World.frozen?_setCell]; exact h.fz j, by simpa [World.setCell] using h.lt⟩

/-- A cell of a block beside is set. -/
theorem Sto.other {w : World} {B gs gp gf g gl gt : Nat} {V : Nat → Prop} {L : List Sec} {F : List Fr} {hd : Nat} {ao : Option Addr} {n cap : Nat} {bs : List Nat} {s r last : Nat} (h : Sto w B gs gp gf g gl gt V L F hd ao n cap bs s r last) (q j : Nat) (u : Value) (h1 : q ≠ gs) (h2 : ¬ LgB gl gt ao q) (h3 : ¬ PlB gp gf g V q) : Sto (w.setCell ⟨q, j, none⟩ u) B gs gp gf g gl gt V L F hd ao n cap bs s r last := by
  have hk : ∀ k, k ≠ q → (w.setCell ⟨q, j, none⟩ u).heap[k]? = w.heap[k]? := fun k hk => Below.heap_setCell _ _ _ _ hk
  have hsz : (w.setCell ⟨q, j, none⟩ u).heap.size = w.heap.size := by simp [World.setCell]
  exact ⟨h.st.keep (hk gs (Ne.symm h1)) (Nat.le_of_eq hsz.symm), h.pd.blocks (Nat.le_of_eq hsz.symm) (fun k _ hx => hk k (by intro e; subst e; exact h3 hx)), h.lg.blocks (Nat.le_of_eq hsz.symm) (fun k _ hx => hk k (by intro e; subst e; exact h2 hx)), fun k hx => by rw [hsz]; exact h.v k hx, h.ap, h.sl, h.sp, h.b⟩

/-- What a step leaves of a store. -/
def Stays (w w' : World) (B gs gp gf g gl gt : Nat) (L : List Sec) (F : List Fr) (hd : Nat) (n : Nat) (bs : List Nat) (s r last : Nat) : Prop := ∃ V ao cap, Sto w' B gs gp gf g gl gt V L F hd ao n cap bs s r last ∧ Below B w w'

theorem Sto.apart {w : World} {B gs gp gf g gl gt : Nat} {V : Nat → Prop} {L : List Sec} {F : List Fr} {hd : Nat} {ao : Option Addr} {n cap : Nat} {bs : List Nat} {s r last : Nat} (h : Sto w B gs gp gf g gl gt V L F hd ao n cap bs s r last) : gs ≠ gp ∧ gs ≠ gf ∧ gs ≠ g :=
  ⟨fun e => h.sp (.inl e), fun e => h.sp (.inr (.inl e)), fun e => h.sp (.inr (.inr (.inl e)))⟩

/-- What is new is none of a store's. -/
theorem Sto.new {w : World} {B gs gp gf g gl gt : Nat} {V : Nat → Prop} {L : List Sec} {F : List Fr} {hd : Nat} {ao : Option Addr} {n cap : Nat} {bs : List Nat} {s r last : Nat} (h : Sto w B gs gp gf g gl gt V L F hd ao n cap bs s r last) (q : Nat) (hq : w.heap.size ≤ q) : q ≠ gs ∧ ¬ LgB gl gt ao q ∧ ¬ PlB gp gf g V q := by
  refine ⟨by have := h.st.lt; omega, fun hx => by have := h.lgLt q hx; omega, ?_⟩
  obtain ⟨h1, h2, h3⟩ := h.lt
  rintro (h4 | h4 | h4 | h4 | h4)
  · omega
  · omega
  · omega
  · omega
  · have := h.v q h4; omega

/-- Behind the log's append: the store, the batch, the put. -/
theorem commit_mid {w w1 w3 : World} {B gs gp gf g gl gt : Nat} {V : Nat → Prop} {L : List Sec} {F : List Fr} {hd : Nat} {ao ao3 : Option Addr} {n cap n3 cap3 : Nat} {bs bs3 : List Nat} {s r last last3 : Nat} {cl ep tx : Int} {ap : Option Addr} {cp : Nat} {p : PutG} (u : Value)
    (h : Sto w B gs gp gf g gl gt V L F hd ao n cap bs s r last) (hp : RdP w ap 1 cp [p]) (hna : ∀ a, ap = some a → ¬ LgB gl gt ao a.block) (hb1 : Below w.heap.size w w1)
    (hlg : LogAt w3 B gl gt ao3 n3 cap3 bs3 s r last3) (hO : OffL gl gt ao (w1.alloc (btO 0 cl ep tx ap 1 cp)).drew w3) (hN : Nw (w1.alloc (btO 0 cl ep tx ap 1 cp)).drew ao ao3) :
    Sto (w3.setCell ⟨w1.heap.size, 0, none⟩ u) B gs gp gf g gl gt V L F hd ao3 n3 cap3 bs3 s r last3 ∧ RdP (w3.setCell ⟨w1.heap.size, 0, none⟩ u) ap 1 cp [p] ∧ BtAt w3 w1.heap.size 0 cl ep tx ap 1 cp ∧ Below B w (w3.setCell ⟨w1.heap.size, 0, none⟩ u) := by
  have hs1 := hb1.size
  have hbx : Below w1.heap.size w1 (w1.alloc (btO 0 cl ep tx ap 1 cp)).drew := (below_box w1 _).drew
  have hB : Below w.heap.size w (w1.alloc (btO 0 cl ep tx ap 1 cp)).drew := below_step hb1 hbx
  have h2 := h.below hB
  have e2 : (w1.alloc (btO 0 cl ep tx ap 1 cp)).drew.heap.size = w1.heap.size + 1 := by simp
  obtain ⟨n1, n2, n3⟩ := h.new w1.heap.size hs1
  have hq : (BtAt (w1.alloc (btO 0 cl ep tx ap 1 cp)).drew w1.heap.size 0 cl ep tx ap 1 cp) := (BtAt.new w1 0 cl ep tx ap 1 cp).keep rfl (Nat.le_refl _)
  have hk : ∀ k, k < (w1.alloc (btO 0 cl ep tx ap 1 cp)).drew.heap.size → ¬ LgB gl gt ao k → w3.heap[k]? = (w1.alloc (btO 0 cl ep tx ap 1 cp)).drew.heap[k]? := fun k hk hn => hO.block k hk (fun e => hn (.inl e)) (fun e => hn (.inr (.inl e))) (fun a ha e => hn (.inr (.inr ⟨a, ha, e⟩)))
  have h3 := h2.log hlg hO hN
  have n2' : ¬ LgB gl gt ao3 w1.heap.size := by
    rintro (h4 | h4 | ⟨a, ha, e⟩)
    · exact n2 (.inl h4)
    · exact n2 (.inr (.inl h4))
    · rcases hN a ha with ⟨c, hc, e3⟩ | hc
      · exact n2 (.inr (.inr ⟨c, hc, e3.trans e⟩))
      · omega
  refine ⟨h3.other _ _ _ n1 n2' n3, ?_, hq.keep (hk _ (by omega) n2) hO.size, ?_⟩
  · have hp3 := (hp.below hB).off (w' := w3) (fun a ha hl => hk _ hl (hna a ha)) hO.size
    refine hp3.off (fun a ha hl => Below.heap_setCell _ _ _ _ ?_) (by simp [World.setCell])
    obtain ⟨b, off, e, hlt, _⟩ := hp.cell 0 (by simp)
    rw [ha] at e
    cases e
    show b ≠ w1.heap.size
    omega
  · have hB0 : Below B w (w1.alloc (btO 0 cl ep tx ap 1 cp)).drew := hB.mono h.leB
    exact (hB0.trans (h2.belowL hO)).setCell (by have := h.leB; show B ≤ w1.heap.size; omega) _

set_option maxRecDepth 100000 in
set_option maxHeartbeats 1600000 in
theorem commit_one (B gs gp gf g gl gt : Nat) (V : Nat → Prop) (L : List Sec) (F F1 F2 : List Fr) (hd hd1 hd2 : Nat) (ao : Option Addr) (n cap : Nat) (bs : List Nat) (s r last : Nat) (b : Bt) (p : PutG) (ap : Option Addr) (cp : Nat) (l0 : Int) (a0 b0 c0 d0 : Nat × Nat) (w : World)
    (h : Sto w B gs gp gf g gl gt V L F hd ao n cap bs s r last) (hp : RdP w ap 1 cp [p]) (hna : ∀ a, ap = some a → ¬ LgB gl gt ao a.block) (hb : b.ps = [p]) (hl : b.lsn = last + 1) (hok : BtOk b) (hfit : n + 42 ≤ r) (hpl : p.pg < L.length) (h0 : l0 < b.lsn)
    (HG : ∀ (W : World) (V' : Nat → Prop), St W gp gf g gl V' L F hd → (∀ k, V' k → k < W.heap.size) → Gets W gp gf g gl V' (p.pg : Int) l0 a0 b0 c0 d0 L F1 hd1)
    (HS : Sets gp gf g gl (p.pg : Int) (b.lsn : Int) (putO p.ob p.c 0 a0) (putO p.ob p.c 1 b0) (putO p.ob p.c 2 c0) (putO p.ob p.c 3 d0) L F1 hd1 L F2 hd2) :
    Calls Try.prog 7 #[tp gs, .int .i64 b.cl, .int .i64 b.ep, .int .i64 b.tx, .slice ap 1 cp] w fun x w' => x = .returned (.tuple #[.int .i64 (b.lsn : Int), .int .i64 0]) ∧ Stays w w' B gs gp gf g gl gt L F2 hd2 (n + 42) (bs ++ wbN b) s r b.lsn := by
  have HI : Hid (Calls Try.prog 17 #[.slice ap 1 cp, .func (.func 18) #[tp gs] #[]] w fun x w' => x = .returned (.bool false) ∧ Below w.heap.size w w') := contains_no gs g gl gp V L ap 1 cp [p] w h.st h.pd.d hp (by intro q hq; simp only [List.mem_cons, List.not_mem_nil, or_false] at hq; subst hq; exact hpl) (by omega)
  have hmf : ∀ (fn : Fn) (first cap : Array Value) (w : World), (Instr.makeFunc fn first cap).run Try.prog w = .ok (.func fn first cap) w := fun _ _ _ _ => rfl
  have hpp := hok.ps.pg p (by rw [hb]; simp)
  have hbl := hok.lsn
  have hlB : lsnB (b.lsn : Int) = true := by simp [lsnB]; omega
  have HA : Hid (∀ W : World, LogAt W B gl gt ao n cap bs s r last → RdP W ap 1 cp [p] → Calls Try.prog 19 #[tp gl, btV 0 b.cl b.ep b.tx ap 1 cp] W fun x w' => x = .returned (.tuple #[.int .i64 (b.lsn : Int), .int .i64 0]) ∧ ∃ ao2 cap2, LogAt w' B gl gt ao2 (n + 42) cap2 (bs ++ wbN b) s r b.lsn ∧ Below B W w' ∧ OffL gl gt ao W w' ∧ Nw W ao ao2) := by
    intro W hW hR
    rw [← hb] at hR
    have := append_log B gl gt ao n cap bs s r last b 0 ap 1 cp W hW hR hl hok hfit
    rw [← hl] at this
    exact this
  have H1 : Hid (∀ (W : World) (V' : Nat → Prop), St W gp gf g gl V' L F hd → (∀ k, V' k → k < W.heap.size) → Gets W gp gf g gl V' (p.pg : Int) l0 a0 b0 c0 d0 L F1 hd1) := HG
  have H2 : Hid (Sets gp gf g gl (p.pg : Int) (b.lsn : Int) (putO p.ob p.c 0 a0) (putO p.ob p.c 1 b0) (putO p.ob p.c 2 c0) (putO p.ob p.c 3 d0) L F1 hd1 L F2 hd2) := HS
  have HP : Hid (RdP w ap 1 cp [p]) := hp
  have HN : Hid (∀ a, ap = some a → ¬ LgB gl gt ao a.block) := hna
  clear HG HS hp hb hl hok hna
  go_enter Try.func7, Try.ntmps7
  go_upto_region 4 with (first
    | (go_at_call 17; refine HI.out.mono ?_; rintro x w1 ⟨rfl, hb1⟩)
    | (fail))
  have hbx := below_box w1 (btO 0 b.cl b.ep b.tx ap 1 cp)
  have hS1 := (h.below hb1).below hbx
  have r0 := hS1.st.c1
  have hS2 := hS1.below ((Below.refl _ _).drew)
  have hp2 := ((HP.out.below hb1).below hbx).below ((Below.refl _ _).drew)
  go_region_with (first
    | (go_at_call 19; refine (HA.out _ hS2.lg hp2).mono ?_; rintro x w3 ⟨rfl, ao3, cap3, hlg3, hb3, hO3, hN3⟩; obtain ⟨hS4, hp4, hq3, hB4⟩ := commit_mid (.int .i64 (b.lsn : Int)) h HP.out HN.out hb1 hlg3 hO3 hN3; have q0 := hq3.c0; have q1 := hq3.c1; have q2 := hq3.c2; have q3 := hq3.c3; have q4 := hq3.c4; have y0 := hq3.fz 0)
    | (fail))
  all_goals (
    go_wp2_with (first
      | (go_at_call 15; refine (apply_one gs gp gf g gl V L L F1 F2 hd1 hd2 p l0 b.lsn b.cl b.ep b.tx a0 b0 c0 d0 ap cp _ hS4.st hS4.lt hS4.apart hS4.v hp4 (by omega) (by omega) hlB h0 (H1.out _ _ hS4.pd hS4.v) H2.out).mono ?_; rintro x w5 ⟨rfl, hL5⟩)
      | (fail))
    go_ret2
    obtain ⟨⟨V5, hS5⟩, hB5, -⟩ := hS4.left hL5
    exact ⟨rfl, V5, ao3, cap3, hS5, hB4.trans hB5⟩)

end Go.Proofs.Ythckdfggnmoaeaa
