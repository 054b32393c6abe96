/- A store in memory: its parts lie apart, and what of it stays. No walk. What Len of package sector, the short methods of package store and the law's 'one' do, walked. What apply of package store does with a batch of one put, walked. -/
import Derived.Test.YtpofihiojhbfgaaGreatDoorB1
import Derived.Maps.OwnSet
import Derived.Deep.RegionWith
namespace Go.Proofs.YtpofihiojhbfgaaGreatDoor
open Go.RowKit
set_option linter.unusedVariables false
set_option maxRecDepth 8000

structure Ss (w : World) (gs g gl gp : Nat) : Prop where
  c0 : w.cell? ⟨gs, 0, none⟩ = some (dp g)
  c1 : w.cell? ⟨gs, 1, none⟩ = some (tp gl)
  c2 : w.cell? ⟨gs, 2, none⟩ = some (tp gp)
  lt : gs < w.heap.size

theorem Ss.keep {w w' : World} {gs g gl gp : Nat} (h : Ss w gs g gl gp) (hg : w'.heap[gs]? = w.heap[gs]?) (hs : w.heap.size ≤ w'.heap.size) : Ss w' gs g gl gp :=
  ⟨(World.cell?_of_block (w := w) hg).trans h.c0, (World.cell?_of_block (w := w) hg).trans h.c1, (World.cell?_of_block (w := w) hg).trans h.c2, Nat.lt_of_lt_of_le h.lt hs⟩

theorem Ss.below {w w' : World} {gs g gl gp : Nat} (h : Ss w gs g gl gp) (hb : Below w.heap.size w w') : Ss w' gs g gl gp := h.keep (hb.block gs h.lt) hb.size

theorem Ss.new (w : World) (g gl gp : Nat) : Ss (w.alloc (.cells #[dp g, tp gl, tp gp] 79)) w.heap.size g gl gp := by
  have h := heap_alloc_new w (.cells #[dp g, tp gl, tp gp] 79)
  refine ⟨?_, ?_, ?_, by simp⟩
  all_goals rw [cell_of_row _ _ _ _ _ _ h]; rfl

def LgB (gl gt : Nat) (ao : Option Addr) (k : Nat) : Prop := k = gl ∨ k = gt ∨ ∃ a, ao = some a ∧ a.block = k

def PlB (gp gf g : Nat) (V : Nat → Prop) (k : Nat) : Prop := k = gp ∨ k = gf ∨ k = g ∨ k = g + 1 ∨ V k

structure Sto (w : World) (B gs gp gf g gl gt : Nat) (V : Nat → Prop) (L : List Sec) (F : List Fr) (hd : Nat) (ao : Option Addr) (n cap : Nat) (bs : List Nat) (s r last : Nat) : Prop where
  st : Ss w gs g gl gp
  pd : St w gp gf g gl V L F hd
  lg : LogAt w B gl gt ao n cap bs s r last
  v : ∀ k, V k → k < w.heap.size
  ap : ∀ k, LgB gl gt ao k → ¬ PlB gp gf g V k
  sl : ¬ LgB gl gt ao gs
  sp : ¬ PlB gp gf g V gs
  b : B ≤ gp ∧ B ≤ gf ∧ B ≤ g

section
variable {w w' : World} {B gs gp gf g gl gt : Nat} {V V' : Nat → Prop} {L L' : List Sec} {F F' : List Fr} {hd hd' : Nat} {ao ao' : Option Addr} {n cap n' cap' : Nat} {bs bs' : List Nat} {s r last s' last' : Nat}

theorem St.blocks (h : St w gp gf g gl V L F hd) (hs : w.heap.size ≤ w'.heap.size) (hk : ∀ k, k < w.heap.size → PlB gp gf g V k → w'.heap[k]? = w.heap[k]?) : St w' gp gf g gl V L F hd :=
  ⟨h.p.keep (hk gp h.p.lp (.inl rfl)) (hk gf h.p.lf (.inr (.inl rfl))) hs, h.d.kept ⟨hs, fun k h1 h2 => hk k h1 (by rcases h2 with h2 | h2 | h2; exact .inr (.inr (.inr (.inr h2))); exact .inr (.inr (.inl h2)); exact .inr (.inr (.inr (.inl h2))))⟩, h.pg, h.pg1, h.fg, h.fg1, h.vp, h.vf⟩

theorem LogAt.blocks (h : LogAt w B gl gt ao n cap bs s r last) (hs : w.heap.size ≤ w'.heap.size) (hk : ∀ k, k < w.heap.size → LgB gl gt ao k → w'.heap[k]? = w.heap[k]?) : LogAt w' B gl gt ao n cap bs s r last :=
  ⟨h.t.keep hs (hk gt h.t.hd.lt (.inr (.inl rfl))) (fun a ha => hk _ (h.t.own.lt a ha) (.inr (.inr ⟨a, ha, rfl⟩))), h.l.keep (hk gl h.l.lt (.inl rfl)) hs, h.bl, h.ng, h.na⟩

theorem Sto.below (h : Sto w B gs gp gf g gl gt V L F hd ao n cap bs s r last) (hb : Below w.heap.size w w') : Sto w' B gs gp gf g gl gt V L F hd ao n cap bs s r last :=
  ⟨h.st.below hb, h.pd.below hb, h.lg.below hb, fun k hk => Nat.lt_of_lt_of_le (h.v k hk) hb.size, h.ap, h.sl, h.sp, h.b⟩

theorem Sto.lt (h : Sto w B gs gp gf g gl gt V L F hd ao n cap bs s r last) : gp < w.heap.size ∧ gf < w.heap.size ∧ g + 1 < w.heap.size := ⟨h.pd.p.lp, h.pd.p.lf, h.pd.d.lt⟩

theorem Sto.lgLt (h : Sto w B gs gp gf g gl gt V L F hd ao n cap bs s r last) : ∀ k, LgB gl gt ao k → k < w.heap.size := by
  intro k hk
  rcases hk with rfl | rfl | ⟨a, ha, rfl⟩
  · exact h.lg.l.lt
  · exact h.lg.t.hd.lt
  · exact h.lg.t.own.lt a ha

theorem Sto.lgGe (h : Sto w B gs gp gf g gl gt V L F hd ao n cap bs s r last) : ∀ k, LgB gl gt ao k → B ≤ k := by
  intro k hk
  rcases hk with rfl | rfl | ⟨a, ha, rfl⟩
  · exact h.lg.bl
  · exact h.lg.t.bg
  · exact h.lg.t.own.ge a ha

theorem Sto.leB (h : Sto w B gs gp gf g gl gt V L F hd ao n cap bs s r last) : B ≤ w.heap.size := Nat.le_of_lt (Nat.lt_of_le_of_lt h.b.1 h.pd.p.lp)

theorem Sto.left (h : Sto w B gs gp gf g gl gt V L F hd ao n cap bs s r last) (hl : Left w w' gp gf g gl V L' F' hd') : (∃ V', Sto w' B gs gp gf g gl gt V' L' F' hd' ao n cap bs s r last) ∧ Below B w w' ∧ Off3 gp gf g w w' := by
  obtain ⟨V1, h1, h2, h3⟩ := hl
  have hb := h3.below h.b.1 h.b.2.1 h.b.2.2 h.leB
  have hk : ∀ k, k < w.heap.size → ¬ PlB gp gf g V k → w'.heap[k]? = w.heap[k]? := fun k hk hn => h3.block k hk (fun e => hn (.inl e)) (fun e => hn (.inr (.inl e))) (fun e => hn (.inr (.inr (.inl e))))
  have hp : ∀ k, k < w.heap.size → PlB gp gf g (fun k => V1 k ∧ k < w'.heap.size) k → PlB gp gf g V k := by
    intro k hk hx
    rcases hx with hx | hx | hx | hx | hx
    · exact .inl hx
    · exact .inr (.inl hx)
    · exact .inr (.inr (.inl hx))
    · exact .inr (.inr (.inr (.inl hx)))
    · exact .inr (.inr (.inr (.inr (h2 k hk hx.1))))
  refine ⟨⟨_, h.st.keep (hk gs h.st.lt h.sp) h3.size, h1.tight, h.lg.blocks h3.size (fun k hk2 hx => hk k hk2 (h.ap k hx)), fun k hx => hx.2, fun k hx hy => h.ap k hx (hp k (h.lgLt k hx) hy), h.sl, fun hy => h.sp (hp gs h.st.lt hy), h.b⟩, hb, h3⟩

theorem Sto.log (h : Sto w B gs gp gf g gl gt V L F hd ao n cap bs s r last) (hl : LogAt w' B gl gt ao' n' cap' bs' s' r last') (hO : OffL gl gt ao w w') (hN : Nw w ao ao') : Sto w' B gs gp gf g gl gt V L F hd ao' n' cap' bs' s' r last' := by
  have hk : ∀ k, k < w.heap.size → ¬ LgB gl gt ao k → w'.heap[k]? = w.heap[k]? := fun k hk hn => hO.block k hk (fun e => hn (.inl e)) (fun e => hn (.inr (.inl e))) (fun a ha e => hn (.inr (.inr ⟨a, ha, e⟩)))
  have hp : ∀ k, k < w.heap.size → LgB gl gt ao' k → LgB gl gt ao k := by
    intro k hk hx
    rcases hx with hx | hx | ⟨a, ha, rfl⟩
    · exact .inl hx
    · exact .inr (.inl hx)
    · rcases hN a ha with ⟨c, hc, e⟩ | hc
      · exact .inr (.inr ⟨c, hc, e⟩)
      · omega
  have hpl : ∀ k, PlB gp gf g V k → k < w.heap.size := by
    intro k hx
    obtain ⟨h1, h2, h3⟩ := h.lt
    rcases hx with hx | hx | hx | hx | hx
    · omega
    · omega
    · omega
    · omega
    · exact h.v k hx
  exact ⟨h.st.keep (hk gs h.st.lt h.sl) hO.size, h.pd.blocks hO.size (fun k hk2 hx => hk k hk2 (fun hy => h.ap k hy hx)), hl, fun k hx => Nat.lt_of_lt_of_le (h.v k hx) hO.size, fun k hx hy => h.ap k (hp k (hpl k hy) hx) hy, fun hx => h.sl (hp gs h.st.lt hx), h.sp, h.b⟩

theorem Sto.belowL (h : Sto w B gs gp gf g gl gt V L F hd ao n cap bs s r last) (hO : OffL gl gt ao w w') : Below B w w' :=
  ⟨hO.os, hO.tape, hO.output, hO.size, fun k hk => hO.block k (Nat.lt_of_lt_of_le hk h.leB) (by have := h.lgGe gl (.inl rfl); omega) (by have := h.lgGe gt (.inr (.inl rfl)); omega) (fun a ha => by have := h.lgGe a.block (.inr (.inr ⟨a, ha, rfl⟩)); omega)⟩
end

/-! ### stores beside -/

theorem Off3.high {p f g : Nat} {w w1 : World} (h : Off3 p f g w w1) (q j : Nat) (u : Value) (hq : w.heap.size ≤ q) : Off3 p f g w (w1.setCell ⟨q, j, none⟩ u) :=
  ⟨h.os, h.tape, h.output, by simpa [World.setCell] using h.size, fun k hk h1 h2 h3 => (Below.heap_setCell _ _ _ _ (by show k ≠ q; omega)).trans (h.block k hk h1 h2 h3)⟩

theorem Off3.grown {p f g : Nat} {w w1 w2 : World} (h : Off3 p f g w w1) (q : Nat) (hg : w1.grownBy w2 (some q)) (hq : w.heap.size ≤ q) : Off3 p f g w w2 :=
  ⟨hg.os.trans h.os, hg.tape.trans h.tape, hg.output.trans h.output, Nat.le_trans h.size hg.size, fun k hk h1 h2 h3 => (hg.block k (Nat.lt_of_lt_of_le hk h.size) (by intro e; cases e; omega)).trans (h.block k hk h1 h2 h3)⟩

theorem St.grown {w w' : World} {gp gf g gl : Nat} {V : Nat → Prop} {L : List Sec} {F : List Fr} {hd : Nat} (h : St w gp gf g gl V L F hd) (q : Nat) (hg : w.grownBy w' (some q)) (hn : ¬ PlB gp gf g V q) : St w' gp gf g gl V L F hd :=
  h.blocks hg.size fun k hk hx => hg.block k hk (by intro e; cases e; exact hn hx)

theorem St.put5 {w : World} {gp gf g gl : Nat} {V : Nat → Prop} {L : List Sec} {F : List Fr} {hd : Nat} (h : St w gp gf g gl V L F hd) (q : Nat) (hn : ¬ PlB gp gf g V q) (u0 u1 u2 u3 u4 : Value) : St (((((w.setCell ⟨q, 0, none⟩ u0).setCell ⟨q, 1, none⟩ u1).setCell ⟨q, 2, none⟩ u2).setCell ⟨q, 3, none⟩ u3).setCell ⟨q, 4, none⟩ u4) gp gf g gl V L F hd := by
  refine h.blocks (by simp [World.setCell]) fun k hk hx => ?_
  have hne : k ≠ q := by intro e; subst e; exact hn hx
  have hb : ∀ (W : World) (j : Nat) (v : Value), (W.setCell ⟨q, j, none⟩ v).heap[k]? = W.heap[k]? := fun W j v => Below.heap_setCell _ _ _ _ hne
  simp only [hb]

theorem Off3.put5 {p f g : Nat} {w w1 : World} (h : Off3 p f g w w1) (q : Nat) (hq : w.heap.size ≤ q) (u0 u1 u2 u3 u4 : Value) : Off3 p f g w (((((w1.setCell ⟨q, 0, none⟩ u0).setCell ⟨q, 1, none⟩ u1).setCell ⟨q, 2, none⟩ u2).setCell ⟨q, 3, none⟩ u3).setCell ⟨q, 4, none⟩ u4) :=
  ((((h.high q _ _ hq).high q _ _ hq).high q _ _ hq).high q _ _ hq).high q _ _ hq

end Go.Proofs.YtpofihiojhbfgaaGreatDoor

namespace Go.Proofs.YtpofihiojhbfgaaGreatDoor
open Go.RowKit
set_option linter.unusedVariables false
set_option maxRecDepth 8000

theorem slen_any (g : Nat) (V : Nat → Prop) (L : List Sec) (w : World) (h : Drv w g V L) :
    Calls Tryz.prog 185 #[dp g] w fun e w' => e = .returned (.int .i64 (L.length : Int)) ∧ w' = w := by
  have hp := h.pc
  go_enter Tryz.func185, Tryz.ntmps185
  go_wp2
  go_ret
  exact ⟨rfl, rfl⟩

abbrev wputV (p : PutG) : Value := .agg #[.int .i64 (p.pg : Int), .int .i64 (p.ob : Int), .complex .f64 p.c.1 p.c.2]

set_option maxHeartbeats 400000 in
theorem outside_no (gs g gl gp : Nat) (V : Nat → Prop) (L : List Sec) (p : PutG) (w : World) (hs : Ss w gs g gl gp) (hd : Drv w g V L) (h : p.pg < L.length) :
    Calls Tryz.prog 163 #[tp gs, wputV p] w fun e w' => e = .returned (.bool false) ∧ Below w.heap.size w w' := by
  obtain ⟨pg, ob, c⟩ := p
  simp only at h
  have hst := fun (ad : Addr) (re im : Nat) (W : World) => run_store Tryz.prog W ad (.complex .f64 re im) .plain rfl
  have HB : Hid (Below w.heap.size w (w.alloc (wputO ⟨pg, ob, c⟩))) := below_box _ _
  have HH : Hid (∀ W : World, Below w.heap.size w W → Calls Tryz.prog 185 #[dp g] W fun x w' => x = .returned (.int .i64 (L.length : Int)) ∧ w' = W) := fun W hb => slen_any g V L W (hd.below hb)
  have hs0 := (hs.below (below_box w (wputO ⟨pg, ob, c⟩))).c0
  have hd0 : decide ((pg : Int) < 0) = false := by simp
  have hd1 : decide ((pg : Int) ≥ (L.length : Int)) = false := by simp; omega
  have hd2 : decide (L.length ≤ pg) = false := by simp; omega
  generalize L.length = m at *
  go_enter Tryz.func163, Tryz.ntmps163
  go_wp2
  go_quiet (first
    | (go_at_call 185; refine (HH.out _ ?_).mono ?_; (exact ⟨HB.out.os, HB.out.tape, HB.out.output, HB.out.size, HB.out.block⟩); rintro x w' ⟨rfl, hw⟩; subst w'; exact ⟨rfl, _, rfl⟩))
  go_wp2
  go_ret
  exact ⟨rfl, ⟨HB.out.os, HB.out.tape, HB.out.output, HB.out.size, HB.out.block⟩⟩

set_option maxHeartbeats 400000 in
theorem pindex_none (gs g gl gp : Nat) (V : Nat → Prop) (L : List Sec) (ap : Option Addr) (n cp : Nat) (ps : List PutG) (w : World) (hs : Ss w gs g gl gp) (hd : Drv w g V L) (hp : RdP w ap n cp ps) (h : ∀ p ∈ ps, p.pg < L.length) (hn : n ≤ 24) :
    Calls Tryz.prog 184 #[.slice ap n cp, .func (.func 163) #[tp gs] #[]] w fun x w' => x = .returned (.int .i64 (-1)) ∧ Below w.heap.size w w' := by
  have HR : Hid (RdP w ap n cp ps) := hp
  have HI : Hid (∀ (p : PutG) (W : World), Below w.heap.size w W → p ∈ ps → Calls Tryz.prog 163 #[tp gs, wputV p] W fun e w' => e = .returned (.bool false) ∧ Below W.heap.size W w') := fun p W hb hm => outside_no gs g gl gp V L p W (hs.below hb) (hd.below hb) (h p hm)
  clear hp h hs hd
  go_enter Tryz.func184, Tryz.ntmps184
  go_wp2
  go_loopw [8] (fun i wr => ∃ k : Nat, k ≤ n ∧ i = .int .i64 k ∧ Below w.heap.size w wr) (fun i _ => n - (intOf i).toNat)
  case atStart => exact ⟨0, Nat.zero_le _, rfl, Below.refl _ _⟩
  case round =>
    obtain ⟨k, hk, rfl, hbel⟩ := hrel
    by_cases hlt : k < n
    · have hl := HR.out.len
      obtain ⟨b, off, rfl, hb, q0, q1, q2⟩ := (HR.out.below hbel).cell k (by omega)
      have hm : ps[k] ∈ ps := List.getElem_mem _
      have HM : Hid (ps[k] ∈ ps) := hm
      clear hm
      generalize ps[k] = p at *
      obtain ⟨pg, ob, c⟩ := p
      simp only at q0 q1 q2
      go_wp2_with (first
        | (go_at_call 163; refine (HI.out ⟨pg, ob, c⟩ _ hbel HM.out).mono ?_; rintro x w1 ⟨rfl, hbb⟩)
        | (fail))
      go_roundw
      case rel => exact ⟨k + 1, by omega, by go_num, below_step hbel hbb⟩
      case measure => simp [intOf]; omega
    · go_wp2
      go_ret
      exact ⟨rfl, hbel⟩

theorem contains_no (gs g gl gp : Nat) (V : Nat → Prop) (L : List Sec) (ap : Option Addr) (n cp : Nat) (ps : List PutG) (w : World) (hs : Ss w gs g gl gp) (hd : Drv w g V L) (hp : RdP w ap n cp ps) (h : ∀ p ∈ ps, p.pg < L.length) (hn : n ≤ 24) :
    Calls Tryz.prog 162 #[.slice ap n cp, .func (.func 163) #[tp gs] #[]] w fun x w' => x = .returned (.bool false) ∧ Below w.heap.size w w' := by
  have HI : Hid (Calls Tryz.prog 184 #[.slice ap n cp, .func (.func 163) #[tp gs] #[]] w fun x w' => x = .returned (.int .i64 (-1)) ∧ Below w.heap.size w w') := pindex_none gs g gl gp V L ap n cp ps w hs hd hp h hn
  clear hs hd hp h
  go_enter Tryz.func162, Tryz.ntmps162
  go_wp2_with (first
    | (go_at_call 184; refine HI.out.mono ?_; rintro x w1 ⟨rfl, hb1⟩)
    | (fail))
  go_ret
  exact ⟨rfl, hb1⟩

/-! ### the short methods -/

theorem durable_store (gs g gl gp : Nat) (z : Int) (w : World) (hs : Ss w gs g gl gp) (HL : Calls Tryz.prog 38 #[tp gl] w fun x w' => x = .returned (.int .i64 z) ∧ Below w.heap.size w w') :
    Calls Tryz.prog 18 #[tp gs] w fun x w' => x = .returned (.int .i64 z) ∧ Below w.heap.size w w' := by
  have H1 : Hid (Calls Tryz.prog 38 #[tp gl] w fun x w' => x = .returned (.int .i64 z) ∧ Below w.heap.size w w') := HL
  have h1 := hs.c1
  clear HL
  go_enter Tryz.func18, Tryz.ntmps18
  go_wp2_with (first
    | (go_at_call 38; refine H1.out.mono ?_; rintro x w1 ⟨rfl, hb⟩)
    | (fail))
  go_ret
  exact ⟨rfl, hb⟩

theorem sync_store (gs g gl gp : Nat) (w : World) (hs : Ss w gs g gl gp) (R : World → Prop) (HL : Calls Tryz.prog 65 #[tp gl] w fun x w' => x = .returned (.tuple #[]) ∧ R w') :
    Calls Tryz.prog 35 #[tp gs] w fun x w' => x = .returned (.tuple #[]) ∧ R w' := by
  have H1 : Hid (Calls Tryz.prog 65 #[tp gl] w fun x w' => x = .returned (.tuple #[]) ∧ R w') := HL
  have h1 := hs.c1
  clear HL
  go_enter Tryz.func35, Tryz.ntmps35
  go_wp2_with (first
    | (go_at_call 65; refine H1.out.mono ?_; rintro x w1 ⟨rfl, hb⟩)
    | (fail))
  go_end0
  exact ⟨rfl, hb⟩

abbrev Gets (w : World) (gp gf g gl : Nat) (V : Nat → Prop) (n : Int) (l : Int) (a b c d : Nat × Nat) (L : List Sec) (F : List Fr) (hd : Nat) : Prop :=
  ∀ W, Below w.heap.size w W → Calls Tryz.prog 37 #[tp gp, .int .i64 n] W fun e w' => e = .returned (.tuple #[pgV l a b c d, .int .i64 0]) ∧ Left W w' gp gf g gl V L F hd

set_option maxHeartbeats 800000 in
theorem page_store (gs gp gf g gl : Nat) (V : Nat → Prop) (n l : Int) (a b c d : Nat × Nat) (L : List Sec) (F : List Fr) (hd : Nat) (w : World) (hs : Ss w gs g gl gp) (hlt : gp < w.heap.size ∧ gf < w.heap.size ∧ g + 1 < w.heap.size) (hv : ∀ k, V k → k < w.heap.size) (HL : Gets w gp gf g gl V n l a b c d L F hd) :
    Calls Tryz.prog 17 #[tp gs, .int .i64 n] w fun e w' => e = .returned (.tuple #[pgV l a b c d, .int .i64 0]) ∧ Left w w' gp gf g gl V L F hd := by
  have H1 : Hid (Gets w gp gf g gl V n l a b c d L F hd) := HL
  have h1 := (hs.below (below_box w pgZ)).c2
  clear HL
  have hst := fun (ad : Addr) (re im : Nat) (W : World) => run_store Tryz.prog W ad (.complex .f64 re im) .plain rfl
  unfold pgV
  go_enter Tryz.func17, Tryz.ntmps17
  go_wp2_with (first
    | (go_at_call 37; refine (H1.out _ (below_box w pgZ)).mono ?_; unfold pgV; rintro e w1 ⟨rfl, V1, hS1, hV1, hO1⟩; have hq := (PgAt.new w 0 zO zO zO zO).keep (hO1.block w.heap.size (by simp) (by omega) (by omega) (by omega)) hO1.size; have q0 := hq.c0; have q1 := hq.c1; have q2 := hq.c2; have q3 := hq.c3; have q4 := hq.c4; have r0 := hq.f0; have r1 := hq.f1; have r2 := hq.f2; have r3 := hq.f3; have r4 := hq.f4)
    | fail)
  refine bodyPost_ret (by simp [results, Tryz.results17, go_sem, q0, q1, q2, q3, q4]; try rfl) rfl ?_
  have hnv : ¬ PlB gp gf g V1 w.heap.size := by
    rintro (h | h | h | h | h)
    · omega
    · omega
    · omega
    · omega
    · have := hv _ (hV1 _ (by simp) h); omega
  refine ⟨rfl, V1, hS1.put5 _ hnv _ _ _ _ _, fun k hk hx => hV1 k (by simp; omega) hx, ?_⟩
  exact ((Off3.of_below (below_box w pgZ)).trans hO1).put5 _ (Nat.le_refl _) _ _ _ _ _

/-! ### one put -/

theorem put_rd (w : World) (p : PutG) : RdP (w.alloc (wputO p)) (some ⟨w.heap.size, 0, none⟩) 1 1 [p] := by
  have h := heap_alloc_new w (wputO p)
  refine ⟨rfl, fun t ht => ?_⟩
  simp only [List.length_cons, List.length_nil] at ht
  obtain rfl : t = 0 := by omega
  refine ⟨w.heap.size, 0, rfl, by simp, ?_, ?_, ?_⟩
  all_goals rw [cell_of_row _ _ _ _ _ _ h]; rfl

end Go.Proofs.YtpofihiojhbfgaaGreatDoor

namespace Go.Proofs.YtpofihiojhbfgaaGreatDoor
open Go.RowKit Go.Maps
set_option linter.unusedVariables false
set_option maxRecDepth 8000

theorem law3 : Keyed Tryz.prog 3 := int_keyed Tryz.underlying3
theorem zero81 (w : World) : (zeroValue 126).run Tryz.prog w = .ok (.agg #[]) w := by kernel_rfl

theorem PgAt.set5 {w : World} {q : Nat} {l l' : Int} {a b c d a' b' c' d' : Nat × Nat} (h : PgAt w q l a b c d) : PgAt (((((w.setCell ⟨q, 0, none⟩ (.int .i64 l')).setCell ⟨q, 1, none⟩ (.complex .f64 a'.1 a'.2)).setCell ⟨q, 2, none⟩ (.complex .f64 b'.1 b'.2)).setCell ⟨q, 3, none⟩ (.complex .f64 c'.1 c'.2)).setCell ⟨q, 4, none⟩ (.complex .f64 d'.1 d'.2)) q l' a' b' c' d' := by
  refine ⟨?_, ?_, ?_, ?_, ?_, ?_, ?_, ?_, ?_, ?_, by simpa [World.setCell] using h.lt⟩
  · rw [put_other _ _ _ _ _ (by omega), put_other _ _ _ _ _ (by omega), put_other _ _ _ _ _ (by omega), put_other _ _ _ _ _ (by omega)]
    exact World.cell?_setCell_same _ _ _ h.c0
  · rw [put_other _ _ _ _ _ (by omega), put_other _ _ _ _ _ (by omega), put_other _ _ _ _ _ (by omega)]
    exact World.cell?_setCell_same _ _ _ (by rw [put_other _ _ _ _ _ (by omega)]; exact h.c1)
  · rw [put_other _ _ _ _ _ (by omega), put_other _ _ _ _ _ (by omega)]
    exact World.cell?_setCell_same _ _ _ (by rw [put_other _ _ _ _ _ (by omega), put_other _ _ _ _ _ (by omega)]; exact h.c2)
  · rw [put_other _ _ _ _ _ (by omega)]
    exact World.cell?_setCell_same _ _ _ (by rw [put_other _ _ _ _ _ (by omega), put_other _ _ _ _ _ (by omega), put_other _ _ _ _ _ (by omega)]; exact h.c3)
  · exact World.cell?_setCell_same _ _ _ (by rw [put_other _ _ _ _ _ (by omega), put_other _ _ _ _ _ (by omega), put_other _ _ _ _ _ (by omega), put_other _ _ _ _ _ (by omega)]; exact h.c4)
  · simp only [World.frozen?_setCell]; exact h.f0
  · simp only [World.frozen?_setCell]; exact h.f1
  · simp only [World.frozen?_setCell]; exact h.f2
  · simp only [World.frozen?_setCell]; exact h.f3
  · simp only [World.frozen?_setCell]; exact h.f4

structure Loc (W : World) (A : Nat) (l c e t : Int) (ap : Option Addr) (m cp : Nat) (p : PutG) : Prop where
  b : BtAt W A l c e t ap m cp
  mp : W.heap[A + 1]? = some (.map #[] 0)
  p0 : W.cell? ⟨A + 2, 0, none⟩ = some (.int .i64 (p.pg : Int))
  p1 : W.cell? ⟨A + 2, 1, none⟩ = some (.int .i64 (p.ob : Int))
  p2 : W.cell? ⟨A + 2, 2, none⟩ = some (.complex .f64 p.c.1 p.c.2)
  lt : A + 2 < W.heap.size

section
variable {W W' : World} {A : Nat} {l c e t : Int} {ap : Option Addr} {m cp : Nat} {p : PutG}
theorem Loc.keep (h : Loc W A l c e t ap m cp p) (hk : ∀ k, A ≤ k → k ≤ A + 2 → W'.heap[k]? = W.heap[k]?) (hs : W.heap.size ≤ W'.heap.size) : Loc W' A l c e t ap m cp p :=
  ⟨h.b.keep (hk A (by omega) (by omega)) hs, (hk (A + 1) (by omega) (by omega)).trans h.mp, (World.cell?_of_block (w := W) (hk (A + 2) (by omega) (by omega))).trans h.p0, (World.cell?_of_block (w := W) (hk (A + 2) (by omega) (by omega))).trans h.p1, (World.cell?_of_block (w := W) (hk (A + 2) (by omega) (by omega))).trans h.p2, Nat.lt_of_lt_of_le h.lt hs⟩
theorem Loc.below (h : Loc W A l c e t ap m cp p) (hb : Below W.heap.size W W') : Loc W' A l c e t ap m cp p := h.keep (fun k _ h2 => hb.block k (by have := h.lt; omega)) hb.size
theorem Loc.off (h : Loc W A l c e t ap m cp p) {gp gf g : Nat} (hO : Off3 gp gf g W W') (h1 : gp < A) (h2 : gf < A) (h3 : g < A) : Loc W' A l c e t ap m cp p := h.keep (fun k a1 a2 => hO.block k (by have := h.lt; omega) (by omega) (by omega) (by omega)) hO.size
theorem Loc.own (h : Loc W A l c e t ap m cp p) : W.ownsMap Tryz.prog 3 (unitElem (H := Unit)) (A + 1) 0 (.map []) := ⟨#[], 0, h.mp, ⟨by simp, Go.MapKept.stamped_empty 0, by simp⟩, Nat.le_refl _, rfl⟩
theorem Loc.put5 (h : Loc W A l c e t ap m cp p) (q : Nat) (hq : A + 2 < q) (u0 u1 u2 u3 u4 : Value) : Loc (((((W.setCell ⟨q, 0, none⟩ u0).setCell ⟨q, 1, none⟩ u1).setCell ⟨q, 2, none⟩ u2).setCell ⟨q, 3, none⟩ u3).setCell ⟨q, 4, none⟩ u4) A l c e t ap m cp p := by
  refine h.keep (fun k _ a2 => ?_) (by simp [World.setCell])
  have hne : k ≠ q := by omega
  have hb : ∀ (W : World) (j : Nat) (v : Value), (W.setCell ⟨q, j, none⟩ v).heap[k]? = W.heap[k]? := fun W j v => Below.heap_setCell _ _ _ _ hne
  simp only [hb]
end

theorem Loc.new (w : World) (l c e t : Int) (ap : Option Addr) (m cp : Nat) (p : PutG) : Loc (((w.alloc (btO l c e t ap m cp)).alloc (.map #[] 0)).alloc (wputO p)) w.heap.size l c e t ap m cp p := by
  have s1 : (w.alloc (btO l c e t ap m cp)).heap.size = w.heap.size + 1 := by simp
  have s2 : ((w.alloc (btO l c e t ap m cp)).alloc (.map #[] 0)).heap.size = w.heap.size + 2 := by simp
  have b1 := below_box (w.alloc (btO l c e t ap m cp)) (.map #[] 0)
  have b2 := below_box ((w.alloc (btO l c e t ap m cp)).alloc (.map #[] 0)) (wputO p)
  have hm := heap_alloc_new (w.alloc (btO l c e t ap m cp)) (.map #[] 0)
  have hp := heap_alloc_new ((w.alloc (btO l c e t ap m cp)).alloc (.map #[] 0)) (wputO p)
  rw [s1] at hm
  rw [s2] at hp
  refine ⟨((BtAt.new w l c e t ap m cp).below b1).below b2, (b2.block _ (by omega)).trans hm, ?_, ?_, ?_, by simp⟩
  all_goals rw [cell_of_row _ _ _ _ _ _ hp]; rfl

end Go.Proofs.YtpofihiojhbfgaaGreatDoor
