/- A store in memory: its parts lie apart, and what of it stays. No walk. -/
import Derived.Test.YthckdfggnmoaeaaP6
namespace Go.Proofs.Ythckdfggnmoaeaa
open Go.RowKit
set_option linter.unusedVariables false

/-- What a store's pointer points to: its drive, its log, its pool. -/
structure Ss (w : World) (gs g gl gp : Nat) : Prop where
  c0 : w.cell? ⟨gs, 0, none⟩ = some (dp g)
  c1 : w.cell? ⟨gs, 1, none⟩ = some (tp gl)
  c2 : w.cell? ⟨gs, 2, none⟩ = some (tp gp)
  lt : gs < w.heap.size

theorem Ss.keep {w w' : World} {gs g gl gp : Nat} (h : Ss w gs g gl gp) (hg : w'.heap[gs]? = w.heap[gs]?) (hs : w.heap.size ≤ w'.heap.size) : Ss w' gs g gl gp :=
  ⟨(World.cell?_of_block (w := w) hg).trans h.c0, (World.cell?_of_block (w := w) hg).trans h.c1, (World.cell?_of_block (w := w) hg).trans h.c2, Nat.lt_of_lt_of_le h.lt hs⟩

theorem Ss.below {w w' : World} {gs g gl gp : Nat} (h : Ss w gs g gl gp) (hb : Below w.heap.size w w') : Ss w' gs g gl gp := h.keep (hb.block gs h.lt) hb.size

theorem Ss.new (w : World) (g gl gp : Nat) : Ss (w.alloc (.cells #[dp g, tp gl, tp gp] 51)) w.heap.size g gl gp := by
  have h := heap_alloc_new w (.cells #[dp g, tp gl, tp gp] 51)
  refine ⟨?_, ?_, ?_, by simp⟩
  all_goals rw [cell_of_row _ _ _ _ _ _ h]; rfl

/-- The blocks of a log. -/
def LgB (gl gt : Nat) (ao : Option Addr) (k : Nat) : Prop := k = gl ∨ k = gt ∨ ∃ a, ao = some a ∧ a.block = k

/-- The blocks of a pool and its drive. -/
def PlB (gp gf g : Nat) (V : Nat → Prop) (k : Nat) : Prop := k = gp ∨ k = gf ∨ k = g ∨ k = g + 1 ∨ V k

/-- A store lies at block gs; its parts lie apart, from block B on. -/
structure Sto (w : World) (B gs gp gf g gl gt : Nat) (V : Nat → Prop) (L : List Sec) (F : List Fr) (hd : Nat) (ao : Option Addr) (n cap : Nat) (bs : List Nat) (s r last : Nat) : Prop where
  st : Ss w gs g gl gp
  pd : St w gp gf g gl V L F hd
  lg : LogAt w B gl gt ao n cap bs s r last
  v : ∀ k, V k → k < w.heap.size
  ap : ∀ k, LgB gl gt ao k → ¬ PlB gp gf g V k
  sl : ¬ LgB gl gt ao gs
  sp : ¬ PlB gp gf g V gs
  b : B ≤ gp ∧ B ≤ gf ∧ B ≤ g

section
variable {w w' : World} {B gs gp gf g gl gt : Nat} {V V' : Nat → Prop} {L L' : List Sec} {F F' : List Fr} {hd hd' : Nat} {ao ao' : Option Addr} {n cap n' cap' : Nat} {bs bs' : List Nat} {s r last s' last' : Nat}

theorem St.blocks (h : St w gp gf g gl V L F hd) (hs : w.heap.size ≤ w'.heap.size) (hk : ∀ k, k < w.heap.size → PlB gp gf g V k → w'.heap[k]? = w.heap[k]?) : St w' gp gf g gl V L F hd :=
  ⟨h.p.keep (hk gp h.p.lp (.inl rfl)) (hk gf h.p.lf (.inr (.inl rfl))) hs, h.d.kept ⟨hs, fun k h1 h2 => hk k h1 (by rcases h2 with h2 | h2 | h2; exact .inr (.inr (.inr (.inr h2))); exact .inr (.inr (.inl h2)); exact .inr (.inr (.inr (.inl h2))))⟩, h.pg, h.pg1, h.fg, h.fg1, h.vp, h.vf⟩

theorem LogAt.blocks (h : LogAt w B gl gt ao n cap bs s r last) (hs : w.heap.size ≤ w'.heap.size) (hk : ∀ k, k < w.heap.size → LgB gl gt ao k → w'.heap[k]? = w.heap[k]?) : LogAt w' B gl gt ao n cap bs s r last :=
  ⟨h.t.keep hs (hk gt h.t.hd.lt (.inr (.inl rfl))) (fun a ha => hk _ (h.t.own.lt a ha) (.inr (.inr ⟨a, ha, rfl⟩))), h.l.keep (hk gl h.l.lt (.inl rfl)) hs, h.bl, h.ng, h.na⟩

theorem Sto.below (h : Sto w B gs gp gf g gl gt V L F hd ao n cap bs s r last) (hb : Below w.heap.size w w') : Sto w' B gs gp gf g gl gt V L F hd ao n cap bs s r last :=
  ⟨h.st.below hb, h.pd.below hb, h.lg.below hb, fun k hk => Nat.lt_of_lt_of_le (h.v k hk) hb.size, h.ap, h.sl, h.sp, h.b⟩

theorem Sto.lt (h : Sto w B gs gp gf g gl gt V L F hd ao n cap bs s r last) : gp < w.heap.size ∧ gf < w.heap.size ∧ g + 1 < w.heap.size := ⟨h.pd.p.lp, h.pd.p.lf, h.pd.d.lt⟩

theorem Sto.lgLt (h : Sto w B gs gp gf g gl gt V L F hd ao n cap bs s r last) : ∀ k, LgB gl gt ao k → k < w.heap.size := by
  intro k hk
  rcases hk with rfl | rfl | ⟨a, ha, rfl⟩
  · exact h.lg.l.lt
  · exact h.lg.t.hd.lt
  · exact h.lg.t.own.lt a ha

theorem Sto.lgGe (h : Sto w B gs gp gf g gl gt V L F hd ao n cap bs s r last) : ∀ k, LgB gl gt ao k → B ≤ k := by
  intro k hk
  rcases hk with rfl | rfl | ⟨a, ha, rfl⟩
  · exact h.lg.bl
  · exact h.lg.t.bg
  · exact h.lg.t.own.ge a ha

theorem Sto.leB (h : Sto w B gs gp gf g gl gt V L F hd ao n cap bs s r last) : B ≤ w.heap.size := Nat.le_of_lt (Nat.lt_of_le_of_lt h.b.1 h.pd.p.lp)

/-- What a step of the pool leaves of a store. -/
theorem Sto.left (h : Sto w B gs gp gf g gl gt V L F hd ao n cap bs s r last) (hl : Left w w' gp gf g gl V L' F' hd') : (∃ V', Sto w' B gs gp gf g gl gt V' L' F' hd' ao n cap bs s r last) ∧ Below B w w' ∧ Off3 gp gf g w w' := by
  obtain ⟨V1, h1, h2, h3⟩ := hl
  have hb := h3.below h.b.1 h.b.2.1 h.b.2.2 h.leB
  have hk : ∀ k, k < w.heap.size → ¬ PlB gp gf g V k → w'.heap[k]? = w.heap[k]? := fun k hk hn => h3.block k hk (fun e => hn (.inl e)) (fun e => hn (.inr (.inl e))) (fun e => hn (.inr (.inr (.inl e))))
  have hp : ∀ k, k < w.heap.size → PlB gp gf g (fun k => V1 k ∧ k < w'.heap.size) k → PlB gp gf g V k := by
    intro k hk hx
    rcases hx with hx | hx | hx | hx | hx
    · exact .inl hx
    · exact .inr (.inl hx)
    · exact .inr (.inr (.inl hx))
    · exact .inr (.inr (.inr (.inl hx)))
    · exact .inr (.inr (.inr (.inr (h2 k hk hx.1))))
  refine ⟨⟨_, h.st.keep (hk gs h.st.lt h.sp) h3.size, h1.tight, h.lg.blocks h3.size (fun k hk2 hx => hk k hk2 (h.ap k hx)), fun k hx => hx.2, fun k hx hy => h.ap k hx (hp k (h.lgLt k hx) hy), h.sl, fun hy => h.sp (hp gs h.st.lt hy), h.b⟩, hb, h3⟩

/-- What a step of the log leaves of a store. -/
theorem Sto.log (h : Sto w B gs gp gf g gl gt V L F hd ao n cap bs s r last) (hl : LogAt w' B gl gt ao' n' cap' bs' s' r last') (hO : OffL gl gt ao w w') (hN : Nw w ao ao') : Sto w' B gs gp gf g gl gt V L F hd ao' n' cap' bs' s' r last' := by
  have hk : ∀ k, k < w.heap.size → ¬ LgB gl gt ao k → w'.heap[k]? = w.heap[k]? := fun k hk hn => hO.block k hk (fun e => hn (.inl e)) (fun e => hn (.inr (.inl e))) (fun a ha e => hn (.inr (.inr ⟨a, ha, e⟩)))
  have hp : ∀ k, k < w.heap.size → LgB gl gt ao' k → LgB gl gt ao k := by
    intro k hk hx
    rcases hx with hx | hx | ⟨a, ha, rfl⟩
    · exact .inl hx
    · exact .inr (.inl hx)
    · rcases hN a ha with ⟨c, hc, e⟩ | hc
      · exact .inr (.inr ⟨c, hc, e⟩)
      · omega
  have hpl : ∀ k, PlB gp gf g V k → k < w.heap.size := by
    intro k hx
    obtain ⟨h1, h2, h3⟩ := h.lt
    rcases hx with hx | hx | hx | hx | hx
    · omega
    · omega
    · omega
    · omega
    · exact h.v k hx
  exact ⟨h.st.keep (hk gs h.st.lt h.sl) hO.size, h.pd.blocks hO.size (fun k hk2 hx => hk k hk2 (fun hy => h.ap k hy hx)), hl, fun k hx => Nat.lt_of_lt_of_le (h.v k hx) hO.size, fun k hx hy => h.ap k (hp k (hpl k hy) hx) hy, fun hx => h.sl (hp gs h.st.lt hx), h.sp, h.b⟩

theorem Sto.belowL (h : Sto w B gs gp gf g gl gt V L F hd ao n cap bs s r last) (hO : OffL gl gt ao w w') : Below B w w' :=
  ⟨hO.os, hO.tape, hO.output, hO.size, fun k hk => hO.block k (Nat.lt_of_lt_of_le hk h.leB) (by have := h.lgGe gl (.inl rfl); omega) (by have := h.lgGe gt (.inr (.inl rfl)); omega) (fun a ha => by have := h.lgGe a.block (.inr (.inr ⟨a, ha, rfl⟩)); omega)⟩
end

/-! ### stores beside -/

theorem Off3.high {p f g : Nat} {w w1 : World} (h : Off3 p f g w w1) (q j : Nat) (u : Value) (hq : w.heap.size ≤ q) : Off3 p f g w (w1.setCell ⟨q, j, none⟩ u) :=
  ⟨h.os, h.tape, h.output, by simpa [World.setCell] using h.size, fun k hk h1 h2 h3 => (Below.heap_setCell _ _ _ _ (by show k ≠ q; omega)).trans (h.block k hk h1 h2 h3)⟩

theorem Off3.grown {p f g : Nat} {w w1 w2 : World} (h : Off3 p f g w w1) (q : Nat) (hg : w1.grownBy w2 (some q)) (hq : w.heap.size ≤ q) : Off3 p f g w w2 :=
  ⟨hg.os.trans h.os, hg.tape.trans h.tape, hg.output.trans h.output, Nat.le_trans h.size hg.size, fun k hk h1 h2 h3 => (hg.block k (Nat.lt_of_lt_of_le hk h.size) (by intro e; cases e; omega)).trans (h.block k hk h1 h2 h3)⟩

theorem St.grown {w w' : World} {gp gf g gl : Nat} {V : Nat → Prop} {L : List Sec} {F : List Fr} {hd : Nat} (h : St w gp gf g gl V L F hd) (q : Nat) (hg : w.grownBy w' (some q)) (hn : ¬ PlB gp gf g V q) : St w' gp gf g gl V L F hd :=
  h.blocks hg.size fun k hk hx => hg.block k hk (by intro e; cases e; exact hn hx)

theorem St.put5 {w : World} {gp gf g gl : Nat} {V : Nat → Prop} {L : List Sec} {F : List Fr} {hd : Nat} (h : St w gp gf g gl V L F hd) (q : Nat) (hn : ¬ PlB gp gf g V q) (u0 u1 u2 u3 u4 : Value) : St (((((w.setCell ⟨q, 0, none⟩ u0).setCell ⟨q, 1, none⟩ u1).setCell ⟨q, 2, none⟩ u2).setCell ⟨q, 3, none⟩ u3).setCell ⟨q, 4, none⟩ u4) gp gf g gl V L F hd := by
  refine h.blocks (by simp [World.setCell]) fun k hk hx => ?_
  have hne : k ≠ q := by intro e; subst e; exact hn hx
  have hb : ∀ (W : World) (j : Nat) (v : Value), (W.setCell ⟨q, j, none⟩ v).heap[k]? = W.heap[k]? := fun W j v => Below.heap_setCell _ _ _ _ hne
  simp only [hb]

theorem Off3.put5 {p f g : Nat} {w w1 : World} (h : Off3 p f g w w1) (q : Nat) (hq : w.heap.size ≤ q) (u0 u1 u2 u3 u4 : Value) : Off3 p f g w (((((w1.setCell ⟨q, 0, none⟩ u0).setCell ⟨q, 1, none⟩ u1).setCell ⟨q, 2, none⟩ u2).setCell ⟨q, 3, none⟩ u3).setCell ⟨q, 4, none⟩ u4) :=
  ((((h.high q _ _ hq).high q _ _ hq).high q _ _ hq).high q _ _ hq).high q _ _ hq

end Go.Proofs.Ythckdfggnmoaeaa
