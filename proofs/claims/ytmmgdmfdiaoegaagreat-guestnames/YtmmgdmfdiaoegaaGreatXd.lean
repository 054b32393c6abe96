/- Facts on slices of bytes, on what of memory is kept, and on what lies beside a store. No walk. What an append leaves: which block it may have written, and where its result begins. What of memory stays where an object and its row may have turned. No walk. -/
import Derived.Test.YtmmgdmfdiaoegaaGreatProg
import Derived.Test.YtmmgdmfdiaoegaaGreatSl
import Derived.Laws.Rows
import Derived.Lib.SlBytesConst
import Derived.Deep.RegionHeldLaw
namespace Go.Proofs.YtmmgdmfdiaoegaaGreat
open Go.RowKit
set_option linter.unusedVariables false
set_option maxRecDepth 8000

theorem info5 : (Tryz.prog.info? 5).map (fun i => (i.zero, i.size, i.bytes)) = some (some (.int .u8 0), 1, 1) := by kernel_rfl
theorem info3s : (Tryz.prog.info? 3).map (fun i => (i.zero, i.size, i.bytes)) = some (some (.int .i64 0), 1, 8) := by kernel_rfl

/-- Bytes as integers. -/
def ci (bs : List Nat) : List Int := bs.map (fun b : Nat => (b : Int))

theorem ci_length (bs : List Nat) : (ci bs).length = bs.length := by simp [ci]
theorem ci_append (xs ys : List Nat) : ci (xs ++ ys) = ci xs ++ ci ys := by simp [ci]
theorem ci_take (bs : List Nat) (k : Nat) : (ci bs).take k = ci (bs.take k) := by simp [ci]
theorem ci_get (bs : List Nat) (t : Nat) (h : t < (ci bs).length) : (ci bs)[t] = ((bs[t]'(by simpa [ci] using h) : Nat) : Int) := by simp [ci]
theorem ci_set (bs : List Nat) (t x : Nat) : (ci bs).set t (x : Int) = ci (bs.set t x) := by simp [ci, List.map_set]

/-- The slice reads as these bytes. -/
structure Rd8 (w : World) (ao : Option Addr) (n cap : Nat) (bs : List Nat) : Prop where
  rd : RdI w .u8 ao cap (ci bs)
  len : bs.length = n
  byte : ∀ b ∈ bs, b < 256

/-- The slice is the call's own and holds these bytes. -/
structure Own8 (w : World) (base : Nat) (ao : Option Addr) (n cap : Nat) (bs : List Nat) : Prop where
  own : OwnI w base 5 .u8 ao cap (ci bs)
  len : bs.length = n
  byte : ∀ b ∈ bs, b < 256

section
variable {w w' : World} {ao : Option Addr} {n cap base : Nat} {bs : List Nat}
theorem Rd8.below (h : Rd8 w ao n cap bs) (hb : Below w.heap.size w w') : Rd8 w' ao n cap bs := ⟨h.rd.below hb, h.len, h.byte⟩
theorem Rd8.alloc (h : Rd8 w ao n cap bs) (o : Obj) : Rd8 (w.alloc o) ao n cap bs := ⟨h.rd.alloc o, h.len, h.byte⟩
theorem Rd8.heap (h : Rd8 w ao n cap bs) (e : w'.heap = w.heap) : Rd8 w' ao n cap bs := ⟨h.rd.heap e, h.len, h.byte⟩
theorem Own8.rd (h : Own8 w base ao n cap bs) : Rd8 w ao n cap bs := ⟨h.own.rd, h.len, h.byte⟩
theorem Own8.below (h : Own8 w base ao n cap bs) (hb : Below w.heap.size w w') : Own8 w' base ao n cap bs := ⟨h.own.below hb, h.len, h.byte⟩
theorem Rd8.empty (w : World) : Rd8 w none 0 0 [] := ⟨RdI.empty w .u8, rfl, by simp⟩
theorem Rd8.str (h : Rd8 w ao n cap bs) : (convert 43 9 (.slice ao n cap)).run Tryz.prog w = .ok (.string (strOfNums (ci bs))) w :=
  run_string_rd (P := Tryz.prog) 43 9 5 Tryz.underlying43 Tryz.underlying5 Tryz.underlying9 h.rd (by rw [ci_length]; exact h.len)
theorem Rd8.built (w : World) (xs : Array Value) (n : Nat) (bs : List Nat) (hx : xs.toList = (ci bs).map (Value.int .u8)) (hn : bs.length = n) (hb : ∀ b ∈ bs, b < 256) (hm : n ≤ maxLen) : Rd8 (w.alloc (.cells xs 5)) (some ⟨w.heap.size, 0, none⟩) n n bs :=
  ⟨RdI.built w 5 .u8 xs n (ci bs) hx (by rw [ci_length]; exact hn) hm, hn, hb⟩
theorem Rd8.at (h : Rd8 w ao n cap bs) {t : Nat} (ht : t < n) : ∃ b off, ao = some ⟨b, off, none⟩ ∧ ∃ h2 : t < bs.length, w.cell? ⟨b, off + t, none⟩ = some (.int .u8 ((bs[t] : Nat) : Int)) := by
  have hl := h.len
  obtain ⟨b, off, e, _, hc⟩ := h.rd.at (t := t) (by rw [ci_length]; omega)
  refine ⟨b, off, e, by omega, ?_⟩
  rw [hc t (by rw [ci_length]; omega), ci_get]
end

/-- The bytes of a constant string. -/
theorem Rd8.marked (w : World) (xs : Array Value) (n : Nat) (fr : Nat × Nat) (bs : List Nat) (hx : xs.toList = (ci bs).map (Value.int .u8)) (hn : bs.length = n) (hb : ∀ b ∈ bs, b < 256) (hm : n ≤ maxLen) : Rd8 (w.alloc (.cells xs 5 fr)) (some ⟨w.heap.size, 0, none⟩) n n bs := by
  refine ⟨⟨by simp [ci_length]; omega, hm, fun h => (by cases h), fun _ => ⟨w.heap.size, 0, rfl, by simp, fun t ht => ?_⟩⟩, hn, hb⟩
  have hh : (w.alloc (.cells xs 5 fr)).heap[w.heap.size]? = some (.cells xs 5 fr) := heap_alloc_new w _
  simp only [World.cell?, hh]
  have e1 : xs = ((ci bs).map (Value.int .u8)).toArray := by rw [← hx]
  subst e1
  simp only [List.length_map] at ht
  simp [ht]

/-! ### What is kept -/

/-- All blocks but g are as they were. -/
structure Off (g : Nat) (w w' : World) : Prop where
  os : w'.os = w.os
  tape : w'.tape = w.tape
  output : w'.output = w.output
  size : w.heap.size ≤ w'.heap.size
  block : ∀ k, k < w.heap.size → k ≠ g → w'.heap[k]? = w.heap[k]?

theorem Off.refl (g : Nat) (w : World) : Off g w w := ⟨rfl, rfl, rfl, Nat.le_refl _, fun _ _ _ => rfl⟩
theorem Off.trans {g : Nat} {a b c : World} (h : Off g a b) (k : Off g b c) : Off g a c :=
  ⟨k.os.trans h.os, k.tape.trans h.tape, k.output.trans h.output, Nat.le_trans h.size k.size, fun i hi hne => (k.block i (Nat.lt_of_lt_of_le hi h.size) hne).trans (h.block i hi hne)⟩
theorem Off.of_below {g : Nat} {a b : World} (h : Below a.heap.size a b) : Off g a b := ⟨h.os, h.tape, h.output, h.size, fun i hi _ => h.block i hi⟩
theorem Off.setCell {g : Nat} {a w : World} (h : Off g a w) {p : Addr} (hp : p.block = g) (u : Value) : Off g a (w.setCell p u) :=
  h.trans ⟨rfl, rfl, rfl, by simp [World.setCell], fun k _ hne => Below.heap_setCell _ _ _ _ (by omega)⟩
/-- Below the block nothing has turned. -/
theorem Off.below {g B : Nat} {a b : World} (h : Off g a b) (hB : B ≤ g) (hs : B ≤ a.heap.size) : Below B a b := ⟨h.os, h.tape, h.output, h.size, fun k hk => h.block k (by omega) (by omega)⟩
theorem below_off {g B : Nat} {a b c : World} (h : Below B a b) (k : Off g b c) (hB : B ≤ g) (hs : B ≤ b.heap.size) : Below B a c := h.trans (k.below hB hs)

/-- The blocks of a set are as they were. -/
structure Kept (V : Nat → Prop) (w w' : World) : Prop where
  size : w.heap.size ≤ w'.heap.size
  block : ∀ k, k < w.heap.size → V k → w'.heap[k]? = w.heap[k]?

theorem Kept.of_below {V : Nat → Prop} {a b : World} (h : Below a.heap.size a b) : Kept V a b := ⟨h.size, fun i hi _ => h.block i hi⟩
theorem Kept.of_off {V : Nat → Prop} {g : Nat} {a b : World} (h : Off g a b) (hv : ∀ k, V k → k ≠ g) : Kept V a b := ⟨h.size, fun i hi h2 => h.block i hi (hv i h2)⟩
theorem Kept.setCell {V : Nat → Prop} (w : World) (p : Addr) (u : Value) (hv : ¬ V p.block) : Kept V w (w.setCell p u) :=
  ⟨by simp [World.setCell], fun k _ hk => Below.heap_setCell _ _ _ _ (by intro e; subst e; exact hv hk)⟩
theorem Kept.refl {V : Nat → Prop} (w : World) : Kept V w w := ⟨Nat.le_refl _, fun _ _ _ => rfl⟩
theorem Kept.trans {V : Nat → Prop} {a b c : World} (h : Kept V a b) (k : Kept V b c) : Kept V a c :=
  ⟨Nat.le_trans h.size k.size, fun i hi hv => (k.block i (Nat.lt_of_lt_of_le hi h.size) hv).trans (h.block i hi hv)⟩
theorem Kept.mono {V U : Nat → Prop} {a b : World} (h : Kept V a b) (hv : ∀ k, U k → V k) : Kept U a b := ⟨h.size, fun i hi k => h.block i hi (hv i k)⟩

/-- The slice lies in a block of the set. -/
def In (w : World) (V : Nat → Prop) (ao : Option Addr) : Prop := ∀ a, ao = some a → V a.block ∧ a.block < w.heap.size

theorem In.none (w : World) (V : Nat → Prop) : In w V Option.none := fun a h => by cases h
theorem In.mono {w w' : World} {V U : Nat → Prop} {ao : Option Addr} (h : In w V ao) (hs : w.heap.size ≤ w'.heap.size) (hv : ∀ k, k < w.heap.size → V k → U k) : In w' U ao :=
  fun a e => ⟨hv _ (h a e).2 (h a e).1, Nat.lt_of_lt_of_le (h a e).2 hs⟩

theorem RdS.kept {w w' : World} {V : Nat → Prop} {ao : Option Addr} {cap : Nat} {xs : List Value} (h : RdS w ao cap xs) (hi : In w V ao) (hk : Kept V w w') : RdS w' ao cap xs := by
  refine ⟨h.le, h.mx, h.nil, fun hx => ?_⟩
  obtain ⟨b, off, e, hlt, hc⟩ := h.cell hx
  obtain ⟨hv, hl⟩ := hi _ e
  exact ⟨b, off, e, Nat.lt_of_lt_of_le hlt hk.size, fun t ht => (World.cell?_of_block (w := w) (hk.block b hl hv)).trans (hc t ht)⟩

theorem Rd8.kept {w w' : World} {V : Nat → Prop} {ao : Option Addr} {n cap : Nat} {bs : List Nat} (h : Rd8 w ao n cap bs) (hi : In w V ao) (hk : Kept V w w') : Rd8 w' ao n cap bs := ⟨RdS.kept h.rd hi hk, h.len, h.byte⟩

theorem OwnS.inn {w : World} {base : Nat} {e : TypeId} {ao : Option Addr} {cap : Nat} {xs : List Value} (h : OwnS w base e ao cap xs) : In w (fun k => base ≤ k) ao := by
  intro a ha
  obtain ⟨_, h2⟩ := h
  rcases h2 with ⟨hv, _⟩ | ⟨g, cp, cur, hv, hg, hh, _⟩
  · simp only [Value.slice.injEq] at hv; rw [hv.1] at ha; cases ha
  · simp only [Value.slice.injEq] at hv
    rw [hv.1] at ha
    cases ha
    exact ⟨hg, (Array.getElem?_eq_some_iff.1 hh).1⟩

theorem Own8.inn {w : World} {base : Nat} {ao : Option Addr} {n cap : Nat} {bs : List Nat} (h : Own8 w base ao n cap bs) : In w (fun k => base ≤ k) ao := OwnS.inn h.own

theorem put_other (w : World) (g i j : Nat) (u : Value) (hne : j ≠ i) : (w.setCell ⟨g, i, none⟩ u).cell? ⟨g, j, none⟩ = w.cell? ⟨g, j, none⟩ :=
  World.cell?_setCell_other _ _ _ _ (by intro e; simp only [Addr.mk.injEq] at e; omega)

end Go.Proofs.YtmmgdmfdiaoegaaGreat

namespace Go.Proofs.YtmmgdmfdiaoegaaGreat
open Go.RowKit
set_option linter.unusedVariables false
set_option maxRecDepth 8000

/-- What an append to a slice of the call's own leaves; which block alone it may have written. -/
theorem run_append_g {P : Program} {w : World} (base : Nat) (t ty e : TypeId) (z : Value) (bytes : Nat) (ht : P.underlying t = some (.slice e))
    (hinfo : (P.info? e).map (fun i => (i.zero, i.size, i.bytes)) = some (some z, 1, bytes)) (hzs : z.cells.size = 1)
    {ao : Option Addr} {cap : Nat} {xs : List Value} (hown : OwnS w base e ao cap xs) {ao' : Option Addr} {cap' : Nat} {ys : List Value} (hrd : RdS w ao' cap' ys)
    (h1 : ∀ u ∈ ys, u.oneCell' = true) (hbytes : (xs.length + ys.length) * bytes ≤ 140737488355328) (h63 : xs.length + ys.length ≤ maxLen) (hbase : base ≤ w.heap.size) :
    ∃ ao2 cap2 w', (Builtin.append_ #[t, t] ty #[.slice ao xs.length cap, .slice ao' ys.length cap']).run P w = .ok (.slice ao2 (xs.length + ys.length) cap2) w' ∧
      OwnS w' base e ao2 cap2 (xs ++ ys) ∧ w.grownBy w' (Value.ownBlock (.slice ao xs.length cap)) := by
  obtain ⟨i0, hi, hz0, hz1, hz2⟩ := info_parts hinfo
  have fin : ∀ v' w', w'.ownsRow base e 1 v' (xs.length + ys.length) (xs ++ ys) → ∃ ao2 cap2, v' = .slice ao2 (xs.length + ys.length) cap2 ∧ OwnS w' base e ao2 cap2 (xs ++ ys) := by
    intro v' w' h
    obtain ⟨h1, h2⟩ := h
    have hlen : (xs ++ ys).length = xs.length + ys.length := by simp
    rcases h2 with ⟨hv, hn⟩ | ⟨g, cp, cur, hv, r⟩
    · exact ⟨none, 0, by rw [hv, hn], by unfold OwnS World.ownsRow; rw [hlen]; exact ⟨by simp, .inl ⟨by rw [hn], hn⟩⟩⟩
    · exact ⟨some ⟨g, 0, none⟩, cp, hv, by unfold OwnS World.ownsRow; rw [hlen]; exact ⟨by simp, .inr ⟨g, cp, cur, rfl, r⟩⟩⟩
  by_cases hy : ys = []
  · subst hy
    cases ao' with
    | none =>
      have hc := hrd.nil rfl
      subst hc
      have hrun := run_append_owned_none (P := P) (w := w) base t ty e i0 1 ht hi _ xs.length xs hown
      refine ⟨ao, cap, w, by simpa using hrun, by simpa using hown, ⟨rfl, rfl, rfl, Nat.le_refl _, fun _ _ _ => rfl⟩⟩
    | some ad =>
      obtain ⟨v', w', hr, h2, h3, _⟩ := run_append_own (P := P) w base t ty e i0 z 1 bytes ht hi hz0 hz1 hz2 hzs (by decide) _ _ _ hown ad 0 cap' [] (by simp) (by intro j u h; simp at h) (by simp) h63 hbytes hbase
      obtain ⟨ao2, cap2, rfl, ho⟩ := fin v' w' h2
      exact ⟨ao2, cap2, w', hr, ho, h3⟩
  · obtain ⟨b, off, rfl, _, hc⟩ := hrd.cell hy
    obtain ⟨v', w', hr, h2, h3, _⟩ := run_append_own (P := P) w base t ty e i0 z 1 bytes ht hi hz0 hz1 hz2 hzs (by decide) _ _ _ hown ⟨b, off, none⟩ ys.length cap' ys (by simp) (by
      intro j u h
      obtain ⟨hj, rfl⟩ := List.getElem?_eq_some_iff.1 h
      rw [Addr.add_lit]
      exact hc j hj) h1 h63 hbytes hbase
    obtain ⟨ao2, cap2, rfl, ho⟩ := fin v' w' h2
    exact ⟨ao2, cap2, w', hr, ho, h3⟩

theorem wpList_append_g {P : Program} (w : World) {ops : Array Oper} {rest : List Oper} {o : Oper} {a : Act} {Q : Exit → Act → World → Prop} (hgd : o.guard = none) (s x : Operand) (t : TypeId)
    (ho : o.op = .call { callee := .builtin .append, args := #[s, x], argTypes := #[t, t] })
    (base : Nat) (e : TypeId) (z : Value) (bytes : Nat) (ht : P.underlying t = some (.slice e))
    (hinfo : (P.info? e).map (fun i => (i.zero, i.size, i.bytes)) = some (some z, 1, bytes)) (hzs : z.cells.size = 1)
    {ao : Option Addr} {cap n : Nat} {xs : List Value} {ao' : Option Addr} {cap' m : Nat} {ys : List Value}
    (hs : a.eval s = .slice ao n cap) (hx : a.eval x = .slice ao' m cap') (hown : OwnS w base e ao cap xs) (hrd : RdS w ao' cap' ys) (hn : xs.length = n) (hm : ys.length = m)
    (h1 : ∀ u ∈ ys, u.oneCell' = true) (hbytes : (n + m) * bytes ≤ 140737488355328) (h63 : n + m ≤ maxLen) (hbase : base ≤ w.heap.size)
    (h : ∀ ao2 cap2 w', OwnS w' base e ao2 cap2 (xs ++ ys) → w.grownBy w' (Value.ownBlock (.slice ao n cap)) → wpList P ops Q rest (a.put o.dst (.slice ao2 (n + m) cap2)) w') : wpList P ops Q (o :: rest) a w := by
  subst hn hm
  refine wpList_plain hgd fun _ hK => ?_
  obtain ⟨ao2, cap2, w', hr, h2, h3⟩ := run_append_g (P := P) base t o.type e z bytes ht hinfo hzs hown hrd h1 hbytes h63 hbase
  unfold Oper.wp execOp
  simp only [ho, resolve, invoke, builtin, Sem.run_bind, Sem.run_pure, Result.andThen_ok, List.map_toArray, List.map_cons, List.map_nil, hs, hx, hr]
  exact hK _ _ (h ao2 cap2 w' h2 h3)

/-- What is of another type is kept by an append. -/
theorem OwnS.other {w w' : World} {base base' : Nat} {e f : TypeId} {ao ao' : Option Addr} {cap n cap' : Nat} {xs ys : List Value} (h : OwnS w base e ao cap xs) (k : OwnS w base' f ao' cap' ys) (hn : ys.length = n) (hne : e ≠ f)
    (hg : w.grownBy w' (Value.ownBlock (.slice ao' n cap'))) : OwnS w' base e ao cap xs := by
  subst hn
  obtain ⟨h1, h2⟩ := h
  refine ⟨h1, ?_⟩
  rcases h2 with h2 | ⟨g, cp, cur, hv, hg2, hh, r⟩
  · exact .inl h2
  · refine .inr ⟨g, cp, cur, hv, hg2, ?_, r⟩
    rw [hg.block g (Array.getElem?_eq_some_iff.1 hh).1 ?_]
    · exact hh
    · intro e2
      obtain ⟨_, k2⟩ := k
      rcases k2 with ⟨kv, _⟩ | ⟨g', cp', cur', kv, _, kh, _⟩
      · rw [kv] at e2; simp [Value.ownBlock] at e2
      · rw [kv] at e2
        simp [Value.ownBlock] at e2
        subst e2
        rw [hh] at kh
        simp only [Option.some.injEq, Obj.cells.injEq] at kh
        exact hne kh.2.1

theorem OwnS.grownBelow {w w' : World} {base : Nat} {e : TypeId} {ao : Option Addr} {cap n : Nat} {xs : List Value} (h : OwnS w base e ao cap xs) (hn : xs.length = n) (hs : base ≤ w.heap.size)
    (hg : w.grownBy w' (Value.ownBlock (.slice ao n cap))) : Below base w w' := by
  subst hn
  exact h.grown (Nat.le_refl _) hs hg

/-- A part, as a value. -/
structure Pt where
  ao : Option Addr
  n : Nat
  cap : Nat
  bs : List Nat

/-- The slice is new since w: none of its elements lies in what was there, and it begins at the first new block. -/
structure Fresh (w w' : World) (e : TypeId) (ao : Option Addr) (cap : Nat) (ys : List Value) : Prop where
  nil : ao = none → cap = 0
  le : ys.length ≤ cap
  mx : cap ≤ maxLen
  below : Below w.heap.size w w'
  own : ys ≠ [] → ao = some ⟨w.heap.size, 0, none⟩ ∧ OwnS w' w.heap.size e ao cap ys

theorem run_append_new {P : Program} {w : World} (t ty e : TypeId) (z : Value) (bytes : Nat) (ht : P.underlying t = some (.slice e))
    (hinfo : (P.info? e).map (fun i => (i.zero, i.size, i.bytes)) = some (some z, 1, bytes)) (hzs : z.cells.size = 1) (ad : Addr)
    {ao' : Option Addr} {cap' : Nat} {ys : List Value} (hrd : RdS w ao' cap' ys) (h1 : ∀ u ∈ ys, u.oneCell' = true) (hbytes : ys.length * bytes ≤ 140737488355328) (h63 : ys.length ≤ maxLen) :
    ∃ ao2 cap2 w', (Builtin.append_ #[t, t] ty #[.slice (some ad) 0 0, .slice ao' ys.length cap']).run P w = .ok (.slice ao2 ys.length cap2) w' ∧ Fresh w w' e ao2 cap2 ys := by
  obtain ⟨i, hi, hz0, hz1, hz2⟩ := info_parts hinfo
  by_cases hy : ys = []
  · subst hy
    refine ⟨some ad, 0, w, ?_, ⟨fun h => (by cases h), by simp, by simp, Below.refl _ _, fun h => absurd rfl h⟩⟩
    cases ao' with
    | none =>
      have := hrd.nil rfl
      subst this
      simp [Builtin.append_, run_underlying ht, sizeOf, typeInfo, hi, Builtin.lenOf, Builtin.firstCells, storeCells]
    | some a =>
      simp [Builtin.append_, run_underlying ht, sizeOf, typeInfo, hi, Builtin.lenOf, Builtin.firstCells, loadCells, loadCellsFrom, storeCells]
  · obtain ⟨b, off, rfl, _, hc⟩ := hrd.cell hy
    have hm : 0 < ys.length := List.length_pos_iff.2 hy
    have h63' := h63
    simp only [maxLen] at h63'
    have hr := run_append_grow (P := P) w t ty e i z ht hi hz0 ad 0 0 [] (by simp) (by intro j u h; simp at h) ⟨b, off, none⟩ ys.length cap' ys (by rw [hz1]; simp) (by
      intro j u h
      obtain ⟨hj, rfl⟩ := List.getElem?_eq_some_iff.1 h
      rw [Addr.add_lit]
      exact hc j hj) (by omega) (by omega) (growslice_fits (by omega) (by rw [hz2]; simpa using hbytes))
    simp only [Nat.zero_add] at hr
    have hge := grownCap_ge w ys.length 0 e
    have hcm := grownCap_le_maxLen w ys.length 0 e h63
    refine ⟨_, _, _, hr, ⟨fun h => (by cases h), hge, hcm, ?_, fun _ => ⟨rfl, ?_⟩⟩⟩
    · exact (Below.refl _ _).drew.alloc (by simp) _
    · refine ⟨by simp, .inr ⟨w.heap.size, _, _, rfl, Nat.le_refl _, heap_alloc_new w.drew _, hge, hcm, ?_, ?_⟩⟩
      · simp only [Array.size_append, List.size_toArray, size_zeroCells, hzs, List.length_nil, Nat.mul_one]
        omega
      · simp

theorem step_append_new {P : Program} (w : World) {ops : Array Oper} {o : Oper} {a : Act} {K : Act → World → Prop} {Q : Exit → Act → World → Prop} {E : Prop} (hgd : o.guard = none) (s x : Operand) (t : TypeId)
    (ho : o.op = .call { callee := .builtin .append, args := #[s, x], argTypes := #[t, t] })
    (e : TypeId) (z : Value) (bytes : Nat) (ht : P.underlying t = some (.slice e))
    (hinfo : (P.info? e).map (fun i => (i.zero, i.size, i.bytes)) = some (some z, 1, bytes)) (hzs : z.cells.size = 1) {ad : Addr}
    {ao' : Option Addr} {cap' m : Nat} {ys : List Value}
    (hs : a.eval s = .slice (some ad) 0 0) (hx : a.eval x = .slice ao' m cap') (hrd : RdS w ao' cap' ys) (hm : ys.length = m) (h1 : ∀ u ∈ ys, u.oneCell' = true)
    (hbytes : m * bytes ≤ 140737488355328) (h63 : m ≤ maxLen)
    (h : ∀ ao2 cap2 w', Fresh w w' e ao2 cap2 ys → K (a.put o.dst (.slice ao2 m cap2)) w') :
    if Region.wanted o (yielded ops a.tmps) = true then Oper.wp P o a w K Q else E := by
  have hw : Region.wanted o (yielded ops a.tmps) = true := by simp [Region.wanted, hgd]
  rw [if_pos hw]
  subst hm
  obtain ⟨ao2, cap2, w', hr, h2⟩ := run_append_new (P := P) t o.type e z bytes ht hinfo hzs ad hrd h1 hbytes h63
  unfold Oper.wp execOp
  simp only [ho, resolve, invoke, builtin, Sem.run_bind, Sem.run_pure, Result.andThen_ok, List.map_toArray, List.map_cons, List.map_nil, hs, hx, hr]
  exact h ao2 cap2 w' h2

/-- Where what an append leaves begins: where it began, or at the first new block. -/
theorem run_append_where {P : Program} {w : World} (base : Nat) (t ty e : TypeId) (z : Value) (bytes : Nat) (ht : P.underlying t = some (.slice e))
    (hinfo : (P.info? e).map (fun i => (i.zero, i.size, i.bytes)) = some (some z, 1, bytes)) (hzs : z.cells.size = 1)
    {ao : Option Addr} {cap : Nat} {xs : List Value} (hown : OwnS w base e ao cap xs) {ao' : Option Addr} {cap' : Nat} {ys : List Value} (hrd : RdS w ao' cap' ys) (hy : ys ≠ [])
    (h1 : ∀ u ∈ ys, u.oneCell' = true) (hbytes : (xs.length + ys.length) * bytes ≤ 140737488355328) (h63 : xs.length + ys.length ≤ maxLen) (hbase : base ≤ w.heap.size) :
    ∃ ao2 cap2 w', (Builtin.append_ #[t, t] ty #[.slice ao xs.length cap, .slice ao' ys.length cap']).run P w = .ok (.slice ao2 (xs.length + ys.length) cap2) w' ∧
      OwnS w' base e ao2 cap2 (xs ++ ys) ∧ w.grownBy w' (Value.ownBlock (.slice ao xs.length cap)) ∧ (ao2 = ao ∨ ao2 = some ⟨w.heap.size, 0, none⟩) := by
  obtain ⟨ao2, cap2, w', hr, h2, h3⟩ := run_append_g (P := P) base t ty e z bytes ht hinfo hzs hown hrd h1 hbytes h63 hbase
  refine ⟨ao2, cap2, w', hr, h2, h3, ?_⟩
  obtain ⟨i, hi, hz0, hz1, hz2⟩ := info_parts hinfo
  obtain ⟨b, off, rfl, _, hc⟩ := hrd.cell hy
  have hm : 0 < ys.length := List.length_pos_iff.2 hy
  have h63' := h63
  simp only [maxLen] at h63'
  have hnews : ∀ j u, ys[j]? = some u → w.cell? ((⟨b, off, none⟩ : Addr).add j) = some u := by
    intro j u h
    obtain ⟨hj, rfl⟩ := List.getElem?_eq_some_iff.1 h
    rw [Addr.add_lit]
    exact hc j hj
  have hown' := hown
  obtain ⟨q1, q2⟩ := hown'
  rcases q2 with ⟨hv, hn⟩ | ⟨g, cp, cur, hv, hg, hh, hle, hmx, hsz, htk⟩
  · have hx : xs = [] := List.eq_nil_of_length_eq_zero hn
    subst hx
    simp only [List.length_nil, Value.slice.injEq, true_and] at hv
    obtain ⟨rfl, rfl⟩ := hv
    have hr2 := run_append_nil (P := P) w t ty e i z ht hi hz0 ⟨b, off, none⟩ ys.length cap' ys (by rw [hz1]; simp) hnews (by omega) (by simp at h63'; omega) (by rw [hz2]; simp at hbytes; omega)
    simp only [List.length_nil] at hr
    rw [hr2] at hr
    simp only [Result.ok.injEq, Value.slice.injEq] at hr
    exact .inr hr.1.1.symm
  · simp only [Value.slice.injEq] at hv
    obtain ⟨rfl, _, rfl⟩ := hv
    by_cases hroom : xs.length + ys.length ≤ cap
    · have hr2 := run_append_room (P := P) w t ty e i ht hi g xs.length cap cur hh ⟨b, off, none⟩ ys.length cap' ys (by rw [hz1]; simp) hnews h1 hroom (by rw [hz1]; omega)
      rw [hr2] at hr
      simp only [Result.ok.injEq, Value.slice.injEq] at hr
      exact .inl hr.1.1.symm
    · have holds : ∀ j u, xs[j]? = some u → w.cell? ((⟨g, 0, none⟩ : Addr).add j) = some u := by
        have := World.ownsRow.cells hown (g := g) rfl
        exact this
      have hr2 := run_append_grow (P := P) w t ty e i z ht hi hz0 ⟨g, 0, none⟩ xs.length cap xs (by rw [hz1]; simp) holds ⟨b, off, none⟩ ys.length cap' ys (by rw [hz1]; simp) hnews (by omega) (by omega) (growslice_fits (by omega) (by rw [hz2]; exact hbytes))
      rw [hr2] at hr
      simp only [Result.ok.injEq, Value.slice.injEq] at hr
      exact .inr hr.1.1.symm

def Pt.val (p : Pt) : Value := .slice p.ao p.n p.cap

/-- The same, also where nothing is appended. -/
theorem run_append_at {P : Program} {w : World} (base : Nat) (t ty e : TypeId) (z : Value) (bytes : Nat) (ht : P.underlying t = some (.slice e))
    (hinfo : (P.info? e).map (fun i => (i.zero, i.size, i.bytes)) = some (some z, 1, bytes)) (hzs : z.cells.size = 1)
    {ao : Option Addr} {cap : Nat} {xs : List Value} (hown : OwnS w base e ao cap xs) {ao' : Option Addr} {cap' : Nat} {ys : List Value} (hrd : RdS w ao' cap' ys)
    (h1 : ∀ u ∈ ys, u.oneCell' = true) (hbytes : (xs.length + ys.length) * bytes ≤ 140737488355328) (h63 : xs.length + ys.length ≤ maxLen) (hbase : base ≤ w.heap.size) :
    ∃ ao2 cap2 w', (Builtin.append_ #[t, t] ty #[.slice ao xs.length cap, .slice ao' ys.length cap']).run P w = .ok (.slice ao2 (xs.length + ys.length) cap2) w' ∧
      OwnS w' base e ao2 cap2 (xs ++ ys) ∧ w.grownBy w' (Value.ownBlock (.slice ao xs.length cap)) ∧ (ao2 = ao ∨ ao2 = some ⟨w.heap.size, 0, none⟩) := by
  by_cases hy : ys = []
  · subst hy
    obtain ⟨i, hi, hz0, hz1, hz2⟩ := info_parts hinfo
    obtain ⟨ao2, cap2, w', hr, h2, h3⟩ := run_append_g (P := P) base t ty e z bytes ht hinfo hzs hown hrd h1 hbytes h63 hbase
    refine ⟨ao2, cap2, w', hr, h2, h3, .inl ?_⟩
    cases ao' with
    | none =>
      have hc := hrd.nil rfl
      subst hc
      have hrun := run_append_owned_none (P := P) (w := w) base t ty e i 1 ht hi _ xs.length xs hown
      simp only [List.length_nil] at hr
      rw [hrun] at hr
      simp only [Result.ok.injEq, Value.slice.injEq] at hr
      exact hr.1.1.symm
    | some ad =>
      have hown' := hown
      obtain ⟨q1, q2⟩ := hown'
      rcases q2 with ⟨hv, hn⟩ | ⟨g, cp, cur, hv, hg, hh, hle, hmx, hsz, htk⟩
      · have hx : xs = [] := List.eq_nil_of_length_eq_zero hn
        subst hx
        simp only [List.length_nil, Value.slice.injEq, true_and] at hv
        obtain ⟨rfl, rfl⟩ := hv
        obtain ⟨v', w2, hr2, _, _, hq⟩ := run_append_own (P := P) w base t ty e i z 1 bytes ht hi hz0 hz1 hz2 hzs (by decide) _ _ _ hown ad 0 cap' [] (by simp) (by intro j u h; simp at h) (by simp) h63 hbytes hbase
        have hv := hq.2 ⟨rfl, rfl⟩
        subst hv
        simp only [List.length_nil] at hr hr2
        rw [hr2] at hr
        simp only [Result.ok.injEq, Value.slice.injEq] at hr
        exact hr.1.1.symm
      · simp only [Value.slice.injEq] at hv
        obtain ⟨rfl, _, rfl⟩ := hv
        have hr2 := run_append_room (P := P) w t ty e i ht hi g xs.length cap cur hh ad 0 cap' [] (by simp) (by intro j u h; simp at h) h1 (by simpa using hle) (by rw [hz1]; simp only [List.length_nil]; omega)
        simp only [List.length_nil] at hr
        rw [hr2] at hr
        simp only [Result.ok.injEq, Value.slice.injEq] at hr
        exact hr.1.1.symm
  · exact run_append_where base t ty e z bytes ht hinfo hzs hown hrd hy h1 hbytes h63 hbase

theorem wpList_append_at {P : Program} (w : World) {ops : Array Oper} {rest : List Oper} {o : Oper} {a : Act} {Q : Exit → Act → World → Prop} (hgd : o.guard = none) (s x : Operand) (t : TypeId)
    (ho : o.op = .call { callee := .builtin .append, args := #[s, x], argTypes := #[t, t] })
    (base : Nat) (e : TypeId) (k : IntKind) (z : Value) (bytes : Nat) (ht : P.underlying t = some (.slice e))
    (hinfo : (P.info? e).map (fun i => (i.zero, i.size, i.bytes)) = some (some z, 1, bytes)) (hzs : z.cells.size = 1)
    {ao : Option Addr} {cap n : Nat} {xs : List Int} {ao' : Option Addr} {cap' m : Nat} {ys : List Int}
    (hs : a.eval s = .slice ao n cap) (hx : a.eval x = .slice ao' m cap') (hown : OwnI w base e k ao cap xs) (hrd : RdI w k ao' cap' ys) (hn : xs.length = n) (hm : ys.length = m)
    (hbytes : (n + m) * bytes ≤ 140737488355328) (h63 : n + m ≤ maxLen) (hbase : base ≤ w.heap.size)
    (h : ∀ ao2 cap2 w', OwnI w' base e k ao2 cap2 (xs ++ ys) → w.grownBy w' (Value.ownBlock (.slice ao n cap)) → (ao2 = ao ∨ ao2 = some ⟨w.heap.size, 0, none⟩) → wpList P ops Q rest (a.put o.dst (.slice ao2 (n + m) cap2)) w') : wpList P ops Q (o :: rest) a w := by
  subst hn hm
  refine wpList_plain hgd fun _ hK => ?_
  obtain ⟨ao2, cap2, w', hr, h2, h3, h4⟩ := run_append_at (P := P) base t o.type e z bytes ht hinfo hzs hown hrd (ints_one _ _) (by simpa using hbytes) (by simpa using h63) hbase
  simp only [List.length_map] at hr h3
  unfold Oper.wp execOp
  simp only [ho, resolve, invoke, builtin, Sem.run_bind, Sem.run_pure, Result.andThen_ok, List.map_toArray, List.map_cons, List.map_nil, hs, hx, hr]
  exact hK _ _ (h ao2 cap2 w' (by unfold OwnI; rw [List.map_append]; exact h2) h3 h4)

end Go.Proofs.YtmmgdmfdiaoegaaGreat

namespace Go.Proofs.YtmmgdmfdiaoegaaGreat
open Go.RowKit
set_option linter.unusedVariables false
set_option maxRecDepth 8000

/-- All blocks but g and that of ao are as they were. -/
structure Off2 (g : Nat) (ao : Option Addr) (w w' : World) : Prop where
  os : w'.os = w.os
  tape : w'.tape = w.tape
  output : w'.output = w.output
  size : w.heap.size ≤ w'.heap.size
  block : ∀ k, k < w.heap.size → k ≠ g → (∀ a, ao = some a → a.block ≠ k) → w'.heap[k]? = w.heap[k]?

/-- A slice's block is that of the elder one, or new since w. -/
def Nw (w : World) (ao ao' : Option Addr) : Prop := ∀ a, ao' = some a → (∃ c, ao = some c ∧ c.block = a.block) ∨ w.heap.size ≤ a.block

theorem Nw.refl (w : World) (ao : Option Addr) : Nw w ao ao := fun a h => .inl ⟨a, h, rfl⟩
theorem Nw.trans {w w1 : World} {a b c : Option Addr} (h : Nw w a b) (k : Nw w1 b c) (hs : w.heap.size ≤ w1.heap.size) : Nw w a c := by
  intro x hx
  rcases k x hx with ⟨y, hy, e⟩ | hy
  · rcases h y hy with ⟨z, hz, e2⟩ | hz
    · exact .inl ⟨z, hz, e2.trans e⟩
    · exact .inr (by omega)
  · exact .inr (by omega)

theorem Off2.refl (g : Nat) (ao : Option Addr) (w : World) : Off2 g ao w w := ⟨rfl, rfl, rfl, Nat.le_refl _, fun _ _ _ _ => rfl⟩
theorem Off2.trans {g : Nat} {a b : Option Addr} {w w1 w2 : World} (h : Off2 g a w w1) (k : Off2 g b w1 w2) (hn : Nw w a b) : Off2 g a w w2 :=
  ⟨k.os.trans h.os, k.tape.trans h.tape, k.output.trans h.output, Nat.le_trans h.size k.size, fun i hi hg ha => (k.block i (Nat.lt_of_lt_of_le hi h.size) hg (fun x hx => by
    rcases hn x hx with ⟨y, hy, e⟩ | hy
    · have := ha y hy; omega
    · omega)).trans (h.block i hi hg ha)⟩
theorem Off2.of_off {g : Nat} {w w' : World} (ao : Option Addr) (h : Off g w w') : Off2 g ao w w' := ⟨h.os, h.tape, h.output, h.size, fun k hk hg _ => h.block k hk hg⟩
theorem Off2.of_below {g : Nat} {w w' : World} (ao : Option Addr) (h : Below w.heap.size w w') : Off2 g ao w w' := ⟨h.os, h.tape, h.output, h.size, fun k hk _ _ => h.block k hk⟩
theorem Off2.of_grown {w w' : World} (g : Nat) {ao : Option Addr} {n cap : Nat} (h : w.grownBy w' (Value.ownBlock (.slice ao n cap))) : Off2 g ao w w' :=
  ⟨h.os, h.tape, h.output, h.size, fun k hk _ ha => h.block k hk (by
    cases ao with
    | none => simp [Value.ownBlock]
    | some a => simp [Value.ownBlock]; exact fun e => ha a rfl e.symm)⟩
theorem Off2.setCell {g : Nat} {ao : Option Addr} {a w : World} (h : Off2 g ao a w) {p : Addr} (hp : p.block = g) (u : Value) : Off2 g ao a (w.setCell p u) :=
  h.trans (b := ao) ⟨rfl, rfl, rfl, by simp [World.setCell], fun k _ hne _ => Below.heap_setCell _ _ _ _ (by omega)⟩ (Nw.refl _ _)
theorem Off2.below {g B : Nat} {ao : Option Addr} {a b : World} (h : Off2 g ao a b) (hB : B ≤ g) (ho : ∀ x, ao = some x → B ≤ x.block) (hs : B ≤ a.heap.size) : Below B a b :=
  ⟨h.os, h.tape, h.output, h.size, fun k hk => h.block k (by omega) (by omega) (fun x hx => by have := ho x hx; omega)⟩

theorem OwnS.keep {w w' : World} {base : Nat} {e : TypeId} {ao : Option Addr} {cap : Nat} {xs : List Value} (h : OwnS w base e ao cap xs) (hb : ∀ a, ao = some a → w'.heap[a.block]? = w.heap[a.block]?) : OwnS w' base e ao cap xs := by
  obtain ⟨h1, h2⟩ := h
  refine ⟨h1, ?_⟩
  rcases h2 with h2 | ⟨g, cp, cur, hv, hg, hh, r⟩
  · exact .inl h2
  · refine .inr ⟨g, cp, cur, hv, hg, ?_, r⟩
    simp only [Value.slice.injEq] at hv
    rw [hb _ hv.1]; exact hh
theorem Own8.keep {w w' : World} {base : Nat} {ao : Option Addr} {n cap : Nat} {bs : List Nat} (h : Own8 w base ao n cap bs) (hb : ∀ a, ao = some a → w'.heap[a.block]? = w.heap[a.block]?) : Own8 w' base ao n cap bs := ⟨OwnS.keep h.own hb, h.len, h.byte⟩
theorem Own8.mono {w : World} {base base' : Nat} {ao : Option Addr} {n cap : Nat} {bs : List Nat} (h : Own8 w base ao n cap bs) (hb : base' ≤ base) : Own8 w base' ao n cap bs := ⟨h.own.mono hb, h.len, h.byte⟩
theorem Own8.ge {w : World} {base : Nat} {ao : Option Addr} {n cap : Nat} {bs : List Nat} (h : Own8 w base ao n cap bs) : ∀ a, ao = some a → base ≤ a.block := fun a ha => (h.inn a ha).1
theorem Own8.lt {w : World} {base : Nat} {ao : Option Addr} {n cap : Nat} {bs : List Nat} (h : Own8 w base ao n cap bs) : ∀ a, ao = some a → a.block < w.heap.size := fun a ha => (h.inn a ha).2

/-- The first ones of a slice of the call's own. -/
theorem OwnS.take {w : World} {base : Nat} {e : TypeId} {ao : Option Addr} {cap : Nat} {xs : List Value} (h : OwnS w base e ao cap xs) (k : Nat) (hk : k ≤ xs.length) : OwnS w base e ao cap (xs.take k) := by
  obtain ⟨h1, h2⟩ := h
  have hl : (xs.take k).length = k := by simp; omega
  unfold OwnS World.ownsRow
  rw [hl]
  refine ⟨by omega, ?_⟩
  rcases h2 with ⟨hv, hn⟩ | ⟨g, cp, cur, hv, hg, hh, hle, hmx, hsz, htk⟩
  · simp only [Value.slice.injEq] at hv
    have : k = 0 := by omega
    exact .inl ⟨by rw [hv.1, hv.2.2, this], this⟩
  · simp only [Value.slice.injEq] at hv
    refine .inr ⟨g, cp, cur, by rw [hv.1, hv.2.2], hg, hh, by omega, hmx, hsz, ?_⟩
    rw [← htk, List.take_take, Nat.mul_one, Nat.mul_one, Nat.min_eq_left hk]
theorem Own8.take {w : World} {base : Nat} {ao : Option Addr} {n cap : Nat} {bs : List Nat} (h : Own8 w base ao n cap bs) (k : Nat) (hk : k ≤ n) : Own8 w base ao k cap (bs.take k) := by
  have hl := h.len
  refine ⟨?_, by simp; omega, fun b hb => h.byte b (List.mem_of_mem_take hb)⟩
  have := OwnS.take h.own k (by simp [ci]; omega)
  rw [← List.map_take, ci_take] at this
  exact this

end Go.Proofs.YtmmgdmfdiaoegaaGreat
