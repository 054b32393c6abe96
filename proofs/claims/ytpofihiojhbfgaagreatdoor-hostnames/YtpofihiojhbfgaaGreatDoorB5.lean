/- A link in memory: where its parts lie, and what of it stays. No walk. What bytes.Clone and the short functions of package link do, walked. What slices.Delete does with the first ones of a list of bodies; forget, walked. What Push of package link does, walked. Packets as values, in blocks and in rows; what an append of packets leaves. No walk. What packet and Packets of package link do, walked. -/
import Derived.Test.YtpofihiojhbfgaaGreatDoorA5
import Derived.Handy
import Derived.BigQuiet
import Derived.Lib.SliceRun
import Derived.Laws.OwnMore
import Derived.Deep.RegionHeldLaw
import Derived.Deep.RegionLaw
import Derived.Deep.DeepCutAuto
import Derived.Deep.CutBlock
import Derived.Maps.AppendAt
namespace Go.Proofs.YtpofihiojhbfgaaGreatDoor.Lnk
open Go.RowKit
set_option linter.unusedVariables false
set_option maxRecDepth 8000

def Ty (w : World) (e : TypeId) (ao : Option Addr) : Prop := ∀ a, ao = some a → ∃ cs fr, w.heap[a.block]? = some (.cells cs e fr)

theorem Ty.none (w : World) (e : TypeId) : Ty w e Option.none := fun a h => by cases h

structure KT (w w' : World) : Prop where
  size : w.heap.size ≤ w'.heap.size
  block : ∀ (k : Nat) (cs : Array Value) (e : TypeId) (fr : Nat × Nat), w.heap[k]? = some (.cells cs e fr) → e ≠ 155 → e ≠ 31 → w'.heap[k]? = w.heap[k]?

theorem KT.trans {a b c : World} (h : KT a b) (k : KT b c) : KT a c :=
  ⟨Nat.le_trans h.size k.size, fun i cs e fr hi h1 h2 => (k.block i cs e fr ((h.block i cs e fr hi h1 h2).trans hi) h1 h2).trans (h.block i cs e fr hi h1 h2)⟩
theorem KT.of_below {a b : World} (h : Below a.heap.size a b) : KT a b := ⟨h.size, fun i cs e fr hi _ _ => h.block i (Array.getElem?_eq_some_iff.1 hi).1⟩
theorem KT.of_off2 {g : Nat} {ao : Option Addr} {w w' : World} (h : Off2 g ao w w') (hg : ∃ cs fr, w.heap[g]? = some (.cells cs 155 fr)) (ha : Ty w 31 ao) : KT w w' := by
  refine ⟨h.size, fun i cs e fr hi h1 h2 => h.block i (Array.getElem?_eq_some_iff.1 hi).1 ?_ ?_⟩
  · intro e1
    obtain ⟨cs', fr', hg⟩ := hg
    rw [← e1, hi] at hg
    simp only [Option.some.injEq, Obj.cells.injEq] at hg
    exact h1 hg.2.1
  · intro a ha1 e1
    obtain ⟨cs', fr', hg⟩ := ha a ha1
    rw [e1, hi] at hg
    simp only [Option.some.injEq, Obj.cells.injEq] at hg
    exact h2 hg.2.1
theorem KT.setCell {w : World} {g j : Nat} (u : Value) (hg : ∃ cs fr, w.heap[g]? = some (.cells cs 155 fr)) : KT w (w.setCell ⟨g, j, none⟩ u) :=
  KT.of_off2 ((Off2.refl g none w).setCell (p := ⟨g, j, none⟩) rfl u) hg (Ty.none _ _)

def By (w : World) (V : Nat → Prop) (v : Value) (bs : List Nat) : Prop := ∃ ao n cap, v = .slice ao n cap ∧ Rd8 w ao n cap bs ∧ Ty w 5 ao ∧ In w V ao

theorem By.nil (w : World) (V : Nat → Prop) : By w V (.slice none 0 0) [] := ⟨none, 0, 0, rfl, Rd8.empty w, Ty.none _ _, In.none _ _⟩

theorem By.kt {w w' : World} {V : Nat → Prop} {v : Value} {bs : List Nat} (h : By w V v bs) (hk : KT w w') : By w' V v bs := by
  obtain ⟨ao, n, cap, rfl, hr, ht, hi⟩ := h
  refine ⟨ao, n, cap, rfl, hr.kept (V := fun k => ∃ cs fr, w.heap[k]? = some (.cells cs 5 fr)) ?_ ⟨hk.size, ?_⟩, ?_, hi.mono hk.size fun _ _ h => h⟩
  · exact fun a ha => ⟨ht a ha, (hi a ha).2⟩
  · rintro k _ ⟨cs, fr, hb⟩
    exact hk.block k cs 5 fr hb (by decide) (by decide)
  · intro a ha
    obtain ⟨cs, fr, hb⟩ := ht a ha
    exact ⟨cs, fr, (hk.block _ cs 5 fr hb (by decide) (by decide)).trans hb⟩

theorem By.below {w w' : World} {V : Nat → Prop} {v : Value} {bs : List Nat} (h : By w V v bs) (hk : Below w.heap.size w w') : By w' V v bs := h.kt (KT.of_below hk)

theorem By.mono {w : World} {V U : Nat → Prop} {v : Value} {bs : List Nat} (h : By w V v bs) (hv : ∀ k, k < w.heap.size → V k → U k) : By w U v bs := by
  obtain ⟨ao, n, cap, rfl, hr, ht, hi⟩ := h
  exact ⟨ao, n, cap, rfl, hr, ht, hi.mono (Nat.le_refl _) hv⟩

theorem Ty.own {w : World} {base : Nat} {e : TypeId} {ao : Option Addr} {cap : Nat} {xs : List Value} (h : OwnS w base e ao cap xs) : Ty w e ao := by
  intro a ha
  obtain ⟨_, h2⟩ := h
  rcases h2 with ⟨hv, _⟩ | ⟨g, cp, cur, hv, hg, hh, _⟩
  · simp only [Value.slice.injEq] at hv; rw [hv.1] at ha; cases ha
  · simp only [Value.slice.injEq] at hv
    rw [hv.1] at ha
    cases ha
    exact ⟨_, _, hh⟩

theorem By.own {w : World} {base : Nat} {ao : Option Addr} {n cap : Nat} {bs : List Nat} (h : Own8 w base ao n cap bs) : By w (fun k => base ≤ k) (.slice ao n cap) bs :=
  ⟨ao, n, cap, rfl, h.rd, Ty.own h.own, h.inn⟩

theorem By.one {w : World} {V : Nat → Prop} {v : Value} {bs : List Nat} (h : By w V v bs) : v.oneCell' = true := by
  obtain ⟨ao, n, cap, rfl, -⟩ := h
  rfl

structure Bys (w : World) (V : Nat → Prop) (vs : List Value) (L : List (List Nat)) : Prop where
  len : vs.length = L.length
  each : ∀ (i : Nat) (v : Value) (bs : List Nat), vs[i]? = some v → L[i]? = some bs → By w V v bs

theorem Bys.kt {w w' : World} {V : Nat → Prop} {vs : List Value} {L : List (List Nat)} (h : Bys w V vs L) (hk : KT w w') : Bys w' V vs L := ⟨h.len, fun i v bs h1 h2 => (h.each i v bs h1 h2).kt hk⟩
theorem Bys.mono {w : World} {V U : Nat → Prop} {vs : List Value} {L : List (List Nat)} (h : Bys w V vs L) (hv : ∀ k, k < w.heap.size → V k → U k) : Bys w U vs L := ⟨h.len, fun i v bs h1 h2 => (h.each i v bs h1 h2).mono hv⟩
theorem Bys.nil (w : World) (V : Nat → Prop) : Bys w V [] [] := ⟨rfl, fun i v bs h _ => by simp at h⟩
theorem Bys.drop {w : World} {V : Nat → Prop} {vs : List Value} {L : List (List Nat)} (h : Bys w V vs L) (j : Nat) : Bys w V (vs.drop j) (L.drop j) :=
  ⟨by simp [h.len], fun i v bs h1 h2 => h.each (j + i) v bs (by simpa using h1) (by simpa using h2)⟩
theorem Bys.snoc {w : World} {V : Nat → Prop} {vs : List Value} {L : List (List Nat)} (h : Bys w V vs L) {v : Value} {bs : List Nat} (hb : By w V v bs) : Bys w V (vs ++ [v]) (L ++ [bs]) := by
  refine ⟨by simp [h.len], fun i u cs h1 h2 => ?_⟩
  have hl := h.len
  rcases Nat.lt_or_ge i vs.length with hi | hi
  · rw [List.getElem?_append_left hi] at h1
    rw [List.getElem?_append_left (by omega)] at h2
    exact h.each i u cs h1 h2
  · rw [List.getElem?_append_right hi] at h1
    rw [List.getElem?_append_right (by omega)] at h2
    have h3 : i - vs.length = i - L.length := by omega
    rw [h3] at h1
    generalize i - L.length = d at *
    cases d with
    | zero => simp at h1 h2; subst h1 h2; exact hb
    | succ d => simp at h1
theorem Bys.one {w : World} {V : Nat → Prop} {vs : List Value} {L : List (List Nat)} (h : Bys w V vs L) : ∀ u ∈ vs, u.oneCell' = true := by
  intro u hu
  obtain ⟨i, hi, rfl⟩ := List.getElem_of_mem hu
  have hl := h.len
  exact (h.each i vs[i] (L[i]'(by omega)) (by simp) (by simp)).one

structure LkI where
  cl : Int
  ep : Int
  bo : Int
  sv : Bool

structure Lh (w : World) (g : Nat) (I : LkI) (v : Value) (s h : Nat) : Prop where
  c0 : w.cell? ⟨g, 0, none⟩ = some (.int .i64 I.cl)
  c1 : w.cell? ⟨g, 1, none⟩ = some (.int .i64 I.ep)
  c2 : w.cell? ⟨g, 2, none⟩ = some (.int .i64 I.bo)
  c3 : w.cell? ⟨g, 3, none⟩ = some (.bool I.sv)
  c4 : w.cell? ⟨g, 4, none⟩ = some v
  c5 : w.cell? ⟨g, 5, none⟩ = some (.int .i64 (s : Int))
  c6 : w.cell? ⟨g, 6, none⟩ = some (.int .i64 (h : Int))
  fz : ∀ j, w.frozen? ⟨g, j, none⟩ = false
  ty : ∃ cs, w.heap[g]? = some (.cells cs 155 (0, 0))

section
variable {w w' : World} {g : Nat} {I : LkI} {v : Value} {s h : Nat}
theorem Lh.lt (H : Lh w g I v s h) : g < w.heap.size := by
  obtain ⟨cs, hb⟩ := H.ty
  exact (Array.getElem?_eq_some_iff.1 hb).1
theorem Lh.tyx (H : Lh w g I v s h) : ∃ cs fr, w.heap[g]? = some (.cells cs 155 fr) := by
  obtain ⟨cs, hb⟩ := H.ty
  exact ⟨cs, _, hb⟩
theorem Lh.keep (H : Lh w g I v s h) (hg : w'.heap[g]? = w.heap[g]?) : Lh w' g I v s h := by
  have c := fun j => World.cell?_of_block (w := w) (w' := w') (a := ⟨g, j, none⟩) hg
  exact ⟨(c 0).trans H.c0, (c 1).trans H.c1, (c 2).trans H.c2, (c 3).trans H.c3, (c 4).trans H.c4, (c 5).trans H.c5, (c 6).trans H.c6, fun j => (World.frozen?_of_block (w := w) hg).trans (H.fz j), by rw [hg]; exact H.ty⟩
theorem Lh.tyPut (H : Lh w g I v s h) (j : Nat) (u : Value) : ∃ cs, (w.setCell ⟨g, j, none⟩ u).heap[g]? = some (.cells cs 155 (0, 0)) := by
  obtain ⟨cs, hb⟩ := H.ty
  exact ⟨_, heap_setCell_same w g j cs 155 u hb⟩
theorem Lh.put4 (H : Lh w g I v s h) (u : Value) : Lh (w.setCell ⟨g, 4, none⟩ u) g I u s h :=
  ⟨by rw [put_other _ _ _ _ _ (by omega)]; exact H.c0, by rw [put_other _ _ _ _ _ (by omega)]; exact H.c1, by rw [put_other _ _ _ _ _ (by omega)]; exact H.c2, by rw [put_other _ _ _ _ _ (by omega)]; exact H.c3, World.cell?_setCell_same _ _ _ H.c4, by rw [put_other _ _ _ _ _ (by omega)]; exact H.c5, by rw [put_other _ _ _ _ _ (by omega)]; exact H.c6, fun j => by rw [World.frozen?_setCell]; exact H.fz j, H.tyPut _ _⟩
theorem Lh.put5 (H : Lh w g I v s h) (k : Nat) : Lh (w.setCell ⟨g, 5, none⟩ (.int .i64 (k : Int))) g I v k h :=
  ⟨by rw [put_other _ _ _ _ _ (by omega)]; exact H.c0, by rw [put_other _ _ _ _ _ (by omega)]; exact H.c1, by rw [put_other _ _ _ _ _ (by omega)]; exact H.c2, by rw [put_other _ _ _ _ _ (by omega)]; exact H.c3, by rw [put_other _ _ _ _ _ (by omega)]; exact H.c4, World.cell?_setCell_same _ _ _ H.c5, by rw [put_other _ _ _ _ _ (by omega)]; exact H.c6, fun j => by rw [World.frozen?_setCell]; exact H.fz j, H.tyPut _ _⟩
theorem Lh.put6 (H : Lh w g I v s h) (k : Nat) : Lh (w.setCell ⟨g, 6, none⟩ (.int .i64 (k : Int))) g I v s k :=
  ⟨by rw [put_other _ _ _ _ _ (by omega)]; exact H.c0, by rw [put_other _ _ _ _ _ (by omega)]; exact H.c1, by rw [put_other _ _ _ _ _ (by omega)]; exact H.c2, by rw [put_other _ _ _ _ _ (by omega)]; exact H.c3, by rw [put_other _ _ _ _ _ (by omega)]; exact H.c4, by rw [put_other _ _ _ _ _ (by omega)]; exact H.c5, World.cell?_setCell_same _ _ _ H.c6, fun j => by rw [World.frozen?_setCell]; exact H.fz j, H.tyPut _ _⟩
end

structure Lk (w : World) (B g : Nat) (ao : Option Addr) (n cap : Nat) (V : Nat → Prop) (I : LkI) (L : List (List Nat)) (s h : Nat) : Prop where
  hd : Lh w g I (.slice ao n cap) s h
  row : ∃ vs, OwnS w B 31 ao cap vs ∧ Bys w V vs L
  len : L.length = n
  bg : B ≤ g
  le : n ≤ 8
  sl : n ≤ s
  sm : s ≤ 16777215
  hm : h ≤ 16777215
  sz : ∀ bs ∈ L, bs.length ≤ 700

section
variable {w w' : World} {B g : Nat} {ao : Option Addr} {n cap : Nat} {V : Nat → Prop} {I : LkI} {L : List (List Nat)} {s h : Nat}
theorem Lk.ty (H : Lk w B g ao n cap V I L s h) : Ty w 31 ao := by
  obtain ⟨vs, ho, -⟩ := H.row
  exact Ty.own ho
theorem Lk.ge (H : Lk w B g ao n cap V I L s h) : ∀ a, ao = some a → B ≤ a.block ∧ a.block < w.heap.size := by
  obtain ⟨vs, ho, -⟩ := H.row
  exact ho.inn
theorem Lk.ne (H : Lk w B g ao n cap V I L s h) : ∀ a, ao = some a → a.block ≠ g := by
  intro a ha e
  obtain ⟨cs, fr, hb⟩ := H.ty a ha
  obtain ⟨cs', hb'⟩ := H.hd.ty
  rw [e, hb'] at hb
  simp at hb
theorem Lk.ktOff (H : Lk w B g ao n cap V I L s h) (hO : Off2 g ao w w') : KT w w' := KT.of_off2 hO H.hd.tyx H.ty
theorem Lk.keep (H : Lk w B g ao n cap V I L s h) (hk : KT w w') (hg : w'.heap[g]? = w.heap[g]?) (ha : ∀ a, ao = some a → w'.heap[a.block]? = w.heap[a.block]?) : Lk w' B g ao n cap V I L s h := by
  obtain ⟨vs, ho, hb⟩ := H.row
  exact ⟨H.hd.keep hg, ⟨vs, ho.keep ha, hb.kt hk⟩, H.len, H.bg, H.le, H.sl, H.sm, H.hm, H.sz⟩
theorem Lk.below (H : Lk w B g ao n cap V I L s h) (hb : Below w.heap.size w w') : Lk w' B g ao n cap V I L s h :=
  H.keep (KT.of_below hb) (hb.block g H.hd.lt) fun a ha => hb.block _ (H.ge a ha).2
theorem Lk.mono (H : Lk w B g ao n cap V I L s h) {B' : Nat} {U : Nat → Prop} (hB : B' ≤ B) (hv : ∀ k, k < w.heap.size → V k → U k) : Lk w B' g ao n cap U I L s h := by
  obtain ⟨vs, ho, hb⟩ := H.row
  exact ⟨H.hd, ⟨vs, ho.mono hB, hb.mono hv⟩, H.len, Nat.le_trans hB H.bg, H.le, H.sl, H.sm, H.hm, H.sz⟩
end

def Led (w w' : World) (B g : Nat) (ao : Option Addr) (n : Nat) (V : Nat → Prop) (I : LkI) (L : List (List Nat)) (s h : Nat) : Prop := ∃ ao2 cap2, Lk w' B g ao2 n cap2 V I L s h ∧ Off2 g ao w w' ∧ Nw w ao ao2

theorem Lk.new (w : World) (B : Nat) (V : Nat → Prop) (I : LkI) (hB : B ≤ w.heap.size) : Lk (w.alloc (.cells #[.int .i64 I.cl, .int .i64 I.ep, .int .i64 I.bo, .bool I.sv, .slice none 0 0, .int .i64 0, .int .i64 0] 155)) B w.heap.size none 0 0 V I [] 0 0 := by
  have h := heap_alloc_new w (.cells #[.int .i64 I.cl, .int .i64 I.ep, .int .i64 I.bo, .bool I.sv, .slice none 0 0, .int .i64 0, .int .i64 0] 155)
  refine ⟨⟨?_, ?_, ?_, ?_, ?_, ?_, ?_, fun j => frozen_of_row _ _ _ _ _ h, _, h⟩, ⟨[], OwnS.nil _ _ _, Bys.nil _ _⟩, rfl, hB, by omega, by omega, by omega, by omega, by simp⟩
  all_goals rw [cell_of_row _ _ _ _ _ _ h]; rfl

end Go.Proofs.YtpofihiojhbfgaaGreatDoor.Lnk

namespace Go.Proofs.YtpofihiojhbfgaaGreatDoor.Lnk
open Go.RowKit
set_option linter.unusedVariables false
set_option maxRecDepth 8000

abbrev lp (g : Nat) : Value := .pointer (some ⟨g, 0, none⟩)

theorem ret_bool {a b : Bool} (h : a = b) : Ending.returned (.bool a) = .returned (.bool b) := by rw [h]

theorem nil_of_none {w : World} {n cap : Nat} {bs : List Nat} (h : Rd8 w none n cap bs) : n = 0 ∧ cap = 0 ∧ bs = [] := by
  have h1 := RdS.nil h.rd rfl
  have h2 := h.rd.le
  have h3 := h.len
  rw [ci_length] at h2
  exact ⟨by omega, h1, List.eq_nil_of_length_eq_zero (by omega)⟩

set_option maxHeartbeats 400000 in
theorem clone_any (ao : Option Addr) (n cap : Nat) (bs : List Nat) (w : World) (h : Rd8 w ao n cap bs) (hn : n ≤ 140737488355328) :
    Calls Tryz.prog 73 #[.slice ao n cap] w fun e w' => ∃ ao' cap', e = .returned (.slice ao' n cap') ∧ By w' (fun k => w.heap.size ≤ k) (.slice ao' n cap') bs ∧ Below w.heap.size w w' := by
  have hl := h.len
  cases ao with
  | none =>
    obtain ⟨rfl, rfl, rfl⟩ := nil_of_none h
    have hq : ∀ W : World, (binOp .eql 31 (.slice none 0 0) (.slice none 0 0)).run Tryz.prog W = .ok (.bool true) W := fun W => Go.Lib.run_eql_slice_nil (P := Tryz.prog) W 31 5 none 0 0 0 0 Tryz.underlying31
    go_enter Tryz.func73, Tryz.ntmps73
    go_wp2
    go_ret
    exact ⟨none, 0, rfl, By.nil _ _, Below.refl _ _⟩
  | some a =>
    have hq : ∀ W : World, (binOp .eql 31 (.slice (some a) n cap) (.slice none 0 0)).run Tryz.prog W = .ok (.bool false) W := fun W => Go.Lib.run_eql_slice_nil (P := Tryz.prog) W 31 5 (some a) n cap 0 0 Tryz.underlying31
    go_enter Tryz.func73, Tryz.ntmps73
    go_wp2_with (at_builtin; refine wpList_append_rdI _ rfl _ _ 31 rfl w.heap.size 5 .u8 (.int .u8 0) 1 Tryz.underlying31 info5 rfl rfl rfl (OwnI.fresh w w.heap.size 5 .u8 (Nat.le_refl _)) (h.alloc _).rd rfl (by rw [ci_length]; exact hl) (by omega) (by unfold maxLen; omega) (by simp) ?_; intro ao2 cap2 w1 ho1 hb1)
    go_ret
    refine ⟨ao2, cap2, by simp, ?_, below_alloc hb1⟩
    exact By.own ⟨by simpa using ho1, hl, h.byte⟩

theorem new_any (cl ep bo : Int) (sv : Bool) (w : World) :
    Calls Tryz.prog 46 #[.int .i64 cl, .int .i64 ep, .int .i64 bo, .bool sv] w fun e w' => e = .returned (lp w.heap.size) ∧ (∀ B V, B ≤ w.heap.size → Lk w' B w.heap.size none 0 0 V ⟨cl, ep, bo, sv⟩ [] 0 0) ∧ Below w.heap.size w w' := by
  go_enter Tryz.func46, Tryz.ntmps46
  go_wp2
  go_ret
  exact ⟨rfl, fun B V hB => Lk.new w B V ⟨cl, ep, bo, sv⟩ hB, by go_grown⟩

section
variable (w : World) (B g : Nat) (ao : Option Addr) (n cap : Nat) (V : Nat → Prop) (I : LkI) (L : List (List Nat)) (s h : Nat)

theorem known_any (H : Lk w B g ao n cap V I L s h) : Calls Tryz.prog 75 #[lp g] w fun e w' => e = .returned (.int .i64 ((s : Int) - (n : Int))) ∧ ∃ j, w' = w.drewN j := by
  have h4 := H.hd.c4
  have h5 := H.hd.c5
  have h1 := H.sl
  have h2 := H.sm
  have hw1 : IntKind.i64.wrap ((s : Int) - (n : Int)) = (s : Int) - (n : Int) := by rw [IntKind.wrap_i64]; omega
  go_enter Tryz.func75, Tryz.ntmps75
  go_wp2
  go_quiet (fail)
  go_wp2
  go_ret
  exact ⟨rfl, _, rfl⟩
end

end Go.Proofs.YtpofihiojhbfgaaGreatDoor.Lnk

namespace Go.Proofs.YtpofihiojhbfgaaGreatDoor.Lnk
open Go.RowKit
set_option linter.unusedVariables false
set_option maxRecDepth 8000

theorem info27 : (Tryz.prog.info? 31).map (fun i => (i.zero, i.size, i.bytes)) = some (some (.slice none 0 0), 1, 24) := by kernel_rfl

theorem _root_.Go.Proofs.YtpofihiojhbfgaaGreatDoor.OwnS.place {w : World} {base : Nat} {e : TypeId} {ao : Option Addr} {cap : Nat} {xs : List Value} (h : OwnS w base e ao cap xs) (hx : 0 < xs.length) : ∃ g, ao = some ⟨g, 0, none⟩ := by
  obtain ⟨_, h2⟩ := h
  rcases h2 with ⟨hv, hn⟩ | ⟨g, cp, cur, hv, _⟩
  · omega
  · simp only [Value.slice.injEq] at hv
    exact ⟨g, hv.1⟩

theorem step_append_fits {P : Program} (w : World) {ops : Array Oper} {o : Oper} {a : Act} {K : Act → World → Prop} {Q : Exit → Act → World → Prop} {E : Prop} (hgd : o.guard = none) (s x : Operand) (t : TypeId)
    (ho : o.op = .call { callee := .builtin .append, args := #[s, x], argTypes := #[t, t] })
    (base : Nat) (e : TypeId) (z : Value) (bytes : Nat) (ht : P.underlying t = some (.slice e))
    (hinfo : (P.info? e).map (fun i => (i.zero, i.size, i.bytes)) = some (some z, 1, bytes))
    {r cap : Nat} {xs : List Value} {ao' : Option Addr} {cap' m : Nat} {ys : List Value}
    (hs : a.eval s = .slice (some ⟨r, 0, none⟩) 0 cap) (hx : a.eval x = .slice ao' m cap') (hown : OwnS w base e (some ⟨r, 0, none⟩) cap xs) (hrd : RdS w ao' cap' ys) (hm : ys.length = m) (hle : ys.length ≤ xs.length)
    (h1 : ∀ u ∈ ys, u.oneCell' = true) (hsome : ao'.isSome = true)
    (h : ∀ w', OwnS w' base e (some ⟨r, 0, none⟩) cap ys → w.grownBy w' (some r) → K (a.put o.dst (.slice (some ⟨r, 0, none⟩) m cap)) w') :
    if Region.wanted o (yielded ops a.tmps) = true then Oper.wp P o a w K Q else E := by
  have hw : Region.wanted o (yielded ops a.tmps) = true := by simp [Region.wanted, hgd]
  rw [if_pos hw]
  subst hm
  obtain ⟨i0, hi, hz0, hz1, hz2⟩ := info_parts hinfo
  obtain ⟨ad, rfl⟩ : ∃ ad, ao' = some ad := by cases ao' with
    | none => cases hsome
    | some ad => exact ⟨ad, rfl⟩
  have hcap := hown.rd.le
  have hown0 := OwnS.take hown 0 (Nat.zero_le _)
  simp only [List.take_zero] at hown0
  obtain ⟨w', hr, h2, h3⟩ := run_append_fits (P := P) w base t o.type e i0 1 ht hi hz1 r 0 cap [] hown0 ad ys.length cap' ys (by simp) (by
    intro j u h
    obtain ⟨hj, rfl⟩ := List.getElem?_eq_some_iff.1 h
    obtain ⟨b, off, e, _, hc⟩ := hrd.at hj
    cases e
    rw [Addr.add_lit]
    exact hc j hj) h1 (by omega)
  simp only [Nat.zero_add, List.nil_append] at hr h2
  unfold Oper.wp execOp
  simp only [ho, resolve, invoke, builtin, Sem.run_bind, Sem.run_pure, Result.andThen_ok, List.map_toArray, List.map_cons, List.map_nil, hs, hx, hr]
  exact h w' h2 h3

theorem setCells_own {base : Nat} {e : TypeId} {r cap : Nat} {xs : List Value} : ∀ (us : List Value) (o : Nat) (w : World), OwnS w base e (some ⟨r, 0, none⟩) cap xs → xs.length ≤ o → OwnS (w.setCells r o us) base e (some ⟨r, 0, none⟩) cap xs ∧ w.grownBy (w.setCells r o us) (some r)
  | [], _, w, h, _ => ⟨h, ⟨rfl, rfl, rfl, Nat.le_refl _, fun _ _ _ => rfl⟩⟩
  | u :: us, o, w, h, ho => by
    have h1 := World.ownsRow.stored h o u
    rw [List.set_eq_of_length_le ho] at h1
    obtain ⟨k1, k2⟩ := setCells_own us (o + 1) (w.setCell ⟨r, o, none⟩ u) h1.1 (by omega)
    refine ⟨k1, ⟨k2.os.trans h1.2.os, k2.tape.trans h1.2.tape, k2.output.trans h1.2.output, Nat.le_trans h1.2.size k2.size, fun k hk hne => (k2.block k (Nat.lt_of_lt_of_le hk h1.2.size) hne).trans (h1.2.block k hk hne)⟩⟩

theorem wpList_clear (w : World) {ops : Array Oper} {rest : List Oper} {o : Oper} {a : Act} {Q : Exit → Act → World → Prop} (hgd : o.guard = none) (x : Operand)
    (ho : o.op = .call { callee := .builtin .clear, args := #[x], argTypes := #[64] }) (base : Nat) {r k m c cap : Nat} {xs : List Value}
    (hx : a.eval x = .slice (some ⟨r, k, none⟩) m c) (hm : 0 < m) (hown : OwnS w base 31 (some ⟨r, 0, none⟩) cap xs) (hk : xs.length ≤ k) (hkm : k + m ≤ cap)
    (h : ∀ w', OwnS w' base 31 (some ⟨r, 0, none⟩) cap xs → w.grownBy w' (some r) → wpList Tryz.prog ops Q rest (a.put o.dst (.tuple #[])) w') : wpList Tryz.prog ops Q (o :: rest) a w := by
  refine wpList_plain hgd fun _ hK => ?_
  have hz : ∀ W : World, (zeroValue 31).run Tryz.prog W = .ok (.slice none 0 0) W := by
    intro W
    obtain ⟨i0, hi, hz0, _⟩ := info_parts info27
    simp [zeroValue, typeInfo, hi, hz0]
  have hr := Go.Lib.run_clear_slice (P := Tryz.prog) w 64 31 o.type (.slice none 0 0) Tryz.underlying64 hz rfl rfl r k m c hm (by
    intro j hj
    have hown' := hown
    obtain ⟨_, h2⟩ := hown'
    rcases h2 with ⟨hv, _⟩ | ⟨g, cp, cur, hv, hg, hh, _, _, hsz, _⟩
    · simp at hv
    · simp only [Value.slice.injEq, Option.some.injEq, Addr.mk.injEq, true_and, and_true] at hv
      obtain ⟨rfl, rfl⟩ := hv
      rw [cell_of_row _ _ _ _ _ _ hh]
      simp
      omega) (fun j _ => World.ownsRow.frozenAt hown _)
  unfold Oper.wp execOp
  simp only [ho, resolve, invoke, builtin, Sem.run_bind, Sem.run_pure, Result.andThen_ok, List.map_toArray, List.map_cons, List.map_nil, hx, hr]
  obtain ⟨k1, k2⟩ := setCells_own (List.replicate m (Value.slice none 0 0)) k w hown hk
  exact hK _ _ (h _ k1 k2)

set_option maxHeartbeats 800000 in
theorem delete_any (g B : Nat) (ao : Option Addr) (n cap : Nat) (vs : List Value) (w : World) (ho : OwnS w B 31 ao cap vs) (hl : vs.length = n) (h1 : ∀ u ∈ vs, u.oneCell' = true) (hn : n ≤ 8) (j : Nat) (hj : j ≤ n) (hB : B ≤ w.heap.size) :
    Calls Tryz.prog 43 #[.slice ao n cap, .int .i64 0, .int .i64 (j : Int)] w fun e w' => e = .returned (.slice ao (n - j) cap) ∧ OwnS w' B 31 ao cap (vs.drop j) ∧ Off2 g ao w w' := by
  have hcap := ho.rd.le
  rw [hl] at hcap
  have hmx := ho.rd.mx
  unfold maxLen at hmx
  by_cases h0 : j = 0
  · subst h0
    go_enter Tryz.func43, Tryz.ntmps43
    go_wp2
    go_ret
    exact ⟨rfl, by simpa using ho, Off2.refl _ _ _⟩
  · obtain ⟨r, rfl⟩ := ho.place (by omega)
    have hcut : RdS w (if cap = j then some ⟨r, 0, none⟩ else some ⟨r, j, none⟩) (cap - j) (vs.drop j) := by
      have := ho.rd.cut j n hj (by omega)
      rw [List.take_of_length_le (by simp; omega)] at this
      simpa [Addr.add_lit] using this
    have HR : Hid (RdS w.drew (if cap = j then some ⟨r, 0, none⟩ else some ⟨r, j, none⟩) (cap - j) (vs.drop j)) := hcut.drew
    have hcj : ¬ (cap = n - j) := by omega
    clear hcut
    go_enter Tryz.func43, Tryz.ntmps43
    go_upto_region 5 with fail
    go_region_law (refine step_append_fits _ (by rfl) _ _ 64 (by rfl) B 31 (.slice none 0 0) 24 Tryz.underlying64 info27 (r := r) (cap := cap) (xs := vs) (ys := vs.drop j) (by rfl) (by rfl) ho HR.out (by simp; omega) (by simp) (fun u hu => h1 u (List.mem_of_mem_drop hu)) (by first | rfl | (split <;> rfl)) ?_; intro w1 ho1 hg1)
    go_wp2_with (refine wpList_clear _ rfl _ rfl B rfl (by omega) ho1 (by simp; omega) (by omega) ?_; intro w2 ho2 hg2)
    all_goals go_ret
    all_goals
      refine ⟨by first | rfl | rw [← h], by first | exact ho2 | (rw [h] at ho2; exact ho2), ?_⟩
      have hO1 : Off2 g (some ⟨r, 0, none⟩) w w1 := ⟨hg1.os, hg1.tape, hg1.output, hg1.size, fun k hk _ ha => hg1.block k hk (fun e => ha ⟨r, 0, none⟩ rfl (by simpa using e.symm))⟩
      have hO2 : Off2 g (some ⟨r, 0, none⟩) w1 w2 := ⟨hg2.os, hg2.tape, hg2.output, hg2.size, fun k hk _ ha => hg2.block k hk (fun e => ha ⟨r, 0, none⟩ rfl (by simpa using e.symm))⟩
      exact hO1.trans hO2 (Nw.refl _ _)

def came (n s : Nat) (ak : Int) : Nat := (max ak ((s : Int) - (n : Int)) - ((s : Int) - (n : Int))).toNat

set_option maxHeartbeats 800000 in
theorem forget_any (w : World) (B g : Nat) (ao : Option Addr) (n cap : Nat) (V : Nat → Prop) (I : LkI) (L : List (List Nat)) (s h : Nat) (H : Lk w B g ao n cap V I L s h) (ak : Int) (ha : ak ≤ (s : Int)) (c : Nat) (hc : came n s ak = c) :
    Calls Tryz.prog 81 #[lp g, .int .i64 ak] w fun e w' => e = .returned (.tuple #[]) ∧ Lk w' B g ao (n - c) cap V I (L.drop c) s h ∧ Off2 g ao w w' := by
  have h4 := H.hd.c4
  have h1 := H.sl
  have h2 := H.sm
  have hle := H.le
  obtain ⟨vs, ho, hbs⟩ := H.row
  have hlen := H.len
  have hvl : vs.length = n := hbs.len.trans hlen
  have hcn : c ≤ n := by unfold came at hc; omega
  have hg := H.hd.lt
  have hbg := H.bg
  have HD : Hid (∀ (i : Nat) (X : Int), X = (c : Int) → Calls Tryz.prog 43 #[.slice ao n cap, .int .i64 0, .int .i64 X] (w.drewN i) fun e w' => e = .returned (.slice ao (n - c) cap) ∧ Lh w' g I (.slice ao n cap) s h ∧ Lk (w'.setCell ⟨g, 4, none⟩ (.slice ao (n - c) cap)) B g ao (n - c) cap V I (L.drop c) s h ∧ Off2 g ao w (w'.setCell ⟨g, 4, none⟩ (.slice ao (n - c) cap))) := by
    intro i X hX
    subst hX
    refine (delete_any w.heap.size B ao n cap vs (w.drewN i) (ho.keep fun a _ => rfl) hvl hbs.one hle c hcn (by simp; omega)).mono ?_
    rintro e w' ⟨rfl, ho', hO'⟩
    have hW2 : Off2 g ao w w' := ⟨hO'.os, hO'.tape, hO'.output, hO'.size, fun k hk _ ha => hO'.block k hk (by omega) ha⟩
    have hL : Lh w' g I (.slice ao n cap) s h := H.hd.keep (hO'.block g hg (by omega) H.ne)
    refine ⟨rfl, hL, ⟨hL.put4 _, ⟨vs.drop c, ho'.keep fun a ha => Below.heap_setCell _ _ _ _ (H.ne a ha), ?_⟩, by simp; omega, hbg, by omega, by omega, h2, H.hm, fun bs hb => H.sz bs (List.mem_of_mem_drop hb)⟩, hW2.setCell rfl _⟩
    exact ((hbs.drop c).kt (H.ktOff hW2)).kt (KT.setCell _ hL.tyx)
  clear hbs ho hvl hlen
  unfold came at hc
  by_cases hk : ak ≤ (s : Int) - (n : Int)
  · have hw1 : IntKind.i64.wrap ((s : Int) - (n : Int) - ((s : Int) - (n : Int))) = 0 := by rw [IntKind.wrap_i64]; omega
    have HC : Hid (c = 0) := by unfold Hid; omega
    clear hc
    go_enter Tryz.func81, Tryz.ntmps81
    go_wp2_with (first
      | (go_at_call 43; refine (HD.out _ _ ?_).mono ?_; have := HC.out; omega; rintro e w2 ⟨rfl, hL2, hK2, hO2⟩; have q4 := hL2.c4; have qf := hL2.fz 4)
      | (go_at_call 75; refine (known_any _ _ _ _ _ _ _ _ _ _ _ H).mono ?_; rintro e w1 ⟨rfl, j1, hw⟩; subst w1))
    all_goals go_end0
    all_goals exact ⟨rfl, hK2, hO2⟩
  · have hw1 : IntKind.i64.wrap (ak - ((s : Int) - (n : Int))) = ak - ((s : Int) - (n : Int)) := by rw [IntKind.wrap_i64]; omega
    have HC : Hid ((c : Int) = ak - ((s : Int) - (n : Int))) := by unfold Hid; omega
    clear hc
    go_enter Tryz.func81, Tryz.ntmps81
    go_wp2_with (first
      | (go_at_call 43; refine (HD.out _ _ ?_).mono ?_; have := HC.out; omega; rintro e w2 ⟨rfl, hL2, hK2, hO2⟩; have q4 := hL2.c4; have qf := hL2.fz 4)
      | (go_at_call 75; refine (known_any _ _ _ _ _ _ _ _ _ _ _ H).mono ?_; rintro e w1 ⟨rfl, j1, hw⟩; subst w1))
    all_goals go_end0
    all_goals exact ⟨rfl, hK2, hO2⟩

end Go.Proofs.YtpofihiojhbfgaaGreatDoor.Lnk

namespace Go.Proofs.YtpofihiojhbfgaaGreatDoor.Lnk
open Go.RowKit
set_option linter.unusedVariables false
set_option maxRecDepth 8000

theorem ne_own {ao ao2 : Option Addr} {g : Nat} {w : World} (ne : ∀ a, ao = some a → a.block ≠ g) (hlt : g < w.heap.size) (h : Nw w ao ao2) : ∀ a, ao2 = some a → a.block ≠ g := by
  intro a ha
  rcases h a ha with ⟨c, hc, e⟩ | hc
  · have := ne c hc; omega
  · omega
theorem nw_at {w : World} {ao ao2 : Option Addr} (h : ao2 = ao ∨ ao2 = some ⟨w.heap.size, 0, none⟩) : Nw w ao ao2 := by
  rcases h with rfl | rfl
  · exact Nw.refl _ _
  · intro a ha; cases ha; exact .inr (Nat.le_refl _)
theorem _root_.Go.Proofs.YtpofihiojhbfgaaGreatDoor.Nw.older {w w1 : World} {ao ao2 : Option Addr} (h : Nw w1 ao ao2) (hs : w.heap.size ≤ w1.heap.size) : Nw w ao ao2 := fun a ha => (h a ha).imp id (by omega)

theorem step_append_atS {P : Program} (w : World) {ops : Array Oper} {o : Oper} {a : Act} {K : Act → World → Prop} {Q : Exit → Act → World → Prop} {E : Prop} (hgd : o.guard = none) (s x : Operand) (t : TypeId)
    (ho : o.op = .call { callee := .builtin .append, args := #[s, x], argTypes := #[t, t] })
    (base : Nat) (e : TypeId) (z : Value) (bytes : Nat) (ht : P.underlying t = some (.slice e))
    (hinfo : (P.info? e).map (fun i => (i.zero, i.size, i.bytes)) = some (some z, 1, bytes)) (hzs : z.cells.size = 1)
    {ao : Option Addr} {cap n : Nat} {xs : List Value} {ao' : Option Addr} {cap' m : Nat} {ys : List Value}
    (hs : a.eval s = .slice ao n cap) (hx : a.eval x = .slice ao' m cap') (hown : OwnS w base e ao cap xs) (hrd : RdS w ao' cap' ys) (hn : xs.length = n) (hm : ys.length = m)
    (h1 : ∀ u ∈ ys, u.oneCell' = true) (hbytes : (n + m) * bytes ≤ 140737488355328) (h63 : n + m ≤ maxLen) (hbase : base ≤ w.heap.size)
    (h : ∀ ao2 cap2 w', OwnS w' base e ao2 cap2 (xs ++ ys) → w.grownBy w' (Value.ownBlock (.slice ao n cap)) → (ao2 = ao ∨ ao2 = some ⟨w.heap.size, 0, none⟩) → K (a.put o.dst (.slice ao2 (n + m) cap2)) w') :
    if Region.wanted o (yielded ops a.tmps) = true then Oper.wp P o a w K Q else E := by
  have hw : Region.wanted o (yielded ops a.tmps) = true := by simp [Region.wanted, hgd]
  rw [if_pos hw]
  subst hn hm
  obtain ⟨ao2, cap2, w', hr, h2, h3, h4⟩ := run_append_at (P := P) base t o.type e z bytes ht hinfo hzs hown hrd h1 hbytes h63 hbase
  unfold Oper.wp execOp
  simp only [ho, resolve, invoke, builtin, Sem.run_bind, Sem.run_pure, Result.andThen_ok, List.map_toArray, List.map_cons, List.map_nil, hs, hx, hr]
  exact h ao2 cap2 w' h2 h3 h4

set_option maxHeartbeats 1600000 in
theorem push_ok (w : World) (B g : Nat) (ao : Option Addr) (n cap : Nat) (V : Nat → Prop) (I : LkI) (L : List (List Nat)) (s h : Nat) (H : Lk w B g ao n cap V I L s h) (ax : Option Addr) (m cx : Nat) (bs : List Nat) (hr : Rd8 w ax m cx bs) (hm : m ≤ 700) (hn : n < 8) (hs : s < 16777215) (hV : ∀ k, w.heap.size ≤ k → V k) :
    Calls Tryz.prog 42 #[lp g, .slice ax m cx] w fun e w' => e = .returned (.int .i64 0) ∧ Led w w' B g ao (n + 1) V I (L ++ [bs]) (s + 1) h := by
  have h4 := H.hd.c4
  have h5 := H.hd.c5
  have f4 := H.hd.fz 4
  have f5 := H.hd.fz 5
  have hq : ¬ ((s : Int) = 16777215) := by omega
  have hq8 : ¬ ((n : Int) = 8) := by omega
  have hg := H.hd.lt
  have hbg := H.bg
  obtain ⟨vs, ho, hbs⟩ := H.row
  have hlen := H.len
  have hvl : vs.length = n := hbs.len.trans hlen
  have hlm := hr.len
  have HC : Hid (Calls Tryz.prog 73 #[.slice ax m cx] w.drew fun e w' => ∃ a1 c1, e = .returned (.slice a1 m c1) ∧ Below w.heap.size w w' ∧ Lk w' B g ao n cap V I L s h ∧ OwnS w' B 31 ao cap vs ∧ By w' V (.slice a1 m c1) bs) := by
    refine (clone_any ax m cx bs w.drew (hr.heap rfl) (by omega)).mono ?_
    rintro e w' ⟨a1, c1, rfl, hy, hb⟩
    have hb' : Below w.heap.size w w' := ⟨hb.os, hb.tape, hb.output, hb.size, hb.block⟩
    exact ⟨a1, c1, rfl, hb', H.below hb', ho.below hb', hy.mono fun k _ hk => hV k hk⟩
  have HF : Hid (∀ (w1 w2 : World) (a1 ao2 : Option Addr) (c1 cap2 : Nat), Below w.heap.size w w1 → Lk w1 B g ao n cap V I L s h → By w1 V (.slice a1 m c1) bs → OwnS w2 B 31 ao2 cap2 (vs ++ [.slice a1 m c1]) → (w1.alloc (.cells #[.slice a1 m c1] 31)).grownBy w2 (Value.ownBlock (.slice ao n cap)) → (ao2 = ao ∨ ao2 = some ⟨(w1.alloc (.cells #[.slice a1 m c1] 31)).heap.size, 0, none⟩) →
      Lh w2 g I (.slice ao n cap) s h ∧ Led w ((w2.setCell ⟨g, 4, none⟩ (.slice ao2 (n + 1) cap2)).setCell ⟨g, 5, none⟩ (.int .i64 ((s : Int) + 1))) B g ao (n + 1) V I (L ++ [bs]) (s + 1) h) := by
    intro w1 w2 a1 ao2 c1 cap2 hb1 H1 hy1 ho2 hG hW
    have hbA : Below w1.heap.size w1 (w1.alloc (.cells #[.slice a1 m c1] 31)) := (Below.refl _ _).alloc (Nat.le_refl _) _
    have HA := H1.below hbA
    have hOA : Off2 g ao w (w1.alloc (.cells #[.slice a1 m c1] 31)) := Off2.of_below ao (below_step hb1 hbA)
    have hO2 : Off2 g ao (w1.alloc (.cells #[.slice a1 m c1] 31)) w2 := Off2.of_grown g hG
    have hL2 : Lh w2 g I (.slice ao n cap) s h := HA.hd.keep (hG.block g HA.hd.lt (by
      cases ao with
      | none => simp [Value.ownBlock]
      | some a => have := H.ne a rfl; simp [Value.ownBlock]; omega))
    have hK2 : KT w1 w2 := (KT.of_below hbA).trans (HA.ktOff hO2)
    have hNA : Nw (w1.alloc (.cells #[.slice a1 m c1] 31)) ao ao2 := nw_at hW
    have hN : Nw w ao ao2 := hNA.older (Nat.le_trans hb1.size hbA.size)
    have hne2 : ∀ a, ao2 = some a → a.block ≠ g := ne_own H.ne hg hN
    have hOO : Off2 g ao w w2 := hOA.trans hO2 (Nw.refl _ _)
    have hsnoc : Bys w2 V (vs ++ [.slice a1 m c1]) (L ++ [bs]) := by
      have hKw : KT w w2 := (KT.of_below hb1).trans hK2
      exact (hbs.kt hKw).snoc (hy1.kt hK2)
    have e1 : ((s : Int) + 1) = ((s + 1 : Nat) : Int) := by omega
    refine ⟨hL2, ao2, cap2, ⟨by rw [e1]; exact (hL2.put4 _).put5 _, ⟨_, (ho2.keep fun a ha => Below.heap_setCell _ _ _ _ (hne2 a ha)).keep fun a ha => Below.heap_setCell _ _ _ _ (hne2 a ha), (hsnoc.kt (KT.setCell _ hL2.tyx)).kt (KT.setCell _ (hL2.put4 _).tyx)⟩, by simp; omega, hbg, by omega, by have := H.sl; omega, by omega, H.hm, ?_⟩, (hOO.setCell rfl _).setCell rfl _, hN⟩
    intro b hb
    rcases List.mem_append.1 hb with hb | hb
    · exact H.sz b hb
    · simp only [List.mem_singleton] at hb
      subst hb; omega
  clear hlen hbs hlm
  have hw1 : IntKind.i64.wrap ((s : Int) + 1) = (s : Int) + 1 := by rw [IntKind.wrap_i64]; omega
  go_enter Tryz.func42, Tryz.ntmps42
  go_upto_region 7 with fail
  go_region_law (first
    | (refine step_append_atS _ (by rfl) _ _ 64 (by rfl) B 31 (.slice none 0 0) 24 Tryz.underlying64 info27 (by rfl) (by rfl) (by rfl) (ho1.alloc _) (RdS.one w1 31 _) hvl (by rfl) (by simp [hy1.one]) (by omega) (by unfold maxLen; omega) (by simp; omega) ?_; intro ao2 cap2 w2 ho2 hG2 hW2; obtain ⟨hL2, hF2⟩ := HF.out _ _ _ _ _ _ hb1 H1 hy1 ho2 hG2 hW2; have q4 := hL2.c4; have q5 := hL2.c5; have g4 := hL2.fz 4; have g5 := hL2.fz 5)
    | (go_simp; go_at_call 73; refine HC.out.mono ?_; rintro e w1 ⟨a1, c1, rfl, hb1, H1, ho1, hy1⟩; have p4 := H1.hd.c4; have p5 : (w1.alloc (.cells #[.slice a1 m c1] 31)).cell? ⟨g, 4, none⟩ = some (.slice ao n cap) := (H1.below ((Below.refl _ _).alloc (Nat.le_refl _) _)).hd.c4; have hs1 := hb1.size))
  all_goals go_wp2
  all_goals go_ret
  all_goals exact ⟨rfl, hF2⟩

end Go.Proofs.YtpofihiojhbfgaaGreatDoor.Lnk

namespace Go.Proofs.YtpofihiojhbfgaaGreatDoor.Lnk
open Go.RowKit
set_option linter.unusedVariables false
set_option maxRecDepth 8000

structure PkG where
  cl : Int
  ep : Int
  bo : Int
  sq : Int
  ak : Int
  sv : Bool
  bs : List Nat

abbrev pkV (P : PkG) (u : Value) : Value := .agg #[.int .i64 P.cl, .int .i64 P.ep, .int .i64 P.bo, .int .i64 P.sq, .int .i64 P.ak, .bool P.sv, u]
abbrev pkO (P : PkG) (u : Value) : Obj := .cells #[.int .i64 P.cl, .int .i64 P.ep, .int .i64 P.bo, .int .i64 P.sq, .int .i64 P.ak, .bool P.sv, u] 33
def pkC (P : PkG) (u : Value) : List Value := [.int .i64 P.cl, .int .i64 P.ep, .int .i64 P.bo, .int .i64 P.sq, .int .i64 P.ak, .bool P.sv, u]

structure PkIn (w : World) (b o : Nat) (P : PkG) (u : Value) : Prop where
  c0 : w.cell? ⟨b, o, none⟩ = some (.int .i64 P.cl)
  c1 : w.cell? ⟨b, o + 1, none⟩ = some (.int .i64 P.ep)
  c2 : w.cell? ⟨b, o + 2, none⟩ = some (.int .i64 P.bo)
  c3 : w.cell? ⟨b, o + 3, none⟩ = some (.int .i64 P.sq)
  c4 : w.cell? ⟨b, o + 4, none⟩ = some (.int .i64 P.ak)
  c5 : w.cell? ⟨b, o + 5, none⟩ = some (.bool P.sv)
  c6 : w.cell? ⟨b, o + 6, none⟩ = some u

theorem PkIn.keep {w w' : World} {b o : Nat} {P : PkG} {u : Value} (h : PkIn w b o P u) (hb : w'.heap[b]? = w.heap[b]?) : PkIn w' b o P u := by
  have c := fun j => World.cell?_of_block (w := w) (w' := w') (a := ⟨b, j, none⟩) hb
  exact ⟨(c _).trans h.c0, (c _).trans h.c1, (c _).trans h.c2, (c _).trans h.c3, (c _).trans h.c4, (c _).trans h.c5, (c _).trans h.c6⟩

theorem PkIn.lt {w : World} {b o : Nat} {P : PkG} {u : Value} (h : PkIn w b o P u) : b < w.heap.size := World.block_lt_of_cell? w _ h.c0
theorem PkIn.below {w w' : World} {b o : Nat} {P : PkG} {u : Value} (h : PkIn w b o P u) (hb : Below w.heap.size w w') : PkIn w' b o P u := h.keep (hb.block b h.lt)

theorem PkIn.new (w : World) (P : PkG) (u : Value) : PkIn (w.alloc (pkO P u)) w.heap.size 0 P u := by
  have h := heap_alloc_new w (pkO P u)
  refine ⟨?_, ?_, ?_, ?_, ?_, ?_, ?_⟩
  all_goals rw [cell_of_row _ _ _ _ _ _ h]; rfl

def rowC : List (PkG × Value) → List Value
  | [] => []
  | r :: R => pkC r.1 r.2 ++ rowC R

theorem rowC_length (R : List (PkG × Value)) : (rowC R).length = R.length * 7 := by
  induction R with
  | nil => rfl
  | cons r R ih => simp [rowC, pkC, ih]; omega
theorem rowC_append (R S : List (PkG × Value)) : rowC (R ++ S) = rowC R ++ rowC S := by
  induction R with
  | nil => rfl
  | cons r R ih => simp [rowC, ih]
theorem rowC_get : ∀ (R : List (PkG × Value)) (i : Nat) (h : i < R.length) (j : Nat), j < 7 → (rowC R)[i * 7 + j]? = (pkC R[i].1 R[i].2)[j]?
  | r :: R, 0, _, j, hj => by
    rw [rowC, List.getElem?_append_left (by simp [pkC]; omega)]
    simp
  | r :: R, i + 1, h, j, hj => by
    rw [rowC, List.getElem?_append_right (by simp [pkC]; omega)]
    have e : (i + 1) * 7 + j - (pkC r.1 r.2).length = i * 7 + j := by simp [pkC]; omega
    rw [e, rowC_get R i (by simpa using h) j hj]
    simp
theorem By.keepx {w w' : World} {V : Nat → Prop} {v : Value} {bs : List Nat} (h : By w V v bs) (hs : w.heap.size ≤ w'.heap.size) (hb : ∀ (k : Nat) (cs : Array Value) (fr : Nat × Nat), w.heap[k]? = some (.cells cs 5 fr) → w'.heap[k]? = w.heap[k]?) : By w' V v bs := by
  obtain ⟨ao, n, cap, rfl, hr, ht, hi⟩ := h
  refine ⟨ao, n, cap, rfl, hr.kept (V := fun k => ∃ cs fr, w.heap[k]? = some (.cells cs 5 fr)) ?_ ⟨hs, ?_⟩, ?_, hi.mono hs fun _ _ h => h⟩
  · exact fun a ha => ⟨ht a ha, (hi a ha).2⟩
  · rintro k _ ⟨cs, fr, hk⟩
    exact hb k cs fr hk
  · intro a ha
    obtain ⟨cs, fr, hk⟩ := ht a ha
    exact ⟨cs, fr, (hb _ cs fr hk).trans hk⟩

theorem By.grown {w w' : World} {V : Nat → Prop} {v : Value} {bs : List Nat} (h : By w V v bs) {base n : Nat} {e : TypeId} {size : Nat} {x : Value} {xs : List Value} (ho : w.ownsRow base e size x n xs) (he : e ≠ 5) (hg : w.grownBy w' x.ownBlock) : By w' V v bs := by
  refine h.keepx hg.size fun k cs fr hk => hg.block k (Array.getElem?_eq_some_iff.1 hk).1 ?_
  intro e1
  rcases ho.2 with ⟨hv, _⟩ | ⟨g, cp, cur, hv, _, hh, _⟩
  · rw [hv] at e1; simp [Value.ownBlock] at e1
  · rw [hv] at e1
    simp [Value.ownBlock] at e1
    subst e1
    rw [hk] at hh
    simp only [Option.some.injEq, Obj.cells.injEq] at hh
    exact he hh.2.1.symm

def Pks (w : World) (base : Nat) (V : Nat → Prop) (v : Value) (Ps : List PkG) : Prop := ∃ R : List (PkG × Value), R.map Prod.fst = Ps ∧ w.ownsRow base 33 7 v R.length (rowC R) ∧ ∀ r ∈ R, By w V r.2 r.1.bs

def RdP (w : World) (V : Nat → Prop) (v : Value) (Ps : List PkG) : Prop := ∃ (ao : Option Addr) (cap : Nat) (R : List (PkG × Value)), v = .slice ao Ps.length cap ∧ R.map Prod.fst = Ps ∧ (ao = none → cap = 0 ∧ Ps = []) ∧ (∀ a, ao = some a → ∀ j u, (rowC R)[j]? = some u → w.cell? (a.add j) = some u) ∧ ∀ r ∈ R, By w V r.2 r.1.bs

theorem Pks.nil (w : World) (base : Nat) (V : Nat → Prop) : Pks w base V (.slice none 0 0) [] := ⟨[], rfl, World.ownsRow_nil _ _ _ _, by simp⟩

theorem Pks.rd {w : World} {base : Nat} {V : Nat → Prop} {v : Value} {Ps : List PkG} (h : Pks w base V v Ps) : RdP w V v Ps := by
  obtain ⟨R, rfl, ho, hb⟩ := h
  rcases ho.2 with ⟨hv, hn⟩ | ⟨g, cp, cur, hv, hg, hh, r⟩
  · have : R = [] := List.eq_nil_of_length_eq_zero hn
    subst this
    exact ⟨none, 0, [], by simpa using hv, rfl, fun _ => ⟨rfl, rfl⟩, fun a h => (by cases h), by simp⟩
  · refine ⟨some ⟨g, 0, none⟩, cp, R, by simpa using hv, rfl, fun h => (by cases h), ?_, hb⟩
    intro a ha
    cases ha
    exact World.ownsRow.cells ho (by rw [hv]; rfl)

theorem Pks.shape {w : World} {base : Nat} {V : Nat → Prop} {v : Value} {Ps : List PkG} (h : Pks w base V v Ps) : ∃ ao cap, v = .slice ao Ps.length cap ∧ Ps.length ≤ cap ∧ cap ≤ maxLen ∧ ((ao = none ∧ cap = 0) ∨ ∃ g, ao = some ⟨g, 0, none⟩ ∧ base ≤ g ∧ g < w.heap.size) := by
  obtain ⟨R, rfl, ho, hb⟩ := h
  rcases ho.2 with ⟨hv, hn⟩ | ⟨g, cp, cur, hv, hg, hh, h1, h2, r⟩
  · exact ⟨none, 0, by simpa [hn] using hv, by simp [hn], by simp, .inl ⟨rfl, rfl⟩⟩
  · exact ⟨_, cp, by simpa using hv, by simpa using h1, h2, .inr ⟨g, rfl, hg, (Array.getElem?_eq_some_iff.1 hh).1⟩⟩

theorem Pks.at {w : World} {base : Nat} {V : Nat → Prop} {v : Value} {Ps : List PkG} (h : Pks w base V v Ps) (i : Nat) (hi : i < Ps.length) : ∃ g cap u, v = .slice (some ⟨g, 0, none⟩) Ps.length cap ∧ base ≤ g ∧ PkIn w g (i * 7) Ps[i] u ∧ By w V u Ps[i].bs := by
  obtain ⟨R, rfl, ho, hb⟩ := h
  have ho2 := ho.2
  simp only [List.length_map] at hi
  rcases ho2 with ⟨hv, hn⟩ | ⟨g, cp, cur, hv, hg, hh, r⟩
  · omega
  · subst hv
    have hc := fun j (hj : j < 7) => (World.ownsRow.cellAt ho (i * 7 + j) (by omega)).trans (rowC_get R i hi j hj)
    refine ⟨g, cp, R[i].2, by simp, hg, ?_, by simpa using hb _ (List.getElem_mem hi)⟩
    simp only [List.getElem_map]
    exact ⟨hc 0 (by omega), hc 1 (by omega), hc 2 (by omega), hc 3 (by omega), hc 4 (by omega), hc 5 (by omega), hc 6 (by omega)⟩

theorem Pks.kt {w w' : World} {base : Nat} {V : Nat → Prop} {v : Value} {Ps : List PkG} (h : Pks w base V v Ps) (hk : KT w w') : Pks w' base V v Ps := by
  obtain ⟨R, rfl, ho, hb⟩ := h
  refine ⟨R, rfl, ⟨ho.1, ?_⟩, fun r hr => (hb r hr).kt hk⟩
  rcases ho.2 with hv | ⟨g, cp, cur, hv, hg, hh, r⟩
  · exact .inl hv
  · exact .inr ⟨g, cp, cur, hv, hg, (hk.block g cur 33 _ hh (by decide) (by decide)).trans hh, r⟩
theorem Pks.below {w w' : World} {base : Nat} {V : Nat → Prop} {v : Value} {Ps : List PkG} (h : Pks w base V v Ps) (hb : Below w.heap.size w w') : Pks w' base V v Ps := h.kt (KT.of_below hb)
theorem Pks.built (w : World) (base : Nat) (V : Nat → Prop) (P : PkG) (u : Value) (hb : base ≤ w.heap.size) (hy : By (w.alloc (pkO P u)) V u P.bs) : Pks (w.alloc (pkO P u)) base V (.slice (some ⟨w.heap.size, 0, none⟩) 1 1) [P] := by
  refine ⟨[(P, u)], rfl, ?_, by simpa using hy⟩
  have := World.ownsRow_lit (base := base) (e := 33) (size := 7) w #[.int .i64 P.cl, .int .i64 P.ep, .int .i64 P.bo, .int .i64 P.sq, .int .i64 P.ak, .bool P.sv, u] 1 hb (by unfold maxLen; omega) rfl
  simpa [rowC, pkC] using this

theorem rowC_one {w : World} {V : Nat → Prop} : ∀ (R : List (PkG × Value)), (∀ r ∈ R, By w V r.2 r.1.bs) → ∀ u ∈ rowC R, u.oneCell' = true
  | [], _, u, hu => by simp [rowC] at hu
  | r :: R, h, u, hu => by
    rw [rowC] at hu
    rcases List.mem_append.1 hu with hu | hu
    · have := (h r (by simp)).one
      simp only [pkC, List.mem_cons, List.not_mem_nil, or_false] at hu
      rcases hu with rfl | rfl | rfl | rfl | rfl | rfl | rfl <;> first | rfl | exact this
    · exact rowC_one R (fun r hr => h r (by simp [hr])) u hu

theorem info30 : (Tryz.prog.info? 33).map (fun i => (i.zero, i.size, i.bytes)) = some (some (.agg #[.int .i64 0, .int .i64 0, .int .i64 0, .int .i64 0, .int .i64 0, .bool false, .slice none 0 0]), 7, 72) := by kernel_rfl

theorem run_append_pks {w : World} (ty : TypeId) (base : Nat) {V : Nat → Prop} {v x : Value} {Ps Qs : List PkG} (hp : Pks w base V v Ps) (hx : RdP w V x Qs) (hl : Ps.length + Qs.length ≤ 1000000) (hbase : base ≤ w.heap.size) :
    ∃ v' w', (Builtin.append_ #[28, 28] ty #[v, x]).run Tryz.prog w = .ok v' w' ∧ Pks w' base V v' (Ps ++ Qs) ∧ w.grownBy w' v.ownBlock ∧ (v'.ownBlock = v.ownBlock ∨ v'.ownBlock = some w.heap.size) := by
  obtain ⟨i, hi, hz, hsz, hby⟩ := info_parts info30
  obtain ⟨R, rfl, ho, hb⟩ := hp
  obtain ⟨ao, cap, S, rfl, rfl, hn, hc, hd⟩ := hx
  simp only [List.length_map] at hl ⊢
  cases ao with
  | none =>
    obtain ⟨rfl, hS⟩ := hn rfl
    have hS0 : S = [] := by simpa using hS
    subst hS0
    refine ⟨v, w, by simpa using run_append_owned_none (P := Tryz.prog) w base 28 ty 33 i 7 Tryz.underlying28 hi v R.length (rowC R) ho, ⟨R, by simp, ho, hb⟩, ⟨rfl, rfl, rfl, Nat.le_refl _, fun _ _ _ => rfl⟩, .inl rfl⟩
  | some a =>
    obtain ⟨v', w', hr, h2, h3, _, h5⟩ := run_append_own_at (P := Tryz.prog) w base 28 ty 33 i _ 7 72 Tryz.underlying28 hi hz hsz hby rfl (by omega) v R.length (rowC R) ho a S.length cap (rowC S) (rowC_length S) (hc a rfl) (rowC_one S hd) (by unfold maxLen; omega) (by omega) hbase
    refine ⟨v', w', hr, ⟨R ++ S, by simp, by rw [rowC_append, List.length_append]; exact h2, fun r hr => ?_⟩, h3, h5⟩
    rcases List.mem_append.1 hr with hr | hr
    · exact (hb r hr).grown ho (by decide) h3
    · exact (hd r hr).grown ho (by decide) h3

theorem wpList_append_pks (w : World) {ops : Array Oper} {rest : List Oper} {o : Oper} {a : Act} {Q : Exit → Act → World → Prop} (hgd : o.guard = none) (s x : Operand)
    (ho : o.op = .call { callee := .builtin .append, args := #[s, x], argTypes := #[28, 28] }) (base : Nat) {V : Nat → Prop} {v y : Value} {Ps Qs : List PkG} (hs : a.eval s = v) (hx : a.eval x = y)
    (hp : Pks w base V v Ps) (hq : RdP w V y Qs) (hl : Ps.length + Qs.length ≤ 1000000) (hbase : base ≤ w.heap.size)
    (h : ∀ v' w', Pks w' base V v' (Ps ++ Qs) → w.grownBy w' v.ownBlock → (v'.ownBlock = v.ownBlock ∨ v'.ownBlock = some w.heap.size) → wpList Tryz.prog ops Q rest (a.put o.dst v') w') : wpList Tryz.prog ops Q (o :: rest) a w := by
  refine wpList_plain hgd fun _ hK => ?_
  obtain ⟨v', w', hr, h2, h3, h4⟩ := run_append_pks (w := w) o.type base hp hq hl hbase
  unfold Oper.wp execOp
  simp only [ho, resolve, invoke, builtin, Sem.run_bind, Sem.run_pure, Result.andThen_ok, List.map_toArray, List.map_cons, List.map_nil, hs, hx, hr]
  exact hK _ _ (h v' w' h2 h3 h4)

theorem Pks.grownBelow {w w' : World} {base : Nat} {V : Nat → Prop} {v : Value} {Ps : List PkG} (h : Pks w base V v Ps) (hs : base ≤ w.heap.size) (hg : w.grownBy w' v.ownBlock) : Below base w w' := by
  obtain ⟨R, rfl, ho, hb⟩ := h
  exact (Below.refl base w).grown hg hs fun k hk => (World.ownsRow.lt ho k hk).1

end Go.Proofs.YtpofihiojhbfgaaGreatDoor.Lnk

namespace Go.Proofs.YtpofihiojhbfgaaGreatDoor.Lnk
open Go.RowKit
set_option linter.unusedVariables false
set_option maxRecDepth 8000

def mkPk (I : LkI) (h : Nat) (sq : Int) (bs : List Nat) : PkG := ⟨I.cl, I.ep, I.bo, sq, (h : Int), I.sv, bs⟩

abbrev pkZ : Obj := .cells #[.int .i64 0, .int .i64 0, .int .i64 0, .int .i64 0, .int .i64 0, .bool false, .slice none 0 0] 33

theorem put7_other (w : World) (N g : Nat) (hne : g ≠ N) (v0 v1 v2 v3 v4 v5 v6 : Value) : (((((((w.setCell ⟨N, 0, none⟩ v0).setCell ⟨N, 1, none⟩ v1).setCell ⟨N, 2, none⟩ v2).setCell ⟨N, 3, none⟩ v3).setCell ⟨N, 4, none⟩ v4).setCell ⟨N, 5, none⟩ v5).setCell ⟨N, 6, none⟩ v6).heap[g]? = w.heap[g]? := by
  have h := fun (W : World) (j : Nat) (v : Value) => Below.heap_setCell W ⟨N, j, none⟩ v g hne
  simp only [h]

theorem put7_in (w : World) (N : Nat) (P Q : PkG) (u z : Value) (h : PkIn w N 0 Q z) : PkIn (((((((w.setCell ⟨N, 0, none⟩ (.int .i64 P.cl)).setCell ⟨N, 1, none⟩ (.int .i64 P.ep)).setCell ⟨N, 2, none⟩ (.int .i64 P.bo)).setCell ⟨N, 3, none⟩ (.int .i64 P.sq)).setCell ⟨N, 4, none⟩ (.int .i64 P.ak)).setCell ⟨N, 5, none⟩ (.bool P.sv)).setCell ⟨N, 6, none⟩ u) N 0 P u := by
  have p := fun (W : World) (i j : Nat) (v : Value) (hne : j ≠ i) => put_other W N i j v hne
  have h0 := h.c0
  have h1 := h.c1
  have h2 := h.c2
  have h3 := h.c3
  have h4 := h.c4
  have h5 := h.c5
  have h6 := h.c6
  simp only [Nat.zero_add] at h1 h2 h3 h4 h5 h6
  refine ⟨?_, ?_, ?_, ?_, ?_, ?_, ?_⟩
  · rw [p _ 6 0 _ (by omega), p _ 5 0 _ (by omega), p _ 4 0 _ (by omega), p _ 3 0 _ (by omega), p _ 2 0 _ (by omega), p _ 1 0 _ (by omega)]
    exact World.cell?_setCell_same _ _ _ (by exact h0)
  · simp only [Nat.zero_add]
    rw [p _ 6 1 _ (by omega), p _ 5 1 _ (by omega), p _ 4 1 _ (by omega), p _ 3 1 _ (by omega), p _ 2 1 _ (by omega)]
    exact World.cell?_setCell_same _ _ _ (by rw [p _ 0 1 _ (by omega)]; exact h1)
  · simp only [Nat.zero_add]
    rw [p _ 6 2 _ (by omega), p _ 5 2 _ (by omega), p _ 4 2 _ (by omega), p _ 3 2 _ (by omega)]
    exact World.cell?_setCell_same _ _ _ (by rw [p _ 1 2 _ (by omega), p _ 0 2 _ (by omega)]; exact h2)
  · simp only [Nat.zero_add]
    rw [p _ 6 3 _ (by omega), p _ 5 3 _ (by omega), p _ 4 3 _ (by omega)]
    exact World.cell?_setCell_same _ _ _ (by rw [p _ 2 3 _ (by omega), p _ 1 3 _ (by omega), p _ 0 3 _ (by omega)]; exact h3)
  · simp only [Nat.zero_add]
    rw [p _ 6 4 _ (by omega), p _ 5 4 _ (by omega)]
    exact World.cell?_setCell_same _ _ _ (by rw [p _ 3 4 _ (by omega), p _ 2 4 _ (by omega), p _ 1 4 _ (by omega), p _ 0 4 _ (by omega)]; exact h4)
  · simp only [Nat.zero_add]
    rw [p _ 6 5 _ (by omega)]
    exact World.cell?_setCell_same _ _ _ (by rw [p _ 4 5 _ (by omega), p _ 3 5 _ (by omega), p _ 2 5 _ (by omega), p _ 1 5 _ (by omega), p _ 0 5 _ (by omega)]; exact h5)
  · simp only [Nat.zero_add]
    exact World.cell?_setCell_same _ _ _ (by rw [p _ 5 6 _ (by omega), p _ 4 6 _ (by omega), p _ 3 6 _ (by omega), p _ 2 6 _ (by omega), p _ 1 6 _ (by omega), p _ 0 6 _ (by omega)]; exact h6)

theorem put7_size (w : World) (N : Nat) (v0 v1 v2 v3 v4 v5 v6 : Value) : (((((((w.setCell ⟨N, 0, none⟩ v0).setCell ⟨N, 1, none⟩ v1).setCell ⟨N, 2, none⟩ v2).setCell ⟨N, 3, none⟩ v3).setCell ⟨N, 4, none⟩ v4).setCell ⟨N, 5, none⟩ v5).setCell ⟨N, 6, none⟩ v6).heap.size = w.heap.size := by simp [World.setCell]

theorem put7_below (B : Nat) (w0 w : World) (N : Nat) (hN : B ≤ N) (h : Below B w0 w) (v0 v1 v2 v3 v4 v5 v6 : Value) : Below B w0 (((((((w.setCell ⟨N, 0, none⟩ v0).setCell ⟨N, 1, none⟩ v1).setCell ⟨N, 2, none⟩ v2).setCell ⟨N, 3, none⟩ v3).setCell ⟨N, 4, none⟩ v4).setCell ⟨N, 5, none⟩ v5).setCell ⟨N, 6, none⟩ v6) :=
  ((((((h.setCell (p := ⟨N, 0, none⟩) hN v0).setCell (p := ⟨N, 1, none⟩) hN v1).setCell (p := ⟨N, 2, none⟩) hN v2).setCell (p := ⟨N, 3, none⟩) hN v3).setCell (p := ⟨N, 4, none⟩) hN v4).setCell (p := ⟨N, 5, none⟩) hN v5).setCell (p := ⟨N, 6, none⟩) hN v6

set_option maxHeartbeats 1600000 in
theorem packet_any (w : World) (B g : Nat) (ao : Option Addr) (n cap : Nat) (V : Nat → Prop) (I : LkI) (L : List (List Nat)) (s h : Nat) (H : Lk w B g ao n cap V I L s h) (sq : Int) (ax : Option Addr) (m cx : Nat) (bs : List Nat) (hr : Rd8 w ax m cx bs) (hm : m ≤ 140737488355328) :
    Calls Tryz.prog 74 #[lp g, .int .i64 sq, .slice ax m cx] w fun e w' => ∃ u, e = .returned (pkV (mkPk I h sq bs) u) ∧ By w' (fun k => w.heap.size ≤ k) u bs ∧ Below w.heap.size w w' := by
  have hg := H.hd.lt
  have HS : Hid (∀ W : World, W.heap[g]? = w.heap[g]? → (W.cell? ⟨g, 0, none⟩ = some (.int .i64 I.cl) ∧ W.cell? ⟨g, 1, none⟩ = some (.int .i64 I.ep) ∧ W.cell? ⟨g, 2, none⟩ = some (.int .i64 I.bo) ∧ W.cell? ⟨g, 6, none⟩ = some (.int .i64 (h : Int)) ∧ W.cell? ⟨g, 3, none⟩ = some (.bool I.sv))) := fun W hW => by
    have t := H.hd.keep hW
    exact ⟨t.c0, t.c1, t.c2, t.c6, t.c3⟩
  have hA : (w.alloc pkZ).drew.heap[g]? = w.heap[g]? := heap_alloc_old w _ hg
  have HC : Hid (Calls Tryz.prog 73 #[.slice ax m cx] (w.alloc pkZ).drew fun e w' => ∃ a1 c1, e = .returned (.slice a1 m c1) ∧ Below w.heap.size w w' ∧ By w' (fun k => w.heap.size ≤ k) (.slice a1 m c1) bs ∧ PkIn w' w.heap.size 0 ⟨0, 0, 0, 0, 0, false, []⟩ (.slice none 0 0) ∧ (∃ cs, w'.heap[w.heap.size]? = some (.cells cs 33 (0, 0))) ∧ ∀ j, w'.frozen? ⟨w.heap.size, j, none⟩ = false) := by
    refine (clone_any ax m cx bs (w.alloc pkZ).drew ((hr.alloc _).heap rfl) (by omega)).mono ?_
    rintro e w' ⟨a1, c1, rfl, hy, hb⟩
    have hb' : Below (w.alloc pkZ).heap.size (w.alloc pkZ) w' := ⟨hb.os, hb.tape, hb.output, hb.size, hb.block⟩
    have hN : w'.heap[w.heap.size]? = some pkZ := (hb'.block w.heap.size (by simp)).trans (heap_alloc_new w _)
    refine ⟨a1, c1, rfl, below_alloc (hb'.mono (by simp)), hy.mono fun k _ hk => by simp at hk; omega, ?_, ⟨_, hN⟩, fun j => frozen_of_row _ _ _ _ _ hN⟩
    exact (PkIn.new w ⟨0, 0, 0, 0, 0, false, []⟩ (.slice none 0 0)).below hb'
  have hgN : g ≠ w.heap.size := by omega
  go_enter Tryz.func74, Tryz.ntmps74
  go_upto_region 1 with fail
  first
    | go_region_held (fun W => (W.cell? ⟨g, 0, none⟩ = some (.int .i64 I.cl) ∧ W.cell? ⟨g, 1, none⟩ = some (.int .i64 I.ep) ∧ W.cell? ⟨g, 2, none⟩ = some (.int .i64 I.bo) ∧ W.cell? ⟨g, 6, none⟩ = some (.int .i64 (h : Int)) ∧ W.cell? ⟨g, 3, none⟩ = some (.bool I.sv)))
      (first | with_reducible exact HS.out _ hA | with_reducible exact HS.out _ hg1 | with_reducible exact HS.out _ ((put7_other _ _ _ hgN _ _ _ _ _ _ _).trans hg1) | fail)
      (first
        | (go_at_call 73; refine HC.out.mono ?_; rintro e w1 ⟨a1, c1, rfl, hb1, hy1, hP1, hT1, hF1⟩; have hg1 : w1.heap[g]? = w.heap[g]? := hb1.block g hg; have p0 := hP1.c0; have p1 := hP1.c1; have p2 := hP1.c2; have p3 := hP1.c3; have p4 := hP1.c4; have p5 := hP1.c5; have p6 := hP1.c6; simp only [Nat.zero_add] at p1 p2 p3 p4 p5 p6; have f0 := hF1 0; have f1 := hF1 1; have f2 := hF1 2; have f3 := hF1 3; have f4 := hF1 4; have f5 := hF1 5; have f6 := hF1 6; have HP1 : Hid (PkIn w1 w.heap.size 0 ⟨0, 0, 0, 0, 0, false, []⟩ (.slice none 0 0)) := hP1; clear hP1 hF1))
    | fail
  have hPN : PkIn (((((((w1.setCell ⟨w.heap.size, 0, none⟩ (.int .i64 I.cl)).setCell ⟨w.heap.size, 1, none⟩ (.int .i64 I.ep)).setCell ⟨w.heap.size, 2, none⟩ (.int .i64 I.bo)).setCell ⟨w.heap.size, 3, none⟩ (.int .i64 sq)).setCell ⟨w.heap.size, 4, none⟩ (.int .i64 (h : Int))).setCell ⟨w.heap.size, 5, none⟩ (.bool I.sv)).setCell ⟨w.heap.size, 6, none⟩ (.slice a1 m c1)) w.heap.size 0 (mkPk I h sq bs) (.slice a1 m c1) := put7_in w1 w.heap.size (mkPk I h sq bs) ⟨0, 0, 0, 0, 0, false, []⟩ (.slice a1 m c1) (.slice none 0 0) HP1.out
  have hyN : By (((((((w1.setCell ⟨w.heap.size, 0, none⟩ (.int .i64 I.cl)).setCell ⟨w.heap.size, 1, none⟩ (.int .i64 I.ep)).setCell ⟨w.heap.size, 2, none⟩ (.int .i64 I.bo)).setCell ⟨w.heap.size, 3, none⟩ (.int .i64 sq)).setCell ⟨w.heap.size, 4, none⟩ (.int .i64 (h : Int))).setCell ⟨w.heap.size, 5, none⟩ (.bool I.sv)).setCell ⟨w.heap.size, 6, none⟩ (.slice a1 m c1)) (fun k => w.heap.size ≤ k) (.slice a1 m c1) bs := by
    refine hy1.keepx (by rw [put7_size]; exact Nat.le_refl _) fun k cs fr hk => put7_other _ _ _ ?_ _ _ _ _ _ _ _
    intro e
    obtain ⟨cs', hT⟩ := hT1
    rw [e, hT] at hk
    simp at hk
  have hbN : Below w.heap.size w (((((((w1.setCell ⟨w.heap.size, 0, none⟩ (.int .i64 I.cl)).setCell ⟨w.heap.size, 1, none⟩ (.int .i64 I.ep)).setCell ⟨w.heap.size, 2, none⟩ (.int .i64 I.bo)).setCell ⟨w.heap.size, 3, none⟩ (.int .i64 sq)).setCell ⟨w.heap.size, 4, none⟩ (.int .i64 (h : Int))).setCell ⟨w.heap.size, 5, none⟩ (.bool I.sv)).setCell ⟨w.heap.size, 6, none⟩ (.slice a1 m c1)) := put7_below w.heap.size w w1 w.heap.size (Nat.le_refl _) hb1 _ _ _ _ _ _ _
  generalize (((((((w1.setCell ⟨w.heap.size, 0, none⟩ (.int .i64 I.cl)).setCell ⟨w.heap.size, 1, none⟩ (.int .i64 I.ep)).setCell ⟨w.heap.size, 2, none⟩ (.int .i64 I.bo)).setCell ⟨w.heap.size, 3, none⟩ (.int .i64 sq)).setCell ⟨w.heap.size, 4, none⟩ (.int .i64 (h : Int))).setCell ⟨w.heap.size, 5, none⟩ (.bool I.sv)).setCell ⟨w.heap.size, 6, none⟩ (.slice a1 m c1)) = W at *
  have q0 := hPN.c0
  have q1 := hPN.c1
  have q2 := hPN.c2
  have q3 := hPN.c3
  have q4 := hPN.c4
  have q5 := hPN.c5
  have q6 := hPN.c6
  simp only [Nat.zero_add] at q1 q2 q3 q4 q5 q6
  clear p0 p1 p2 p3 p4 p5 p6 f0 f1 f2 f3 f4 f5 f6
  go_wp2
  refine bodyPost_ret (by simp [results, Tryz.results74, go_sem, q0, q1, q2, q3, q4, q5, q6]; try rfl) rfl ?_
  exact ⟨_, rfl, hyN, hbN⟩

end Go.Proofs.YtpofihiojhbfgaaGreatDoor.Lnk
