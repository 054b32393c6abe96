/- Which steps are right: between, within, nothing, foreignParts and rightStep, walked. Which steps are right: nothing, walked. Which steps are right: foreignParts and rightStep, walked. Which steps are right: rightStep, walked. -/
import Derived.Test.YtemldmjpanmdbaaGreatDoorA3
import Derived.Deep.QuietTactic
import Derived.BigQuiet
import Derived.RegionTactic
import Derived.Deep.Cut
import Derived.Deep.RegionHeld
import Derived.Deep.RegionHeldLaw
namespace Go.Proofs.YtemldmjpanmdbaaGreatDoor
open Go.RowKit
set_option linter.unusedVariables false

theorem between_any (n a b : Int) (w : World) : Calls Tryz.prog 55 #[.int .i64 n, .int .i64 a, .int .i64 b] w fun e w' => e = .returned (.bool (bw n a b)) ∧ w' = w := by
  go_enter Tryz.func55, Tryz.ntmps55
  go_wp2
  all_goals
    go_ret
    exact ⟨ret_bool (by first | (simp_all [bw]; done) | (simp_all [bw]; omega)), rfl⟩

/-- A step as a value, and in a block. -/
abbrev sgV (s : Sg) : Value := .agg #[.int .i64 s.k, .int .i64 s.c, .int .i64 s.l, .int .i64 s.n, .int .i64 s.a, .int .u16 s.m, .int .i64 s.ok, .int .i64 s.op, .int .i64 s.oo, .complex .f64 s.v.1 s.v.2]
abbrev sgO (s : Sg) : Obj := .cells #[.int .i64 s.k, .int .i64 s.c, .int .i64 s.l, .int .i64 s.n, .int .i64 s.a, .int .u16 s.m, .int .i64 s.ok, .int .i64 s.op, .int .i64 s.oo, .complex .f64 s.v.1 s.v.2] 50

set_option maxHeartbeats 400000 in
theorem within_any (s : Sg) (w : World) : Calls Tryz.prog 28 #[sgV s] w fun x w' => x = .returned (.bool (withinS s)) ∧ Below w.heap.size w w' := by
  have hB0 : Below w.heap.size w (w.alloc (sgO s)) := below_box _ _
  go_enter Tryz.func28, Tryz.ntmps28
  go_wp2_with (first
    | (go_at_call 55; refine (between_any _ _ _ _).mono ?_; rintro x w0 ⟨rfl, hw⟩; subst w0))
  all_goals
    go_ret
    exact ⟨ret_bool (by simp_all [withinS]), hB0⟩

end Go.Proofs.YtemldmjpanmdbaaGreatDoor

namespace Go.Proofs.YtemldmjpanmdbaaGreatDoor
open Go.RowKit
set_option linter.unusedVariables false

abbrev sgZ : Value := .agg #[.int .i64 0, .int .i64 0, .int .i64 0, .int .i64 0, .int .i64 0, .int .u16 0, .int .i64 0, .int .i64 0, .int .i64 0, .complex .f64 0 0]
def fz (a : Nat) : Bool := FloatKind.f64.format.order a 0 == some .eq

theorem run_equalIn_cplx {P : Program} (d : Nat) (t : TypeId) (k kk : FloatKind) (a b a' b' : Nat) (w : World) (h : P.underlying t = some (.complex kk)) : (Op.equalIn (d + 1) t (.complex k a b) (.complex k a' b')).run P w = .ok (Op.floatEq k a a' && Op.floatEq k b b') w := by
  simp [Op.equalIn, run_underlying h]
theorem fields50 : (Tryz.prog.fieldsOf 50).toList.map (fun f => (f.name, f.type, f.offset)) = [("Kind", 3, 0), ("Client", 3, 1), ("Lane", 3, 2), ("N", 3, 3), ("At", 3, 4), ("Mask", 45, 5), ("Op", 48, 6)] := by kernel_rfl
theorem fields48 : (Tryz.prog.fieldsOf 48).toList.map (fun f => (f.name, f.type, f.offset)) = [("Kind", 3, 0), ("Page", 3, 1), ("Obj", 3, 2), ("Value", 46, 3)] := by kernel_rfl
/-- Fields by what counts of them. -/
def eqF (d : Nat) (xs ys : Array Value) : List (String × TypeId × Nat) → Sem Bool
  | [] => pure true
  | f :: fs =>
    if f.1 ≠ "_" then do
      let a ← part f.2.1 xs f.2.2
      let b ← part f.2.1 ys f.2.2
      let r ← Op.equalIn d f.2.1 a b
      if (!r) = true then pure false else eqF d xs ys fs
    else eqF d xs ys fs
theorem eqF_eq (d : Nat) (xs ys : Array Value) : ∀ (l : List Field), Op.eqFields d xs ys l = eqF d xs ys (l.map fun f => (f.name, f.type, f.offset))
  | [] => rfl
  | f :: l => by simp only [Op.eqFields, eqF, List.map_cons, eqF_eq d xs ys l]
theorem eqx (W : World) (x y : Nat) :
    (Op.equalIn 10000 50 (.agg #[.int .i64 0, .int .i64 0, .int .i64 0, .int .i64 0, .int .i64 0, .int .u16 0, .int .i64 0, .int .i64 0, .int .i64 0, .complex .f64 x y]) sgZ).run Tryz.prog W =
      .ok (fz x && fz y) W := by
  rw [run_equalIn_agg W 9999 50 _ _ (by kernel_rfl) (by kernel_rfl), eqF_eq, fields50]
  have h0 : (Op.equalIn 9998 46 (Value.complex FloatKind.f64 x y) (Value.complex FloatKind.f64 0 0)).run Tryz.prog W = .ok (fz x && fz y) W := run_equalIn_cplx 9997 46 .f64 .f64 x y 0 0 W (by kernel_rfl)
  simp [eqF, go_sem]
  rw [h0]
  cases fz x <;> cases fz y <;> rfl

/-- A step held against the zero one. -/
theorem eq50 (W : World) (k c l n a m ok op oo : Int) (x y : Nat) :
    (Op.equalIn 10000 50 (.agg #[.int .i64 k, .int .i64 c, .int .i64 l, .int .i64 n, .int .i64 a, .int .u16 m, .int .i64 ok, .int .i64 op, .int .i64 oo, .complex .f64 x y]) sgZ).run Tryz.prog W =
      .ok (k == 0 && (c == 0 && (l == 0 && (n == 0 && (a == 0 && (m == 0 && (ok == 0 && (op == 0 && (oo == 0 && (fz x && fz y)))))))))) W := by
  obtain ((_ | k) | k) := k
  rotate_left
  · kernel_rfl
  · kernel_rfl
  obtain ((_ | c) | c) := c
  rotate_left
  · kernel_rfl
  · kernel_rfl
  obtain ((_ | l) | l) := l
  rotate_left
  · kernel_rfl
  · kernel_rfl
  obtain ((_ | n) | n) := n
  rotate_left
  · kernel_rfl
  · kernel_rfl
  obtain ((_ | a) | a) := a
  rotate_left
  · kernel_rfl
  · kernel_rfl
  obtain ((_ | m) | m) := m
  rotate_left
  · kernel_rfl
  · kernel_rfl
  obtain ((_ | ok) | ok) := ok
  rotate_left
  · kernel_rfl
  · kernel_rfl
  obtain ((_ | op) | op) := op
  rotate_left
  · kernel_rfl
  · kernel_rfl
  obtain ((_ | oo) | oo) := oo
  rotate_left
  · kernel_rfl
  · kernel_rfl
  exact eqx W x y

/-- Is there nothing in a step? -/
def nothingB (s : Sg) : Bool := s.k == 0 && (s.c == 0 && (s.l == 0 && (s.n == 0 && (s.a == 0 && (s.m == 0 && (s.ok == 0 && (s.op == 0 && (s.oo == 0 && (formN s.v.1 == 0 && formN s.v.2 == 0)))))))))
theorem formN_zero {a : Nat} (h : formN a = 0) : a = 0 := by
  unfold formN at h
  split at h
  · cases h
  · exact h
theorem nothing_any (s : Sg) (w : World) : Calls Tryz.prog 29 #[sgV s] w fun x w' => x = .returned (.bool (nothingB s)) ∧ Below w.heap.size w w' := by
  obtain ⟨k, c, l, n, a, m, ok, op, oo, x, y⟩ := s
  have hB0 : Below w.heap.size w (w.alloc (sgO ⟨k, c, l, n, a, m, ok, op, oo, x, y⟩)) := below_box _ _
  have hq := fun W => eq50 W k c l n a m ok op oo x y
  have hr : nothingB ⟨k, c, l, n, a, m, ok, op, oo, x, y⟩ = ((k == 0 && (c == 0 && (l == 0 && (n == 0 && (a == 0 && (m == 0 && (ok == 0 && (op == 0 && (oo == 0 && (fz x && fz y)))))))))) && sameB x y 0 0) := by
    unfold nothingB sameB
    have f0 : formN 0 = 0 := by kernel_rfl
    rw [f0]
    simp only
    by_cases hx : formN x = 0
    · by_cases hy : formN y = 0
      · have e1 := formN_zero hx
        have e2 := formN_zero hy
        subst e1 e2
        have z0 : fz 0 = true := by kernel_rfl
        simp [z0, f0]
      · have h1 : (formN y == 0) = false := beq_eq_false_iff_ne.2 hy
        have h2 : ((formN y : Int) == ((0 : Nat) : Int)) = false := beq_eq_false_iff_ne.2 (by omega)
        rw [h1, h2]; simp
    · have h1 : (formN x == 0) = false := beq_eq_false_iff_ne.2 hx
      have h2 : ((formN x : Int) == ((0 : Nat) : Int)) = false := beq_eq_false_iff_ne.2 (by omega)
      rw [h1, h2]; simp
  generalize (k == 0 && (c == 0 && (l == 0 && (n == 0 && (a == 0 && (m == 0 && (ok == 0 && (op == 0 && (oo == 0 && (fz x && fz y)))))))))) = E at hq hr
  rw [hr]
  clear hr
  go_enter Tryz.func29, Tryz.ntmps29
  go_wp2_with (first
    | (go_at_call 56; refine (same_any _ _ _ _ _).mono ?_; rintro x w0 ⟨rfl, hw⟩; subst w0))
  all_goals
    go_ret
    exact ⟨ret_bool (by simp_all), hB0⟩
end Go.Proofs.YtemldmjpanmdbaaGreatDoor

namespace Go.Proofs.YtemldmjpanmdbaaGreatDoor
open Go.RowKit
set_option linter.unusedVariables false

/-- A step without those parts that its kind has. -/
def forS (s : Sg) : Sg :=
  ⟨0, if kC s.k then 0 else s.c, if kL s.k then 0 else s.l, if kN s.k then 0 else s.n, if kA s.k then 0 else s.a, if kM s.k then 0 else s.m,
    if kO s.k then 0 else s.ok, if kO s.k then 0 else s.op, if kO s.k then 0 else s.oo, if kO s.k then (0, 0) else s.v⟩

set_option maxHeartbeats 4000000 in
set_option maxRecDepth 100000 in
theorem foreign_any (s : Sg) (w : World) : Calls Tryz.prog 27 #[sgV s] w fun x w' => x = .returned (.tuple #[if bw s.k 0 14 then sgV (forS s) else sgZ, .bool (bw s.k 0 14)]) ∧ Below w.heap.size w w' := by
  obtain ⟨k, c, l, n, a, m, ok, op, oo, x, y⟩ := s
  have hst := fun (ad : Addr) (re im : Nat) (W : World) => run_store Tryz.prog W ad (.complex .f64 re im) .plain rfl
  by_cases hk : bw k 0 14 = true
  · have hk2 := (bw_iff _ _ _).1 hk
    have : k = 0 ∨ k = 1 ∨ k = 2 ∨ k = 3 ∨ k = 4 ∨ k = 5 ∨ k = 6 ∨ k = 7 ∨ k = 8 ∨ k = 9 ∨ k = 10 ∨ k = 11 ∨ k = 12 ∨ k = 13 ∨ k = 14 := by omega
    clear hk hk2
    rcases this with rfl | rfl | rfl | rfl | rfl | rfl | rfl | rfl | rfl | rfl | rfl | rfl | rfl | rfl | rfl
    all_goals
      go_enter Tryz.func27, Tryz.ntmps27
      go_wp2
      refine bodyPost_ret (by simp [results, Tryz.results27, go_sem]; try rfl) rfl ?_
      exact ⟨rfl, by go_grown⟩
  · have hn : bw k 0 14 = false := by simpa using hk
    have hk2 : ¬ (0 ≤ k ∧ k ≤ 14) := fun h => hk ((bw_iff _ _ _).2 h)
    have h0 : k ≠ 0 := by omega
    have h1 : k ≠ 1 := by omega
    have h2 : k ≠ 2 := by omega
    have h3 : k ≠ 3 := by omega
    have h4 : k ≠ 4 := by omega
    have h5 : k ≠ 5 := by omega
    have h6 : k ≠ 6 := by omega
    have h7 : k ≠ 7 := by omega
    have h8 : k ≠ 8 := by omega
    have h9 : k ≠ 9 := by omega
    have ha : k ≠ 10 := by omega
    have hb : k ≠ 11 := by omega
    have hc : k ≠ 12 := by omega
    have hd : k ≠ 13 := by omega
    have he : k ≠ 14 := by omega
    simp only
    rw [hn]
    clear hk2 hn hk
    go_enter Tryz.func27, Tryz.ntmps27
    go_wp2
    refine bodyPost_ret (by simp [results, Tryz.results27, go_sem]; try rfl) rfl ?_
    exact ⟨rfl, by go_grown⟩
end Go.Proofs.YtemldmjpanmdbaaGreatDoor

namespace Go.Proofs.YtemldmjpanmdbaaGreatDoor
open Go.RowKit
set_option linter.unusedVariables false

theorem nothing_for (s : Sg) : nothingB (forS s) = ownS s := by
  obtain ⟨k, c, l, n, a, m, ok, op, oo, v⟩ := s
  have f0 : formN 0 = 0 := by kernel_rfl
  unfold nothingB forS ownS opZ
  simp only
  generalize kC k = b1
  generalize kO k = b2
  generalize kL k = b3
  generalize kN k = b4
  generalize kA k = b5
  generalize kM k = b6
  cases b1 <;> cases b2 <;> cases b3 <;> cases b4 <;> cases b5 <;> cases b6 <;> simp [f0] <;> ac_rfl

/-- A step lies in a block. -/
def SgAt (w : World) (g : Nat) (s : Sg) : Prop := w.heap[g]? = some (sgO s)
theorem SgAt.lt {w : World} {g : Nat} {s : Sg} (h : SgAt w g s) : g < w.heap.size := (Array.getElem?_eq_some_iff.1 h).1
theorem SgAt.below {w w' : World} {g : Nat} {s : Sg} (h : SgAt w g s) (hb : Below w.heap.size w w') : SgAt w' g s := (hb.block g h.lt).trans h
theorem SgAt.new (w : World) (s : Sg) : SgAt (w.alloc (sgO s)) w.heap.size s := heap_alloc_new w _
theorem SgAt.cells {w : World} {g : Nat} {s : Sg} (h : SgAt w g s) : w.cell? ⟨g, 0, none⟩ = some (.int .i64 s.k) ∧ w.cell? ⟨g, 1, none⟩ = some (.int .i64 s.c) ∧ w.cell? ⟨g, 2, none⟩ = some (.int .i64 s.l) ∧
    w.cell? ⟨g, 3, none⟩ = some (.int .i64 s.n) ∧ w.cell? ⟨g, 4, none⟩ = some (.int .i64 s.a) ∧ w.cell? ⟨g, 5, none⟩ = some (.int .u16 s.m) ∧ w.cell? ⟨g, 6, none⟩ = some (.int .i64 s.ok) ∧
    w.cell? ⟨g, 7, none⟩ = some (.int .i64 s.op) ∧ w.cell? ⟨g, 8, none⟩ = some (.int .i64 s.oo) ∧ w.cell? ⟨g, 9, none⟩ = some (.complex .f64 s.v.1 s.v.2) := by
  refine ⟨?_, ?_, ?_, ?_, ?_, ?_, ?_, ?_, ?_, ?_⟩ <;> (rw [cell_of_row _ _ _ _ _ _ h]; rfl)

set_option maxHeartbeats 1600000 in
theorem rightStep_any (s : Sg) (w : World) : Calls Tryz.prog 14 #[sgV s] w fun x w' => x = .returned (.bool (rightS s)) ∧ Below w.heap.size w w' := by
  have hst := fun (ad : Addr) (re im : Nat) (W : World) => run_store Tryz.prog W ad (.complex .f64 re im) .plain rfl
  have hB0 : Below w.heap.size w (w.alloc (sgO s)) := below_box _ _
  have hR : rightS s = (bw s.k 0 14 && withinS s && nothingB (forS s)) := by rw [nothing_for]; rfl
  rw [hR]
  clear hR
  generalize hF : forS s = F
  have HF := fun w => foreign_any s w
  rw [hF] at HF
  clear hF
  cases hb : bw s.k 0 14
  · rw [hb] at HF
    simp only [Bool.false_eq_true, if_false] at HF
    go_enter Tryz.func14, Tryz.ntmps14
    go_wp2_with (first
      | (go_at_call 27; refine (HF _).mono ?_; rintro x w1 ⟨rfl, hb1⟩; have hB1 : Below w.heap.size w w1 := hB0.trans (hb1.mono (by simp))))
    go_ret
    exact ⟨rfl, hB1.alloc hB1.size _⟩
  · rw [hb] at HF
    simp only [if_true] at HF
    obtain ⟨Fk, Fc, Fl, Fn, Fa, Fm, Fok, Fop, Foo, Fx, Fy⟩ := F
    obtain ⟨k, c, l, n, a, m, ok, op, oo, vx, vy⟩ := s
    have hs := SgAt.new w ⟨k, c, l, n, a, m, ok, op, oo, vx, vy⟩
    go_enter Tryz.func14, Tryz.ntmps14
    go_upto_region 2 with (first
      | (go_at_call 27; refine (HF _).mono ?_; rintro x w1 ⟨rfl, hb1⟩; have hB1 : Below w.heap.size w w1 := hB0.trans (hb1.mono (by simp))))
    have hs1 := hs.below hb1
    have hlt := hs1.lt
    have hs2 := hs1.below (below_box w1 (sgO ⟨Fk, Fc, Fl, Fn, Fa, Fm, Fok, Fop, Foo, Fx, Fy⟩))
    have hf := SgAt.new w1 ⟨Fk, Fc, Fl, Fn, Fa, Fm, Fok, Fop, Foo, Fx, Fy⟩
    have hB2 := hB1.alloc hB1.size (sgO ⟨Fk, Fc, Fl, Fn, Fa, Fm, Fok, Fop, Foo, Fx, Fy⟩)
    generalize w1.alloc (sgO ⟨Fk, Fc, Fl, Fn, Fa, Fm, Fok, Fop, Foo, Fx, Fy⟩) = W at *
    obtain ⟨a0, a1, a2, a3, a4, a5, a6, a7, a8, a9⟩ := hs2.cells
    have HFA : Hid (SgAt W w1.heap.size ⟨Fk, Fc, Fl, Fn, Fa, Fm, Fok, Fop, Foo, Fx, Fy⟩) := hf
    have HB2 : Hid (Below w.heap.size w W) := hB2
    simp only at a0 a1 a2 a3 a4 a5 a6 a7 a8 a9
    clear hs hs1 hs2 hf hB2 hB1 hb1 hB0 HF hst
    go_wp2_with (first
      | (go_at_call 28; refine (within_any ⟨k, c, l, n, a, m, ok, op, oo, vx, vy⟩ _).mono ?_; rintro x w2 ⟨rfl, hb2⟩; have hC2 : Below w.heap.size w w2 := HB2.out.trans (hb2.mono HB2.out.size); obtain ⟨b0, b1, b2, b3, b4, b5, b6, b7, b8, b9⟩ := (HFA.out.below hb2).cells; simp only at b0 b1 b2 b3 b4 b5 b6 b7 b8 b9)
      | (go_at_call 29; refine (nothing_any ⟨Fk, Fc, Fl, Fn, Fa, Fm, Fok, Fop, Foo, Fx, Fy⟩ _).mono ?_; rintro x w3 ⟨rfl, hb3⟩; have hC3 : Below w.heap.size w w3 := hC2.trans (hb3.mono hC2.size)))
    all_goals
      go_ret
      refine ⟨ret_bool (by simp_all), ?_⟩
      first | exact hC3 | exact hC2
end Go.Proofs.YtemldmjpanmdbaaGreatDoor
