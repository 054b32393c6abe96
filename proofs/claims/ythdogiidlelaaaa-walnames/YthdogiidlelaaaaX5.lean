/- The chapter's example, walked. -/
import Derived.Test.YthdogiidlelaaaaX3
import Derived.Test.YthdogiidlelaaaaX4
namespace Go.Proofs.Ythdogiidlelaaaa
open Go.RowKit
set_option linter.unusedVariables false

/-- The put of the example. -/
abbrev oneP : PutG := ⟨2, 3, (4607182418800017408, 4611686018427387904)⟩

/-- A commit of the example. -/
abbrev bt (k t : Nat) : Bt := ⟨k, 1, 1, t, [oneP]⟩

theorem bt_ok (k t : Nat) (hk : 1 ≤ k ∧ k ≤ 16777215) (ht : 1 ≤ t ∧ t ≤ 16777215) : BtOk (bt k t) := by
  refine ⟨hk, by show 1 ≤ 3; omega, ⟨by show 1 ≤ 1; omega, by show 1 ≤ 16777215; omega⟩, ht, ⟨by simp, ?_, ?_⟩⟩
  · intro p hp
    simp only [List.mem_cons, List.not_mem_nil, or_false] at hp
    subst hp
    exact ⟨by decide, by decide, by constructor <;> decide⟩
  · intro i p q hp hq
    simp at hq

abbrev oneO : Obj := .cells #[.int .i64 2, .int .i64 3, .complex .f64 4607182418800017408 4611686018427387904] 61

theorem one_rd (w : World) : RdP (w.alloc oneO) (some ⟨w.heap.size, 0, none⟩) 1 1 [oneP] := by
  have h := heap_alloc_new w oneO
  refine ⟨rfl, fun t ht => ?_⟩
  simp only [List.length_cons, List.length_nil] at ht
  obtain rfl : t = 0 := by omega
  refine ⟨w.heap.size, 0, rfl, by simp, ?_, ?_, ?_⟩
  all_goals rw [cell_of_row _ _ _ _ _ _ h]; rfl

theorem RdP.other {w : World} {ao : Option Addr} {n cap : Nat} {ps : List PutG} (h : RdP w ao n cap ps) (p : Addr) (v : Value) (hne : ∀ a, ao = some a → a.block ≠ p.block) : RdP (w.setCell p v) ao n cap ps := by
  refine ⟨h.len, fun t ht => ?_⟩
  obtain ⟨b, off, e, hlt, h1, h2, h3⟩ := h.cell t ht
  have hb : (w.setCell p v).heap[b]? = w.heap[b]? := Below.heap_setCell _ _ _ _ (hne _ e)
  exact ⟨b, off, e, by simpa [World.setCell] using hlt, (World.cell?_of_block (w := w) hb).trans h1, (World.cell?_of_block (w := w) hb).trans h2, (World.cell?_of_block (w := w) hb).trans h3⟩

set_option maxHeartbeats 400000 in
theorem one_any (t : Int) (w : World) :
    Calls Try.prog 16 #[.int .i64 t] w fun x w' => ∃ ap, x = .returned (btV 0 1 1 t ap 1 1) ∧ RdP w' ap 1 1 [oneP] ∧ Below w.heap.size w w' := by
  have hz := (BtAt.new w 0 1 1 t (some ⟨w.heap.size + 1, 0, none⟩) 1 1).below (below_box (w.alloc (btO 0 1 1 t (some ⟨w.heap.size + 1, 0, none⟩) 1 1)) oneO)
  have hr := one_rd (w.alloc (btO 0 1 1 t (some ⟨w.heap.size + 1, 0, none⟩) 1 1))
  rw [show (w.alloc (btO 0 1 1 t (some ⟨w.heap.size + 1, 0, none⟩) 1 1)).heap.size = w.heap.size + 1 by simp] at hr
  have x0 := hz.c0
  have x1 := hz.c1
  have x2 := hz.c2
  have x3 := hz.c3
  have x4 := hz.c4
  clear hz
  have hst := fun (ad : Addr) (re im : Nat) (W : World) => run_store Try.prog W ad (.complex .f64 re im) .plain rfl
  go_enter Try.func16, Try.ntmps16
  go_wp2
  refine bodyPost_ret (by simp [results, Try.results16, go_sem]; try rfl) rfl ?_
  exact ⟨_, rfl, hr, ((Below.refl _ _).alloc (Nat.le_refl _) _).alloc (by simp) _⟩

theorem rowN_app (L : List Bt) (b : Bt) : rowN L ++ wbN b = rowN (L ++ [b]) := by
  simp [rowN, List.flatMap_append]

/-- One more commit of the example. -/
theorem app_one (k t : Nat) (L : List Bt) (B gl g : Nat) (ao : Option Addr) (n cap s last : Nat) (ap : Option Addr) (w : World) (h : LogAt w B gl g ao n cap (rowN L) s 500 last) (hp : RdP w ap 1 1 [oneP]) (hk : k = last + 1) (hk2 : k ≤ 16777215) (ht : 1 ≤ t ∧ t ≤ 16777215) (hfit : n + 42 ≤ 500) :
    Calls Try.prog 6 #[tp gl, btV 0 1 1 (t : Int) ap 1 1] w fun x w' => x = .returned (.tuple #[.int .i64 (k : Int), .int .i64 0]) ∧ ∃ ao2 cap2, LogAt w' B gl g ao2 (n + 42) cap2 (rowN (L ++ [bt k t])) s 500 k ∧ Below B w w' := by
  subst hk
  rw [← rowN_app]
  exact append_log B gl g ao n cap (rowN L) s 500 last (bt (last + 1) t) 0 ap 1 1 w h hp rfl (bt_ok _ _ ⟨by omega, hk2⟩ ht) hfit

abbrev L1 : List Bt := [bt 1 1]
abbrev L2 : List Bt := [bt 1 1, bt 2 2]
abbrev L3 : List Bt := [bt 1 1, bt 2 2, bt 3 3]
abbrev L4 : List Bt := [bt 1 1, bt 2 2, bt 3 4]

theorem al1 (B gl g : Nat) (ao : Option Addr) (cap : Nat) (ap : Option Addr) (w : World) (h : LogAt w B gl g ao 0 cap (rowN []) 0 500 0) (hp : RdP w ap 1 1 [oneP]) :
    Calls Try.prog 6 #[tp gl, btV 0 1 1 1 ap 1 1] w fun x w' => x = .returned (.tuple #[.int .i64 1, .int .i64 0]) ∧ ∃ ao2 cap2, LogAt w' B gl g ao2 42 cap2 (rowN L1) 0 500 1 ∧ Below B w w' :=
  app_one 1 1 [] B gl g ao 0 cap 0 0 ap w h hp rfl (by omega) (by omega) (by omega)

theorem al2 (B gl g : Nat) (ao : Option Addr) (cap : Nat) (ap : Option Addr) (w : World) (h : LogAt w B gl g ao 42 cap (rowN L1) 0 500 1) (hp : RdP w ap 1 1 [oneP]) :
    Calls Try.prog 6 #[tp gl, btV 0 1 1 2 ap 1 1] w fun x w' => x = .returned (.tuple #[.int .i64 2, .int .i64 0]) ∧ ∃ ao2 cap2, LogAt w' B gl g ao2 84 cap2 (rowN L2) 0 500 2 ∧ Below B w w' :=
  app_one 2 2 L1 B gl g ao 42 cap 0 1 ap w h hp rfl (by omega) (by omega) (by omega)

theorem al3 (B gl g : Nat) (ao : Option Addr) (cap : Nat) (ap : Option Addr) (w : World) (h : LogAt w B gl g ao 84 cap (rowN L2) 84 500 2) (hp : RdP w ap 1 1 [oneP]) :
    Calls Try.prog 6 #[tp gl, btV 0 1 1 3 ap 1 1] w fun x w' => x = .returned (.tuple #[.int .i64 3, .int .i64 0]) ∧ ∃ ao2 cap2, LogAt w' B gl g ao2 126 cap2 (rowN L2 ++ wbN (bt 3 3)) 84 500 3 ∧ Below B w w' := by
  rw [rowN_app]
  exact app_one 3 3 L2 B gl g ao 84 cap 84 2 ap w h hp rfl (by omega) (by omega) (by omega)

theorem al4 (B gl g : Nat) (ao : Option Addr) (cap : Nat) (ap : Option Addr) (w : World) (h : LogAt w B gl g ao 84 cap (rowN L2) 84 500 2) (hp : RdP w ap 1 1 [oneP]) :
    Calls Try.prog 6 #[tp gl, btV 0 1 1 4 ap 1 1] w fun x w' => x = .returned (.tuple #[.int .i64 3, .int .i64 0]) ∧ ∃ ao2 cap2, LogAt w' B gl g ao2 126 cap2 (rowN L4) 84 500 3 ∧ Below B w w' :=
  app_one 3 4 L2 B gl g ao 84 cap 84 2 ap w h hp rfl (by omega) (by omega) (by omega)

theorem len2 : (rowN L2).length = 84 := by
  simp only [rowN, List.flatMap_cons, List.flatMap_nil, List.append_nil, List.length_append, wbN_length]
  rfl

theorem L2_ok : ∀ b ∈ L2, BtOk b := by
  intro b hb
  simp only [List.mem_cons, List.not_mem_nil, or_false] at hb
  rcases hb with rfl | rfl
  all_goals exact bt_ok _ _ (by omega) (by omega)

theorem L4_ok : ∀ b ∈ L4, BtOk b := by
  intro b hb
  simp only [List.mem_cons, List.not_mem_nil, or_false] at hb
  rcases hb with rfl | rfl | rfl
  all_goals exact bt_ok _ _ (by omega) (by omega)

theorem chain0 : Chain [] := by intro i p q hp hq; simp at hp

theorem chain2 : Chain L2 := by
  intro i p q hp hq
  match i, hp, hq with
  | 0, hp, hq => simp at hp hq; subst hp hq; rfl
  | 1, hp, hq => simp at hq
  | i + 2, hp, hq => simp at hp

theorem chain4 : Chain L4 := by
  intro i p q hp hq
  match i, hp, hq with
  | 0, hp, hq => simp at hp hq; subst hp hq; rfl
  | 1, hp, hq => simp at hp hq; subst hp hq; rfl
  | 2, hp, hq => simp at hq
  | i + 3, hp, hq => simp at hp

theorem dur2 (B gl g : Nat) (ao : Option Addr) (cap : Nat) (w : World) (h : LogAt w B gl g ao 126 cap (rowN L2 ++ wbN (bt 3 3)) 84 500 3) :
    Calls Try.prog 18 #[tp gl] w fun x w' => x = .returned (.int .i64 2) ∧ Below w.heap.size w w' :=
  durable_log B gl g ao 126 cap L2 _ 84 500 3 w h len2.symm L2_ok chain2

theorem op0 (B g : Nat) (w : World) (h : Tp w B g none 0 0 [] 0 500) :
    Calls Try.prog 4 #[tp g] w fun x w' => ∃ gl, x = .returned (tp gl) ∧ LogAt w' B gl g none 0 0 (rowN []) 0 500 0 ∧ Below B w w' ∧ w.heap.size ≤ gl :=
  open_log B g none 0 0 [] 0 500 w h (by simp) chain0

theorem op2 (B g : Nat) (ao : Option Addr) (cap : Nat) (w : World) (h : Tp w B g ao 84 cap (rowN L2) 84 500) :
    Calls Try.prog 4 #[tp g] w fun x w' => ∃ gl, x = .returned (tp gl) ∧ LogAt w' B gl g ao 84 cap (rowN L2) 84 500 2 ∧ Below B w w' ∧ w.heap.size ≤ gl :=
  open_log B g ao 84 cap L2 84 500 w h L2_ok chain2

theorem cr2 (B g : Nat) (ao : Option Addr) (cap : Nat) (w : World) (h : Tp w B g ao 126 cap (rowN L2 ++ wbN (bt 3 3)) 84 500) :
    Calls Try.prog 20 #[tp g, .int .i64 0] w fun e w' => e = .returned (.tuple #[]) ∧ Tp w' B g ao 84 cap (rowN L2) 84 500 ∧ Off2 g ao w w' ∧ w'.heap.size = w.heap.size :=
  crash_at B g ao 126 cap _ 84 500 w h 0 84 _ (by decide) (by rw [← len2, List.take_left])

theorem com4 (B gl g : Nat) (ao : Option Addr) (cap : Nat) (w : World) (h : LogAt w B gl g ao 126 cap (rowN L4) 84 500 3) :
    Calls Try.prog 21 #[tp gl] w fun x w' => ∃ ao' cap', x = .returned (.slice ao' 3 cap') ∧ Below w.heap.size w w' :=
  commits_log B gl g ao 126 cap L4 84 500 3 w h L4_ok chain4

end Go.Proofs.Ythdogiidlelaaaa
