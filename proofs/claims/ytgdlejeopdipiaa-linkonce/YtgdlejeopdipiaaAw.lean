/- All comes: the walk. -/
import Derived.Test.YtgdlejeopdipiaaDu
import Derived.Test.YtgdlejeopdipiaaSg
import Derived.BigQuiet
namespace Go.Proofs.Ytgdlejeopdipiaa
open Go.RowKit
set_option linter.unusedVariables false

theorem bel1 {a b : World} (h : Below a.drew.heap.size a.drew b) : Below a.heap.size a b := ⟨h.os, h.tape, h.output, h.size, h.block⟩
theorem bel3 {a x b : World} {o : Obj} (h : Below a.heap.size a x) (k : Below (x.alloc o).heap.size (x.alloc o) b) : Below a.heap.size a b := below_step (below_step h ((Below.refl _ _).alloc (Nat.le_refl _) o)) k
theorem bel4 {a b : World} {o : Obj} (k : Below (a.alloc o).drew.heap.size (a.alloc o).drew b) : Below a.heap.size a b := below_step ((Below.refl _ _).alloc (Nat.le_refl _) o) (bel1 k)
theorem bel0 (a : World) : Below a.heap.size a a.drew := ⟨rfl, rfl, rfl, Nat.le_refl _, fun _ _ => rfl⟩
theorem belA {a b : World} (h : Below a.heap.size a b) (o : Obj) : Below a.heap.size a (b.alloc o) := below_step h ((Below.refl _ _).alloc (Nat.le_refl _) o)
theorem belD (a : World) (o : Obj) : Below a.heap.size a (a.alloc o).drew := below_step ((Below.refl _ _).alloc (Nat.le_refl _) o) (bel0 _)

abbrev Z49 : Obj := .cells #[.pointer none, .pointer none] 49
theorem blk_of {b : World} {q : Nat} (h : b.heap[q]? = some Z49) : b.cell? ⟨q, 0, none⟩ = some (.pointer none) ∧ b.cell? ⟨q, 1, none⟩ = some (.pointer none) ∧ b.frozen? ⟨q, 0, none⟩ = false ∧ b.frozen? ⟨q, 1, none⟩ = false :=
  ⟨by rw [cell_of_row _ _ _ _ _ _ h]; rfl, by rw [cell_of_row _ _ _ _ _ _ h]; rfl, frozen_of_row _ _ _ _ _ h, frozen_of_row _ _ _ _ _ h⟩
theorem blk_new {x b : World} (h : Below (x.alloc Z49).heap.size (x.alloc Z49) b) : b.heap[x.heap.size]? = some Z49 := (h.block _ (by simp)).trans (heap_alloc_new x Z49)
theorem blk_newD {x b : World} (h : Below (x.alloc Z49).drew.heap.size (x.alloc Z49).drew b) : b.heap[x.heap.size]? = some Z49 := blk_new (bel1 h)
theorem blk_keep {a b : World} {q : Nat} (h : a.heap[q]? = some Z49) (k : Below a.heap.size a b) : b.heap[q]? = some Z49 := (k.block q (Array.getElem?_eq_some_iff.1 h).1).trans h
theorem belS {a b : World} (h : Below a.heap.size a b) {q : Nat} (hq : a.heap.size ≤ q) (u v : Value) : Below a.heap.size a ((b.setCell ⟨q, 0, none⟩ u).setCell ⟨q, 1, none⟩ v) := by
  have : ∀ k, k < a.heap.size → ((b.setCell ⟨q, 0, none⟩ u).setCell ⟨q, 1, none⟩ v).heap[k]? = b.heap[k]? := fun k hk => (Below.heap_setCell _ _ _ _ (by simp; omega)).trans (Below.heap_setCell _ _ _ _ (by simp; omega))
  exact ⟨h.os, h.tape, h.output, by simpa [World.setCell] using h.size, fun k hk => (this k hk).trans (h.block k hk)⟩
/-- The array is written behind both. -/
theorem blk_put {b : World} {q : Nat} (h : b.heap[q]? = some Z49) (u v : Value) : ((b.setCell ⟨q, 0, none⟩ u).setCell ⟨q, 1, none⟩ v).heap[q]? = some (.cells #[u, v] 49 (0, 0)) := by
  have h1 := heap_setCell_same b q 0 _ 49 u h
  rw [heap_setCell_same _ q 1 _ 49 v h1]
  rfl

theorem Lk.new0 {w : World} {B g : Nat} {I : LkI} (H : Lh w g I (.slice none 0 0) 0 0) (hB : B ≤ g) : Lk w B g none 0 0 (fun _ => True) I [] 0 0 :=
  ⟨H, ⟨[], OwnS.nil _ _ _, Bys.nil _ _⟩, rfl, hB, by omega, by omega, by omega, by omega, by simp⟩
theorem Lh.other {w : World} {g q : Nat} {I : LkI} (H : Lh w g I (.slice none 0 0) 0 0) (hz : w.heap[q]? = some Z49) : g ≠ q := by
  rintro rfl
  obtain ⟨cs, h⟩ := H.ty
  rw [hz] at h
  simp at h
theorem duo_put {w : World} {B q g0 g1 : Nat} {P : PkG} (h0 : Lk w B g0 none 0 0 (fun _ => True) (idI P false) [] 0 0) (h1 : Lk w B g1 none 0 0 (fun _ => True) (idI P true) [] 0 0) (hz : w.heap[q]? = some Z49) (hne : g0 ≠ g1) (hq : B ≤ q) :
    Duo ((w.setCell ⟨q, 0, none⟩ (lp g0)).setCell ⟨q, 1, none⟩ (lp g1)) B q g0 g1 P En0 En0 := by
  have hk : ∀ g, g ≠ q → ((w.setCell ⟨q, 0, none⟩ (lp g0)).setCell ⟨q, 1, none⟩ (lp g1)).heap[g]? = w.heap[g]? := fun g hg => (Below.heap_setCell _ _ _ _ (by simpa using hg)).trans (Below.heap_setCell _ _ _ _ (by simpa using hg))
  exact Duo.mk' (Lk.new0 (h0.hd.keep (hk g0 (h0.hd.other hz))) h0.bg) (Lk.new0 (h1.hd.keep (hk g1 (h1.hd.other hz))) h1.bg) hne hq (0, 0) (blk_put hz _ _)
theorem duo_new {w : World} {B g0 g1 : Nat} {P : PkG} (h0 : Lk w B g0 none 0 0 (fun _ => True) (idI P false) [] 0 0) (h1 : Lk w B g1 none 0 0 (fun _ => True) (idI P true) [] 0 0) (hne : g0 ≠ g1) (hq : B ≤ w.heap.size) :
    Duo (w.alloc (.cells #[lp g0, lp g1] 49)) B w.heap.size g0 g1 P En0 En0 :=
  Duo.mk' (h0.below ((Below.refl _ _).alloc (Nat.le_refl _) _)) (h1.below ((Below.refl _ _).alloc (Nat.le_refl _) _)) hne hq (0, 0) (heap_alloc_new w _)
theorem sz1 (w : World) : (w.alloc Z49).heap.size = w.heap.size + 1 := by simp
theorem sz2 (w : World) : (w.alloc Z49).drew.heap.size = w.heap.size + 1 := by show (w.alloc Z49).heap.size = _; simp

/-- A step in a block of its own. -/
abbrev stO (kd nn : Int) (v : Value) : Obj := .cells #[.int .i64 kd, .int .i64 nn, v] 53
theorem kt_cell {w w' : World} (hk : KT w w') {q : Nat} {cs : Array Value} {e : TypeId} {fr : Nat × Nat} (h : w.heap[q]? = some (.cells cs e fr)) (h1 : e ≠ 59) (h2 : e ≠ 27) (j : Nat) : w'.cell? ⟨q, j, none⟩ = w.cell? ⟨q, j, none⟩ :=
  World.cell?_of_block (hk.block q cs e fr h h1 h2)
theorem psh_is {m n s : Nat} {E : Int} {n2 s2 : Nat} (hE : pshE m n = E) (hn : pshN m n n = n2) (hs : pshN m n s = s2) : (E = 0 → n2 = n + 1 ∧ s2 = s + 1) ∧ (¬ E = 0 → n2 = n ∧ s2 = s) := by
  subst hE
  unfold pshN at hn hs
  constructor
  · intro h; rw [if_pos h] at hn hs; omega
  · intro h; rw [if_neg h] at hn hs; omega
/-- What a link holds of a packet of the other end. -/
theorem got_facts {P : PkG} {b0 b1 : Bool} (hb : b0 ≠ b1) {hX : Nat} {sq : Int} {bs : List Nat} {n s h : Nat} (hn : n ≤ s) (hx : hX ≤ s) (hk : s - n ≤ hX) :
    n - gotC (idI P b1) n s (mkPk (idI P b0) hX sq bs) = s - hX ∧ gotB (idI P b1) s h (mkPk (idI P b0) hX sq bs) = (sq == (h : Int) + 1) := by
  have h1 : (b0 != b1) = true := by simpa using hb
  have h2 : decide ((hX : Int) ≤ (s : Int)) = true := by simp; omega
  have hf : fitB (idI P b1) s (mkPk (idI P b0) hX sq bs) = true := by
    show (P.cl == P.cl && P.ep == P.ep && P.bo == P.bo && b0 != b1 && decide ((hX : Int) ≤ (s : Int))) = true
    rw [h1, h2]
    simp
  refine ⟨?_, ?_⟩
  rotate_left
  · show (fitB (idI P b1) s (mkPk (idI P b0) hX sq bs) && sq == (h : Int) + 1) = _
    rw [hf, Bool.true_and]
  unfold gotC
  rw [if_pos hf]
  show n - came n s (hX : Int) = s - hX
  unfold came
  omega
theorem pks_len (I : LkI) (L : List (List Nat)) (s h : Nat) : (pksOf I L s h).length = max 1 L.length := by
  unfold pksOf
  split
  · rename_i e; subst e; rfl
  · rename_i e
    rw [pksFrom_length]
    have : 0 < L.length := List.length_pos_iff.2 e
    omega
theorem pks_get (I : LkI) (L : List (List Nat)) (s h n : Nat) (hl : L.length = n) (j : Nat) (hj : j < (pksOf I L s h).length) : ∃ b, (pksOf I L s h)[j]? = some (mkPk I h (if n = 0 then 0 else (s : Int) - (n : Int) + 1 + (j : Int)) b) ∧ (b = [] ∨ b ∈ L) := by
  by_cases h0 : n = 0
  · have e : L = [] := List.eq_nil_of_length_eq_zero (by omega)
    subst e
    have : j = 0 := by simp [pks_len] at hj; omega
    subst this
    refine ⟨[], ?_, .inl rfl⟩
    rw [if_pos h0]
    rfl
  · have hj' : j < L.length := by rw [pks_len] at hj; omega
    refine ⟨L[j], ?_, .inr (List.getElem_mem _)⟩
    rw [if_neg h0]
    have h9 := pksFrom_get I h L ((s : Int) - (n : Int) + 1) j hj'
    have e9 : (s : Int) - (L.length : Int) + 1 = (s : Int) - (n : Int) + 1 := by rw [hl]
    unfold pksOf
    rw [if_neg (by intro e; subst e; simp at hl; omega), e9]
    exact h9
theorem pks_at {W : World} {base : Nat} {V : Nat → Prop} {a : Option Addr} {M c : Nat} {I : LkI} {L : List (List Nat)} {s h n : Nat} (hp : Pks W base V (.slice a M c) (pksOf I L s h)) (hl : L.length = n) (hsz : ∀ bs ∈ L, bs.length ≤ 700) (hM : (pksOf I L s h).length = M) (j : Nat) (hj : j < M) :
    ∃ g6 b au mu cu, a = some ⟨g6, 0, none⟩ ∧ PkIn W g6 (j * 7) (mkPk I h (if n = 0 then 0 else (s : Int) - (n : Int) + 1 + (j : Int)) b) (.slice au mu cu) ∧ By W V (.slice au mu cu) b ∧ b.length ≤ 700 := by
  obtain ⟨g6, c6, u, e, _, h1, h2⟩ := hp.at j (by omega)
  obtain ⟨b, hb, hm⟩ := pks_get I L s h n hl j (by omega)
  have h3 : (pksOf I L s h)[j]? = some ((pksOf I L s h)[j]'(by omega)) := by simp
  rw [hb] at h3
  simp only [Option.some.injEq] at h3
  rw [← h3] at h1 h2
  have h4 := h2
  obtain ⟨au, mu, cu, rfl, -⟩ := h4
  simp only [Value.slice.injEq] at e
  refine ⟨g6, b, au, mu, cu, e.1, h1, h2, ?_⟩
  rcases hm with rfl | hm
  · simp
  · exact hsz b hm
theorem Duo.below2 {w w' : World} {B ge g0 g1 : Nat} {P : PkG} {X Y : En} (D : Duo w B ge g0 g1 P X Y) (hh : w'.heap = w.heap) : Duo w' B ge g0 g1 P X Y := by
  have hk : KT w w' := ⟨by rw [hh]; exact Nat.le_refl _, fun _ _ _ _ _ _ _ => by rw [hh]⟩
  exact ⟨(World.cell?_of_block (w := w) (w' := w') (a := ⟨ge, 0, none⟩) (by rw [hh])).trans D.e0, (World.cell?_of_block (w := w) (w' := w') (a := ⟨ge, 1, none⟩) (by rw [hh])).trans D.e1, by rw [hh]; exact D.et, D.k0.keep hk (by rw [hh]) (fun _ _ => by rw [hh]), D.k1.keep hk (by rw [hh]) (fun _ _ => by rw [hh]), D.ne, D.ra, D.bg⟩
theorem below_drN {B : Nat} {a b : World} (h : Below B a b) (n : Nat) : Below B a (b.drewN n) := ⟨h.os, h.tape, h.output, h.size, h.block⟩
theorem open_z (w : World) (B g : Nat) (ao : Option Addr) (n cap : Nat) (V : Nat → Prop) (I : LkI) (L : List (List Nat)) (s h : Nat) (H : Lk w B g ao n cap V I L s h) (z : Int) (hz : (n : Int) = z) : Calls Try.prog 19 #[lp g] w fun e w' => e = .returned (.int .i64 z) ∧ w' = w := by
  subst hz
  exact open_any w B g ao n cap V I L s h H

set_option maxRecDepth 100000 in
set_option maxHeartbeats 6400000 in
theorem all_main (P0 : PkG) (a0 : Option Addr) (n0 c0 : Nat) (a1 : Option Addr) (c1 n1 : Nat) (A : List ActG) (w : World) (hA : ActsAt w a1 A) (hn : A.length = n1) (hm : n1 ≤ 100)
    (t1 : ¬ (P0.cl < 0)) (t2 : ¬ (3 < P0.cl)) (t3 : ¬ (P0.ep < 0)) (t4 : ¬ (16777215 < P0.ep)) (t5 : ¬ (P0.bo < 0)) (t6 : ¬ (16777215 < P0.bo)) :
    Calls Try.prog 6 #[pkV P0 (.slice a0 n0 c0), .slice a1 n1 c1] w fun e w' => e = .returned (.bool true) ∧ Below w.heap.size w w' := by
  have HA : Hid (ActsAt w a1 A ∧ A.length = n1) := ⟨hA, hn⟩
  have t0 : ¬ ((100 : Int) < (n1 : Int)) := by omega
  clear hA hn
  go_enter Try.func6, Try.ntmps6
  go_upto_region 5 with (first
    | (go_at_call 11; refine (alive_any _).mono ?_; rintro e w1 ⟨rfl, hb1⟩; have hP1 := (PkIn.new w P0 (.slice a0 n0 c0)).below hb1; have hB1 : Below w.heap.size w w1 := below_alloc (hb1.mono (by simp)); have i0 := hP1.c0; have i1 := hP1.c1; have i2 := hP1.c2; simp only [Nat.zero_add] at i1 i2))
  have hs1 := hB1.size
  have HP1 : Hid (PkIn w1 w.heap.size 0 P0 (.slice a0 n0 c0) ∧ w.heap.size < w1.heap.size) := ⟨hP1, by have := hb1.size; simp at this; omega⟩
  clear hP1 hb1
  go_cut [5] (fun v wx => ∃ ge g0 g1, v = .pointer (some ⟨ge, 0, none⟩) ∧ Hid (Duo wx w.heap.size ge g0 g1 P0 En0 En0) ∧ Below w.heap.size w wx)
  case first =>
    have KS : Hid (∀ W : World, Below w1.heap.size w1 W → W.cell? ⟨w.heap.size, 0, none⟩ = some (.int .i64 P0.cl) ∧ W.cell? ⟨w.heap.size, 1, none⟩ = some (.int .i64 P0.ep) ∧ W.cell? ⟨w.heap.size, 2, none⟩ = some (.int .i64 P0.bo)) := fun W hW => by
      have h := HP1.out.1.below hW
      exact ⟨h.c0, h.c1, h.c2⟩
    go_region_held (fun W => W.cell? ⟨w.heap.size, 0, none⟩ = some (.int .i64 P0.cl) ∧ W.cell? ⟨w.heap.size, 1, none⟩ = some (.int .i64 P0.ep) ∧ W.cell? ⟨w.heap.size, 2, none⟩ = some (.int .i64 P0.bo))
          (first
            | with_reducible exact KS.out _ (bel0 w1)
            | with_reducible exact KS.out _ hBa
            | with_reducible exact KS.out _ hBb
            | with_reducible exact KS.out _ (belA hBa _)
            | with_reducible exact KS.out _ (belA hBb _)
            | with_reducible exact KS.out _ (belD w1 _)
            | with_reducible exact KS.out _ (belS hBa (Nat.le_refl _) _ _)
            | with_reducible exact KS.out _ (belS hBb (Nat.le_refl _) _ _)
            | with_reducible exact KS.out _ (belS hBa hBb.size _ _)
            | with_reducible exact KS.out _ (belS hBb hBa.size _ _)
            | fail)
          (first
            | (go_at_call 9; with_reducible refine (new_any P0.cl P0.ep P0.bo false _).mono ?_; rintro e wa ⟨rfl, hKa, hba⟩; have hBa : Below w1.heap.size w1 wa := (by first | exact bel1 hba | exact below_step hBb hba | exact bel3 hBb hba | exact bel4 hba); (try (have zA := blk_new hba; obtain ⟨z0, z1, z2, z3⟩ := blk_of zA)); (try (have zA := blk_newD hba; obtain ⟨z0, z1, z2, z3⟩ := blk_of zA)); (try (have zA := blk_keep zB hba; obtain ⟨z0, z1, z2, z3⟩ := blk_of zA)))
            | (go_at_call 9; with_reducible refine (new_any P0.cl P0.ep P0.bo true _).mono ?_; rintro e wb ⟨rfl, hKb, hbb⟩; have hBb : Below w1.heap.size w1 wb := (by first | exact bel1 hbb | exact below_step hBa hbb | exact bel3 hBa hbb | exact bel4 hbb); (try (have zB := blk_new hbb; obtain ⟨y0, y1, y2, y3⟩ := blk_of zB)); (try (have zB := blk_newD hbb; obtain ⟨y0, y1, y2, y3⟩ := blk_of zB)); (try (have zB := blk_keep zA hbb; obtain ⟨y0, y1, y2, y3⟩ := blk_of zB)))
            | fail)
    all_goals go_wp2_with fail
    all_goals go_meet
    all_goals have hwa : w.heap.size ≤ wa.heap.size := Nat.le_trans hs1 hBa.size
    all_goals have hwb : w.heap.size ≤ wb.heap.size := Nat.le_trans hs1 hBb.size
    all_goals first
      | (have Ka := (hKa w.heap.size (fun _ => True) hs1).below hbb
         have Kb := hKb w.heap.size (fun _ => True) hwa
         exact ⟨_, _, _, rfl, duo_new Ka Kb (Nat.ne_of_lt (hKa w.heap.size (fun _ => True) hs1).hd.lt) hwb, hB1.trans ((belA hBb _).mono hs1)⟩)
      | (have Ka := (hKa w.heap.size (fun _ => True) hs1).below (below_step ((Below.refl _ _).alloc (Nat.le_refl _) _) hbb)
         have Kb := hKb w.heap.size (fun _ => True) (by rw [sz1]; omega)
         rw [sz1] at Kb
         exact ⟨_, _, _, rfl, duo_put Ka Kb zB (by have := (hKa w.heap.size (fun _ => True) hs1).hd.lt; simp at this; omega) hwa, hB1.trans ((belS hBb hBa.size _ _).mono hs1)⟩)
      | (have Ka := (hKa w.heap.size (fun _ => True) (by rw [sz2]; omega)).below hbb
         have Kb := hKb w.heap.size (fun _ => True) hwa
         have hlt9 := (hKa w.heap.size (fun _ => True) (by rw [sz2]; omega)).hd.lt
         rw [sz2] at Ka hlt9
         exact ⟨_, _, _, rfl, duo_put Ka Kb zB (Nat.ne_of_lt hlt9) hs1, hB1.trans ((belS hBb (Nat.le_refl _) _ _).mono hs1)⟩)
  case rest =>
    obtain ⟨ge, g0, g1, rfl, HD, hbx⟩ := hcut
    go_wp2
    go_loopw [6, 7, 67] (fun u v i wr => ∃ (k sn tl : Nat) (X Y : En), k ≤ n1 ∧ sn ≤ 2 * k ∧ tl ≤ sn ∧ i = .int .i64 k ∧ u = .int .i64 (sn : Int) ∧ v = .int .i64 (tl : Int) ∧ Hid (Duo wr w.heap.size ge g0 g1 P0 X Y ∧ X.s = Y.h + X.n ∧ Y.s = X.h + Y.n ∧ sn = X.s + Y.s ∧ tl = X.h + Y.h ∧ X.s ≤ k ∧ Y.s ≤ k) ∧ Below w.heap.size w wr) (fun _ _ i _ => n1 - (intOf i).toNat)
    case atStart => exact ⟨0, 0, 0, En0, En0, Nat.zero_le _, by omega, by omega, rfl, rfl, rfl, ⟨HD.out, rfl, rfl, rfl, rfl, Nat.le_refl _, Nat.le_refl _⟩, hbx⟩
    case round =>
      clear HD hbx
      obtain ⟨k, sn, tl, X, Y, hk, hsn, htl, rfl, rfl, rfl, HI, hbel⟩ := hrel
      rename World => wr
      by_cases hlt : k < n1
      · obtain ⟨bk, off, rfl, -, hcA⟩ := (HA.out.1.below hbel).cell (by intro e; have := HA.out.2; rw [e] at this; simp at this; omega)
        obtain ⟨i3, i4, i5⟩ := hcA k (by have := HA.out.2; omega)
        have hX1 := HA.out.1.rd (A[k]'(by have := HA.out.2; omega)) (List.getElem_mem _)
        have hX2 := HA.out.1.sz (A[k]'(by have := HA.out.2; omega)) (List.getElem_mem _)
        clear hcA
        generalize A[k]'(by have := HA.out.2; omega) = x at *
        obtain ⟨kd, nn, ax, m, cx, bs⟩ := x
        simp only at i3 i4 i5 hX1 hX2
        have hml := hX1.len
        have HX1 : Hid (Rd8 wr ax m cx bs) := hX1.below hbel
        clear hX1
        by_cases kd0 : kd = 0
        · subst kd0
          obtain ⟨E, hE⟩ : ∃ E, pshE m X.n = E := ⟨_, rfl⟩
          obtain ⟨n2, hn2⟩ : ∃ n2, pshN m X.n X.n = n2 := ⟨_, rfl⟩
          obtain ⟨s2, hs2⟩ : ∃ s2, pshN m X.n X.s = s2 := ⟨_, rfl⟩
          obtain ⟨L2, hL2⟩ : ∃ L2, pshL m X.n X.L bs = L2 := ⟨_, rfl⟩
          have HE : Hid (pshE m X.n = E ∧ pshN m X.n X.n = n2 ∧ pshN m X.n X.s = s2 ∧ pshL m X.n X.L bs = L2) := ⟨hE, hn2, hs2, hL2⟩
          have HQ : Hid ((E = 0 → n2 = X.n + 1 ∧ s2 = X.s + 1) ∧ (¬ E = 0 → n2 = X.n ∧ s2 = X.s)) := psh_is hE hn2 hs2
          clear hE hn2 hs2 hL2
          obtain ⟨W0, hW0⟩ : ∃ W0, W0 = wr.alloc (stO 0 nn (.slice ax m cx)) := ⟨_, rfl⟩
          have HDW : Hid (Duo W0 w.heap.size ge g0 g1 P0 X Y) := by rw [hW0]; exact HI.out.1.below ((Below.refl _ _).alloc (Nat.le_refl _) _)
          have HBW : Hid (Below w.heap.size w W0) := by rw [hW0]; exact below_step hbel ((Below.refl _ _).alloc (Nat.le_refl _) _)
          have HXW : Hid (Rd8 W0 ax m cx bs) := by rw [hW0]; exact HX1.out.alloc _
          have hsb : W0.heap[wr.heap.size]? = some (stO 0 nn (.slice ax m cx)) := by rw [hW0]; exact heap_alloc_new wr _
          have KS : Hid (∀ W : World, KT W0 W → W.cell? ⟨wr.heap.size, 0, none⟩ = some (.int .i64 0) ∧ W.cell? ⟨wr.heap.size, 2, none⟩ = some (.slice ax m cx) ∧ W.cell? ⟨ge, 0, none⟩ = some (lp g0)) := fun W hW =>
            ⟨(kt_cell hW hsb (by decide) (by decide) 0).trans (by rw [cell_of_row _ _ _ _ _ _ hsb]; rfl), (kt_cell hW hsb (by decide) (by decide) 2).trans (by rw [cell_of_row _ _ _ _ _ _ hsb]; rfl), by
              obtain ⟨cs, fr, h9⟩ := HDW.out.et
              exact (kt_cell hW h9 (by decide) (by decide) 0).trans HDW.out.e0⟩
          clear hsb
          go_upto_region 10 with fail
          rw [← hW0]
          clear hW0
          first
            | go_region_held_law (fun W => W.cell? ⟨wr.heap.size, 0, none⟩ = some (.int .i64 0) ∧ W.cell? ⟨wr.heap.size, 2, none⟩ = some (.slice ax m cx) ∧ W.cell? ⟨ge, 0, none⟩ = some (lp g0))
                (first
                  | with_reducible exact KS.out _ (KT.of_below (bel0 W0))
                  | with_reducible exact KS.out _ (KT.of_below (belD W0 _))
                  | with_reducible exact KS.out _ hT4
                  | with_reducible exact KS.out _ hTa
                  | fail)
                ((first
                  | (refine step_append_rdG (n := 0) (m := m) (xs := []) (ys := ci bs) _ (by rfl) (.tmp 84) (.tmp 86) 27 (by rfl) W0.heap.size 5 .u8 (.int .u8 0) 1 Try.underlying27 info5 rfl (by rfl) (by rfl) (show OwnI (W0.alloc (.cells #[] 5)).drew W0.heap.size 5 .u8 _ _ [] from OwnI.fresh W0 _ _ _ (Nat.le_refl _)) (show RdI (W0.alloc (.cells #[] 5)).drew .u8 ax cx (ci bs) from RdI.drew (HXW.out.alloc (.cells #[] 5)).rd) rfl (by rw [ci_length]; exact hml) (by omega) (by unfold maxLen; omega) (by simp) ?_; intro aw cw wa how' hbw; have how : Own8 wa W0.heap.size aw m cw bs := ⟨by simpa using how', hml, HXW.out.byte⟩; have hBw : Below W0.heap.size W0 wa := below_alloc (o := .cells #[] 5) (w := W0) (w' := wa) ⟨hbw.os, hbw.tape, hbw.output, hbw.size, hbw.block⟩; have hTa : KT W0 wa := KT.of_below hBw; have KA : Hid (Duo wa w.heap.size ge g0 g1 P0 X Y ∧ Own8 wa W0.heap.size aw m cw bs ∧ Below w.heap.size w wa) := ⟨HDW.out.below hBw, how, below_step HBW.out hBw⟩; clear how how' hbw)
                  | (go_at_call 10; refine (push_any wa w.heap.size g0 X.ao X.n X.cap (fun _ => True) (idI P0 false) X.L X.s X.h KA.out.1.k0 aw m cw bs KA.out.2.1.rd (by have := HI.out.2; omega) (fun _ _ => trivial) E n2 s2 L2 HE.out.1 HE.out.2.1 HE.out.2.2.1 HE.out.2.2.2).mono ?_; rintro e w4 ⟨rfl, ao4, cap4, K4, hO4, hN4⟩; have hT4 : KT W0 w4 := hTa.trans (KA.out.1.k0.ktOff hO4); have HK4 : Hid (Duo w4 w.heap.size ge g0 g1 P0 ⟨ao4, n2, cap4, L2, s2, X.h⟩ Y ∧ Below w.heap.size w w4) := ⟨KA.out.1.step0 (Z := ⟨ao4, n2, cap4, L2, s2, X.h⟩) K4 hO4 hN4, KA.out.2.2.trans (KA.out.1.k0.belowB hO4)⟩)))
            | fail
          clear K4
          by_cases hE0 : E = 0
          · have e1 : (E == 0) = true := by simp [hE0]
            have HE0 : Hid (E = 0) := hE0
            clear hE0
            go_wp2
            go_roundw
            case rel => exact ⟨k + 1, sn + 1, tl, ⟨ao4, n2, cap4, L2, s2, X.h⟩, Y, by omega, by omega, by omega, by go_num, by go_num, rfl, ⟨HK4.out.1, by have := HQ.out; have := HE0.out; have := HI.out.2; (try simp only); omega, by have := HQ.out; have := HE0.out; have := HI.out.2; (try simp only); omega, by have := HQ.out; have := HE0.out; have := HI.out.2; (try simp only); omega, by have := HQ.out; have := HE0.out; have := HI.out.2; (try simp only); omega, by have := HQ.out; have := HE0.out; have := HI.out.2; (try simp only); omega, by have := HQ.out; have := HE0.out; have := HI.out.2; (try simp only); omega⟩, HK4.out.2⟩
            case measure => simp [intOf]; omega
          · have e1 : (E == 0) = false := by simp [hE0]
            have HE0 : Hid (¬ E = 0) := hE0
            clear hE0
            go_wp2
            go_roundw
            case rel => exact ⟨k + 1, sn, tl, ⟨ao4, n2, cap4, L2, s2, X.h⟩, Y, by omega, by omega, by omega, by go_num, by go_num, rfl, ⟨HK4.out.1, by have := HQ.out; have := HE0.out; have := HI.out.2; (try simp only); omega, by have := HQ.out; have := HE0.out; have := HI.out.2; (try simp only); omega, by have := HQ.out; have := HE0.out; have := HI.out.2; (try simp only); omega, by have := HQ.out; have := HE0.out; have := HI.out.2; (try simp only); omega, by have := HQ.out; have := HE0.out; have := HI.out.2; (try simp only); omega, by have := HQ.out; have := HE0.out; have := HI.out.2; (try simp only); omega⟩, HK4.out.2⟩
            case measure => simp [intOf]; omega
        · by_cases kd1 : kd = 1
          · subst kd1
            obtain ⟨E, hE⟩ : ∃ E, pshE m Y.n = E := ⟨_, rfl⟩
            obtain ⟨n2, hn2⟩ : ∃ n2, pshN m Y.n Y.n = n2 := ⟨_, rfl⟩
            obtain ⟨s2, hs2⟩ : ∃ s2, pshN m Y.n Y.s = s2 := ⟨_, rfl⟩
            obtain ⟨L2, hL2⟩ : ∃ L2, pshL m Y.n Y.L bs = L2 := ⟨_, rfl⟩
            have HE : Hid (pshE m Y.n = E ∧ pshN m Y.n Y.n = n2 ∧ pshN m Y.n Y.s = s2 ∧ pshL m Y.n Y.L bs = L2) := ⟨hE, hn2, hs2, hL2⟩
            have HQ : Hid ((E = 0 → n2 = Y.n + 1 ∧ s2 = Y.s + 1) ∧ (¬ E = 0 → n2 = Y.n ∧ s2 = Y.s)) := psh_is hE hn2 hs2
            clear hE hn2 hs2 hL2
            obtain ⟨W0, hW0⟩ : ∃ W0, W0 = wr.alloc (stO 1 nn (.slice ax m cx)) := ⟨_, rfl⟩
            have HDW : Hid (Duo W0 w.heap.size ge g0 g1 P0 X Y) := by rw [hW0]; exact HI.out.1.below ((Below.refl _ _).alloc (Nat.le_refl _) _)
            have HBW : Hid (Below w.heap.size w W0) := by rw [hW0]; exact below_step hbel ((Below.refl _ _).alloc (Nat.le_refl _) _)
            have HXW : Hid (Rd8 W0 ax m cx bs) := by rw [hW0]; exact HX1.out.alloc _
            have hsb : W0.heap[wr.heap.size]? = some (stO 1 nn (.slice ax m cx)) := by rw [hW0]; exact heap_alloc_new wr _
            have KS : Hid (∀ W : World, KT W0 W → W.cell? ⟨wr.heap.size, 0, none⟩ = some (.int .i64 1) ∧ W.cell? ⟨wr.heap.size, 2, none⟩ = some (.slice ax m cx) ∧ W.cell? ⟨ge, 1, none⟩ = some (lp g1)) := fun W hW =>
              ⟨(kt_cell hW hsb (by decide) (by decide) 0).trans (by rw [cell_of_row _ _ _ _ _ _ hsb]; rfl), (kt_cell hW hsb (by decide) (by decide) 2).trans (by rw [cell_of_row _ _ _ _ _ _ hsb]; rfl), by
                obtain ⟨cs, fr, h9⟩ := HDW.out.et
                exact (kt_cell hW h9 (by decide) (by decide) 1).trans HDW.out.e1⟩
            clear hsb
            go_upto_region 10 with fail
            rw [← hW0]
            clear hW0
            first
              | go_region_held_law (fun W => W.cell? ⟨wr.heap.size, 0, none⟩ = some (.int .i64 1) ∧ W.cell? ⟨wr.heap.size, 2, none⟩ = some (.slice ax m cx) ∧ W.cell? ⟨ge, 1, none⟩ = some (lp g1))
                  (first
                    | with_reducible exact KS.out _ (KT.of_below (bel0 W0))
                    | with_reducible exact KS.out _ (KT.of_below (belD W0 _))
                    | with_reducible exact KS.out _ hT4
                    | with_reducible exact KS.out _ hTa
                    | fail)
                  ((first
                    | (refine step_append_rdG (n := 0) (m := m) (xs := []) (ys := ci bs) _ (by rfl) (.tmp 84) (.tmp 86) 27 (by rfl) W0.heap.size 5 .u8 (.int .u8 0) 1 Try.underlying27 info5 rfl (by rfl) (by rfl) (show OwnI (W0.alloc (.cells #[] 5)).drew W0.heap.size 5 .u8 _ _ [] from OwnI.fresh W0 _ _ _ (Nat.le_refl _)) (show RdI (W0.alloc (.cells #[] 5)).drew .u8 ax cx (ci bs) from RdI.drew (HXW.out.alloc (.cells #[] 5)).rd) rfl (by rw [ci_length]; exact hml) (by omega) (by unfold maxLen; omega) (by simp) ?_; intro aw cw wa how' hbw; have how : Own8 wa W0.heap.size aw m cw bs := ⟨by simpa using how', hml, HXW.out.byte⟩; have hBw : Below W0.heap.size W0 wa := below_alloc (o := .cells #[] 5) (w := W0) (w' := wa) ⟨hbw.os, hbw.tape, hbw.output, hbw.size, hbw.block⟩; have hTa : KT W0 wa := KT.of_below hBw; have KA : Hid (Duo wa w.heap.size ge g0 g1 P0 X Y ∧ Own8 wa W0.heap.size aw m cw bs ∧ Below w.heap.size w wa) := ⟨HDW.out.below hBw, how, below_step HBW.out hBw⟩; clear how how' hbw)
                    | (go_at_call 10; refine (push_any wa w.heap.size g1 Y.ao Y.n Y.cap (fun _ => True) (idI P0 true) Y.L Y.s Y.h KA.out.1.k1 aw m cw bs KA.out.2.1.rd (by have := HI.out.2; omega) (fun _ _ => trivial) E n2 s2 L2 HE.out.1 HE.out.2.1 HE.out.2.2.1 HE.out.2.2.2).mono ?_; rintro e w4 ⟨rfl, ao4, cap4, K4, hO4, hN4⟩; have hT4 : KT W0 w4 := hTa.trans (KA.out.1.k1.ktOff hO4); have HK4 : Hid (Duo w4 w.heap.size ge g0 g1 P0 X ⟨ao4, n2, cap4, L2, s2, Y.h⟩ ∧ Below w.heap.size w w4) := ⟨KA.out.1.step1 (Z := ⟨ao4, n2, cap4, L2, s2, Y.h⟩) K4 hO4 hN4, KA.out.2.2.trans (KA.out.1.k1.belowB hO4)⟩)))
              | fail
            clear K4
            by_cases hE0 : E = 0
            · have e1 : (E == 0) = true := by simp [hE0]
              have HE0 : Hid (E = 0) := hE0
              clear hE0
              go_wp2
              go_roundw
              case rel => exact ⟨k + 1, sn + 1, tl, X, ⟨ao4, n2, cap4, L2, s2, Y.h⟩, by omega, by omega, by omega, by go_num, by go_num, rfl, ⟨HK4.out.1, by have := HQ.out; have := HE0.out; have := HI.out.2; (try simp only); omega, by have := HQ.out; have := HE0.out; have := HI.out.2; (try simp only); omega, by have := HQ.out; have := HE0.out; have := HI.out.2; (try simp only); omega, by have := HQ.out; have := HE0.out; have := HI.out.2; (try simp only); omega, by have := HQ.out; have := HE0.out; have := HI.out.2; (try simp only); omega, by have := HQ.out; have := HE0.out; have := HI.out.2; (try simp only); omega⟩, HK4.out.2⟩
              case measure => simp [intOf]; omega
            · have e1 : (E == 0) = false := by simp [hE0]
              have HE0 : Hid (¬ E = 0) := hE0
              clear hE0
              go_wp2
              go_roundw
              case rel => exact ⟨k + 1, sn, tl, X, ⟨ao4, n2, cap4, L2, s2, Y.h⟩, by omega, by omega, by omega, by go_num, by go_num, rfl, ⟨HK4.out.1, by have := HQ.out; have := HE0.out; have := HI.out.2; (try simp only); omega, by have := HQ.out; have := HE0.out; have := HI.out.2; (try simp only); omega, by have := HQ.out; have := HE0.out; have := HI.out.2; (try simp only); omega, by have := HQ.out; have := HE0.out; have := HI.out.2; (try simp only); omega, by have := HQ.out; have := HE0.out; have := HI.out.2; (try simp only); omega, by have := HQ.out; have := HE0.out; have := HI.out.2; (try simp only); omega⟩, HK4.out.2⟩
              case measure => simp [intOf]; omega
          · have HDn : Hid (∀ j, Duo ((wr.alloc (stO kd nn (.slice ax m cx))).drewN j) w.heap.size ge g0 g1 P0 X Y) := fun j => (HI.out.1.below ((Below.refl _ _).alloc (Nat.le_refl _) (stO kd nn (.slice ax m cx)))).below ⟨rfl, rfl, rfl, Nat.le_refl _, fun _ _ => rfl⟩
            have HBn : Hid (∀ j, Below w.heap.size w ((wr.alloc (stO kd nn (.slice ax m cx))).drewN j)) := fun j => by
              have := below_step hbel ((Below.refl _ _).alloc (Nat.le_refl _) (stO kd nn (.slice ax m cx)))
              exact ⟨this.os, this.tape, this.output, this.size, this.block⟩
            by_cases kdn : kd < 0
            · have hd0 : ¬ (0 ≤ kd) := by omega
              have hd2 : kd < 2 := by omega
              go_upto_region 10 with fail
              go_quiet (fail)
              go_wp2
              go_roundw
              case rel => exact ⟨k + 1, sn, tl, X, Y, by omega, by omega, by omega, by go_num, by go_num, rfl, ⟨HDn.out _, by have := HI.out.2; omega, by have := HI.out.2; omega, by have := HI.out.2; omega, by have := HI.out.2; omega, by have := HI.out.2; omega, by have := HI.out.2; omega⟩, HBn.out _⟩
              case measure => simp [intOf]; omega
            · have hd2 : ¬ (kd < 2) := by omega
              go_upto_region 10 with fail
              go_quiet (fail)
              have HW1 : Hid (Duo ((wr.alloc (stO kd nn (.slice ax m cx))).drewN nq) w.heap.size ge g0 g1 P0 X Y ∧ Below w.heap.size w ((wr.alloc (stO kd nn (.slice ax m cx))).drewN nq)) := ⟨HDn.out nq, HBn.out nq⟩
              clear HDn HBn
              obtain ⟨sX, hsX⟩ : ∃ sX, X.s = sX := ⟨_, rfl⟩
              obtain ⟨sY, hsY⟩ : ∃ sY, Y.s = sY := ⟨_, rfl⟩
              have HSS : Hid (X.s = sX ∧ Y.s = sY ∧ sn = sX + sY) := ⟨hsX, hsY, by have := HI.out.2; omega⟩
              have hs100 : sX ≤ 100 ∧ sY ≤ 100 := by have := HI.out.2; omega
              clear hsX hsY
              go_wp2
              go_loopw [7, 10] (fun v i wq => ∃ (kk t2 : Nat) (X2 Y2 : En), kk ≤ 4 ∧ t2 ≤ 200 ∧ i = .int .i64 kk ∧ v = .int .i64 (t2 : Int) ∧ Hid (Duo wq w.heap.size ge g0 g1 P0 X2 Y2 ∧ X2.s = sX ∧ Y2.s = sY ∧ t2 = X2.h + Y2.h ∧ (kk = 0 → X2.s = Y2.h + X2.n ∧ Y2.s = X2.h + Y2.n) ∧ (kk = 1 → Y2.h = X2.s ∧ Y2.s = X2.h + Y2.n ∧ X2.n ≤ X2.s) ∧ (kk = 2 → Y2.h = X2.s ∧ X2.h = Y2.s ∧ X2.n = 0 ∧ Y2.n ≤ Y2.s) ∧ (3 ≤ kk → Y2.h = X2.s ∧ X2.h = Y2.s ∧ X2.n = 0 ∧ Y2.n = 0)) ∧ Below w.heap.size w wq) (fun _ i _ => 4 - (intOf i).toNat)
              case atStart => exact ⟨0, tl, X, Y, by omega, by omega, rfl, rfl, ⟨HW1.out.1, HSS.out.1, HSS.out.2.1, by have := HI.out.2; omega, ⟨(fun _ => by have := HI.out.2; omega), (fun h => absurd h (by decide)), (fun h => absurd h (by decide)), (fun h => absurd h (by decide))⟩⟩, HW1.out.2⟩
              case round =>
                clear HW1
                obtain ⟨kk, t2, X2, Y2, hkk, ht2, rfl, rfl, HJ, hbj⟩ := hrel
                rename World => wj
                by_cases hk4 : kk < 4
                · rcases (by omega : kk = 0 ∨ kk = 1 ∨ kk = 2 ∨ kk = 3) with rfl | rfl | rfl | rfl
                  · have q0 := HJ.out.1.e0
                    have q1 := HJ.out.1.e1
                    obtain ⟨M, hM⟩ : ∃ M, (pksOf (idI P0 false) X2.L X2.s X2.h).length = M := ⟨_, rfl⟩
                    have hML : M = max 1 X2.n := by rw [← hM, pks_len, HJ.out.1.k0.len]
                    have hM8 : M ≤ 8 := by have := HJ.out.1.k0.le; omega
                    have HM : Hid ((pksOf (idI P0 false) X2.L X2.s X2.h).length = M ∧ 1 ≤ M ∧ (¬ X2.n = 0 → M = X2.n)) := ⟨hM, by omega, by intro h; omega⟩
                    have HSL : Hid (X2.L.length = X2.n ∧ ∀ bs ∈ X2.L, bs.length ≤ 700) := ⟨HJ.out.1.k0.len, HJ.out.1.k0.sz⟩
                    have HPre : Hid (X2.s = Y2.h + X2.n ∧ X2.h ≤ Y2.s ∧ Y2.s - Y2.n ≤ X2.h) := by unfold Hid; have h3 := HJ.out.2.2.2.2.1 (by trivial); have h4 := HJ.out.1.k0.sl; have h5 := HJ.out.1.k1.sl; omega
                    have HSS2 : Hid (X2.s ≤ 100 ∧ Y2.s ≤ 100) := by unfold Hid; have h3 := HJ.out.2; omega
                    clear hM hML
                    go_wp2_with (first
                      | (go_at_call 17; refine (packets_any wj _ _ _ _ _ _ _ _ _ _ HJ.out.1.k0).mono ?_; rintro e w6 ⟨v6, rfl, hp6, hb6⟩; obtain ⟨a6, c6, hv6, -⟩ := hp6.shape; rw [HM.out.1] at hv6; subst hv6))
                    have HS6 : Hid (Duo w6 w.heap.size ge g0 g1 P0 X2 Y2 ∧ Pks w6 wj.heap.size (fun k => wj.heap.size ≤ k) (.slice a6 M c6) (pksOf (idI P0 false) X2.L X2.s X2.h)) := ⟨HJ.out.1.below hb6, hp6⟩
                    have HB6 : Hid (Below w.heap.size w w6) := below_step hbj hb6
                    clear hp6 q0 q1
                    by_cases hS0 : X2.n = 0
                    · have HN0 : Hid (X2.n = 0) := hS0
                      clear hS0
                      go_loopw [7, 106] (fun v i wq => ∃ (j t3 : Nat) (R : En), j ≤ M ∧ t3 ≤ t2 + j ∧ i = .int .i64 j ∧ v = .int .i64 (t3 : Int) ∧ Hid (Duo wq w.heap.size ge g0 g1 P0 X2 R ∧ Pks wq wj.heap.size (fun k => wj.heap.size ≤ k) (.slice a6 M c6) (pksOf (idI P0 false) X2.L X2.s X2.h) ∧ R.s = Y2.s ∧ t3 = X2.h + R.h ∧ R.h = Y2.h ∧ (j = 0 → R.n = Y2.n) ∧ (¬ j = 0 → R.n = Y2.s - X2.h)) ∧ Below w.heap.size w wq) (fun _ i _ => M - (intOf i).toNat)
                      case atStart => exact ⟨0, t2, Y2, Nat.zero_le _, by omega, rfl, rfl, ⟨HS6.out.1, HS6.out.2, rfl, by have := HJ.out.2; omega, by simp, fun _ => rfl, fun h => absurd rfl h⟩, HB6.out⟩
                      case round =>
                        clear HS6 HB6
                        obtain ⟨j, t3, R, hj, ht3, rfl, rfl, HR, hbq⟩ := hrel
                        rename World => wq
                        by_cases hjl : j < M
                        · obtain ⟨g6, b, au, mu, cu, rfl, p6, hy6, hb7⟩ := pks_at HR.out.2.1 HSL.out.1 HSL.out.2 HM.out.1 j hjl
                          obtain ⟨sq, hsq⟩ : ∃ sq : Int, (if X2.n = 0 then (0 : Int) else (X2.s : Int) - (X2.n : Int) + 1 + (j : Int)) = sq := ⟨_, rfl⟩
                          rw [hsq] at p6
                          have i0 : wq.cell? ⟨g6, j * 7, none⟩ = some (.int .i64 P0.cl) := p6.c0
                          have i1 : wq.cell? ⟨g6, j * 7 + 1, none⟩ = some (.int .i64 P0.ep) := p6.c1
                          have i2 : wq.cell? ⟨g6, j * 7 + 2, none⟩ = some (.int .i64 P0.bo) := p6.c2
                          have i3 : wq.cell? ⟨g6, j * 7 + 3, none⟩ = some (.int .i64 sq) := p6.c3
                          have i4 : wq.cell? ⟨g6, j * 7 + 4, none⟩ = some (.int .i64 (X2.h : Int)) := p6.c4
                          have i5 : wq.cell? ⟨g6, j * 7 + 5, none⟩ = some (.bool false) := p6.c5
                          have i6 : wq.cell? ⟨g6, j * 7 + 6, none⟩ = some (.slice au mu cu) := p6.c6
                          clear p6
                          have hnR : R.n ≤ R.s := HR.out.1.k1.sl
                          have hP : X2.h ≤ R.s ∧ R.s - R.n ≤ X2.h := by have h1 := HPre.out; have h2 := HR.out.2.2; by_cases e : j = 0 <;> omega
                          obtain ⟨n2, hn2⟩ : ∃ n2, R.s - X2.h = n2 := ⟨_, rfl⟩
                          obtain ⟨h2, hh2⟩ : ∃ h2, R.h = h2 := ⟨_, rfl⟩
                          obtain ⟨L2, hL2⟩ : ∃ L2, R.L.drop (gotC (idI P0 true) R.n R.s (mkPk (idI P0 false) X2.h sq b)) = L2 := ⟨_, rfl⟩
                          obtain ⟨XX, hXX⟩ : ∃ XX, gotX (idI P0 true) R.s R.h (mkPk (idI P0 false) X2.h sq b) = XX := ⟨_, rfl⟩
                          have hF := got_facts (P := P0) (b0 := false) (b1 := true) (by decide) (hX := X2.h) (sq := sq) (bs := b) (n := R.n) (s := R.s) (h := R.h) hnR hP.1 hP.2
                          have hsqB : (sq == (R.h : Int) + 1) = false := by have h1 := HPre.out; have h2 := HR.out.2.2; rw [← hsq]; rw [if_pos HN0.out]; simp; omega
                          have HG : Hid (gotB (idI P0 true) R.s R.h (mkPk (idI P0 false) X2.h sq b) = false ∧ R.n - gotC (idI P0 true) R.n R.s (mkPk (idI P0 false) X2.h sq b) = n2 ∧ gotH (idI P0 true) R.s R.h (mkPk (idI P0 false) X2.h sq b) = h2 ∧ R.L.drop (gotC (idI P0 true) R.n R.s (mkPk (idI P0 false) X2.h sq b)) = L2 ∧ gotX (idI P0 true) R.s R.h (mkPk (idI P0 false) X2.h sq b) = XX ∧ R.s - X2.h = n2 ∧ R.h = h2) := ⟨hF.2.trans hsqB, hF.1.trans hn2, by unfold gotH; rw [hF.2, hsqB]; exact hh2, hL2, hXX, hn2, hh2⟩
                          have hRh : R.h < 16777215 := by have h1 := HPre.out; have h2 := HR.out.2.2; have h3 := HSS2.out; have h4 := HM.out.2; omega
                          clear hF hsqB hn2 hh2 hL2 hXX hsq hP hnR
                          obtain ⟨W1, hW1⟩ : ∃ W1, W1 = wq.alloc (.cells #[.int .i64 P0.cl, .int .i64 P0.ep, .int .i64 P0.bo, .int .i64 sq, .int .i64 (X2.h : Int), .bool false, .slice au mu cu] 30) := ⟨_, rfl⟩
                          have HB1 : Hid (Below wq.heap.size wq W1) := by rw [hW1]; exact (Below.refl _ _).alloc (Nat.le_refl _) _
                          have hpb : W1.heap[wq.heap.size]? = some (.cells #[.int .i64 P0.cl, .int .i64 P0.ep, .int .i64 P0.bo, .int .i64 sq, .int .i64 (X2.h : Int), .bool false, .slice au mu cu] 30) := by rw [hW1]; exact heap_alloc_new wq _
                          have HD1 : Hid (Duo W1.drew w.heap.size ge g0 g1 P0 X2 R) := (HR.out.1.below HB1.out).below (bel0 W1)
                          have HY1 : Hid (By W1.drew (fun k => wj.heap.size ≤ k) (.slice au mu cu) b) := (hy6.below HB1.out).below (bel0 W1)
                          have KS : Hid (∀ W : World, KT W1 W → W.cell? ⟨ge, 1, none⟩ = some (lp g1) ∧ W.cell? ⟨wq.heap.size, 0, none⟩ = some (.int .i64 P0.cl) ∧ W.cell? ⟨wq.heap.size, 1, none⟩ = some (.int .i64 P0.ep) ∧ W.cell? ⟨wq.heap.size, 2, none⟩ = some (.int .i64 P0.bo) ∧ W.cell? ⟨wq.heap.size, 3, none⟩ = some (.int .i64 sq) ∧ W.cell? ⟨wq.heap.size, 4, none⟩ = some (.int .i64 (X2.h : Int)) ∧ W.cell? ⟨wq.heap.size, 5, none⟩ = some (.bool false) ∧ W.cell? ⟨wq.heap.size, 6, none⟩ = some (.slice au mu cu)) := fun W hW => by
                            have c := fun i => kt_cell hW hpb (by decide) (by decide) i
                            obtain ⟨cs, fr, h9⟩ := HD1.out.et
                            refine ⟨(kt_cell hW (show W1.heap[ge]? = _ from h9) (by decide) (by decide) 1).trans HD1.out.e1, (c 0).trans ?_, (c 1).trans ?_, (c 2).trans ?_, (c 3).trans ?_, (c 4).trans ?_, (c 5).trans ?_, (c 6).trans ?_⟩
                            all_goals rw [cell_of_row _ _ _ _ _ _ hpb]; rfl
                          clear hpb hy6
                          go_upto_region 19 with fail
                          rw [← hW1]
                          clear hW1
                          go_region_held (fun W => W.cell? ⟨ge, 1, none⟩ = some (lp g1) ∧ W.cell? ⟨wq.heap.size, 0, none⟩ = some (.int .i64 P0.cl) ∧ W.cell? ⟨wq.heap.size, 1, none⟩ = some (.int .i64 P0.ep) ∧ W.cell? ⟨wq.heap.size, 2, none⟩ = some (.int .i64 P0.bo) ∧ W.cell? ⟨wq.heap.size, 3, none⟩ = some (.int .i64 sq) ∧ W.cell? ⟨wq.heap.size, 4, none⟩ = some (.int .i64 (X2.h : Int)) ∧ W.cell? ⟨wq.heap.size, 5, none⟩ = some (.bool false) ∧ W.cell? ⟨wq.heap.size, 6, none⟩ = some (.slice au mu cu))
                            (first
                              | with_reducible exact KS.out _ (KT.of_below (bel0 W1))
                              | with_reducible exact KS.out _ hT5
                              | fail)
                            (first
                              | (go_at_call 14; refine (got_is W1.drew w.heap.size g1 R.ao R.n R.cap (fun _ => True) (idI P0 true) R.L R.s R.h HD1.out.k1 (mkPk (idI P0 false) X2.h sq b) (.slice au mu cu) (fun k => wj.heap.size ≤ k) HY1.out (by simp only [mkPk]; omega) hRh false n2 h2 XX L2 HG.out.1 HG.out.2.1 HG.out.2.2.2.1 HG.out.2.2.1 HG.out.2.2.2.2.1).mono ?_; rintro e w5 ⟨v5, rfl, -, K5, hO5⟩; have hT5 : KT W1 w5 := (KT.of_below (bel0 W1)).trans (HD1.out.k1.ktOff hO5); have HK5 : Hid (Duo w5 w.heap.size ge g0 g1 P0 X2 ⟨R.ao, n2, R.cap, L2, R.s, h2⟩ ∧ Below w.heap.size w w5) := ⟨HD1.out.step1 (Z := ⟨R.ao, n2, R.cap, L2, R.s, h2⟩) K5 hO5 (Nw.refl _ _), ((below_step hbq HB1.out).trans ((bel0 W1).mono (by have := hbq.size; have := HB1.out.size; omega))).trans (HD1.out.k1.belowB hO5)⟩)
                              | fail)
                          clear K5
                          go_wp2
                          go_roundw
                          case rel => exact ⟨j + 1, t3, ⟨R.ao, n2, R.cap, L2, R.s, h2⟩, by omega, by omega, by go_num, by go_num, ⟨HK5.out.1, (HR.out.2.1.below HB1.out).kt hT5, HR.out.2.2.1, by have h1 := HR.out.2.2; have h2 := HG.out.2.2.2.2.2; (try simp only); omega, by have h1 := HR.out.2.2; have h2 := HG.out.2.2.2.2.2; (try simp only); omega, fun h => absurd h (by omega), fun _ => by have h1 := HR.out.2.2; have h2 := HG.out.2.2.2.2.2; (try simp only); omega⟩, HK5.out.2⟩
                          case measure => simp [intOf]; omega
                        · obtain rfl : j = M := by omega
                          go_wp2
                          go_roundw
                          case rel => exact ⟨1, t3, X2, R, by omega, by have h1 := HPre.out; have h2 := HR.out.2.2; have h3 := HSS2.out; have h4 := HM.out.2; have h5 := HN0.out; omega, by go_num, rfl, ⟨HR.out.1, by have h2 := HR.out.2.2; have h3 := HJ.out.2; omega, by have h2 := HR.out.2.2; have h3 := HJ.out.2; omega, by have h2 := HR.out.2.2; omega, ⟨(fun h => absurd h (by decide)), (fun _ => by have h1 := HPre.out; have h2 := HR.out.2.2; have h3 := HJ.out.2.2.2.2.1 (by trivial); have h4 := HM.out.2; have h5 := HN0.out; have h6 := HR.out.1.k0.sl; have h7 := HR.out.1.k1.sl; omega), (fun h => absurd h (by decide)), (fun h => absurd h (by decide))⟩⟩, hbq⟩
                          case measure => simp [intOf]
                    · have HN0 : Hid (¬ X2.n = 0) := hS0
                      clear hS0
                      go_loopw [7, 106] (fun v i wq => ∃ (j t3 : Nat) (R : En), j ≤ M ∧ t3 ≤ t2 + j ∧ i = .int .i64 j ∧ v = .int .i64 (t3 : Int) ∧ Hid (Duo wq w.heap.size ge g0 g1 P0 X2 R ∧ Pks wq wj.heap.size (fun k => wj.heap.size ≤ k) (.slice a6 M c6) (pksOf (idI P0 false) X2.L X2.s X2.h) ∧ R.s = Y2.s ∧ t3 = X2.h + R.h ∧ R.h = Y2.h + (j) ∧ (j = 0 → R.n = Y2.n) ∧ (¬ j = 0 → R.n = Y2.s - X2.h)) ∧ Below w.heap.size w wq) (fun _ i _ => M - (intOf i).toNat)
                      case atStart => exact ⟨0, t2, Y2, Nat.zero_le _, by omega, rfl, rfl, ⟨HS6.out.1, HS6.out.2, rfl, by have := HJ.out.2; omega, by simp, fun _ => rfl, fun h => absurd rfl h⟩, HB6.out⟩
                      case round =>
                        clear HS6 HB6
                        obtain ⟨j, t3, R, hj, ht3, rfl, rfl, HR, hbq⟩ := hrel
                        rename World => wq
                        by_cases hjl : j < M
                        · obtain ⟨g6, b, au, mu, cu, rfl, p6, hy6, hb7⟩ := pks_at HR.out.2.1 HSL.out.1 HSL.out.2 HM.out.1 j hjl
                          obtain ⟨sq, hsq⟩ : ∃ sq : Int, (if X2.n = 0 then (0 : Int) else (X2.s : Int) - (X2.n : Int) + 1 + (j : Int)) = sq := ⟨_, rfl⟩
                          rw [hsq] at p6
                          have i0 : wq.cell? ⟨g6, j * 7, none⟩ = some (.int .i64 P0.cl) := p6.c0
                          have i1 : wq.cell? ⟨g6, j * 7 + 1, none⟩ = some (.int .i64 P0.ep) := p6.c1
                          have i2 : wq.cell? ⟨g6, j * 7 + 2, none⟩ = some (.int .i64 P0.bo) := p6.c2
                          have i3 : wq.cell? ⟨g6, j * 7 + 3, none⟩ = some (.int .i64 sq) := p6.c3
                          have i4 : wq.cell? ⟨g6, j * 7 + 4, none⟩ = some (.int .i64 (X2.h : Int)) := p6.c4
                          have i5 : wq.cell? ⟨g6, j * 7 + 5, none⟩ = some (.bool false) := p6.c5
                          have i6 : wq.cell? ⟨g6, j * 7 + 6, none⟩ = some (.slice au mu cu) := p6.c6
                          clear p6
                          have hnR : R.n ≤ R.s := HR.out.1.k1.sl
                          have hP : X2.h ≤ R.s ∧ R.s - R.n ≤ X2.h := by have h1 := HPre.out; have h2 := HR.out.2.2; by_cases e : j = 0 <;> omega
                          obtain ⟨n2, hn2⟩ : ∃ n2, R.s - X2.h = n2 := ⟨_, rfl⟩
                          obtain ⟨h2, hh2⟩ : ∃ h2, R.h + 1 = h2 := ⟨_, rfl⟩
                          obtain ⟨L2, hL2⟩ : ∃ L2, R.L.drop (gotC (idI P0 true) R.n R.s (mkPk (idI P0 false) X2.h sq b)) = L2 := ⟨_, rfl⟩
                          obtain ⟨XX, hXX⟩ : ∃ XX, gotX (idI P0 true) R.s R.h (mkPk (idI P0 false) X2.h sq b) = XX := ⟨_, rfl⟩
                          have hF := got_facts (P := P0) (b0 := false) (b1 := true) (by decide) (hX := X2.h) (sq := sq) (bs := b) (n := R.n) (s := R.s) (h := R.h) hnR hP.1 hP.2
                          have hsqB : (sq == (R.h : Int) + 1) = true := by have h1 := HPre.out; have h2 := HR.out.2.2; rw [← hsq]; rw [if_neg HN0.out]; simp; omega
                          have HG : Hid (gotB (idI P0 true) R.s R.h (mkPk (idI P0 false) X2.h sq b) = true ∧ R.n - gotC (idI P0 true) R.n R.s (mkPk (idI P0 false) X2.h sq b) = n2 ∧ gotH (idI P0 true) R.s R.h (mkPk (idI P0 false) X2.h sq b) = h2 ∧ R.L.drop (gotC (idI P0 true) R.n R.s (mkPk (idI P0 false) X2.h sq b)) = L2 ∧ gotX (idI P0 true) R.s R.h (mkPk (idI P0 false) X2.h sq b) = XX ∧ R.s - X2.h = n2 ∧ R.h + 1 = h2) := ⟨hF.2.trans hsqB, hF.1.trans hn2, by unfold gotH; rw [hF.2, hsqB]; exact hh2, hL2, hXX, hn2, hh2⟩
                          have hRh : R.h < 16777215 := by have h1 := HPre.out; have h2 := HR.out.2.2; have h3 := HSS2.out; have h4 := HM.out.2; omega
                          clear hF hsqB hn2 hh2 hL2 hXX hsq hP hnR
                          obtain ⟨W1, hW1⟩ : ∃ W1, W1 = wq.alloc (.cells #[.int .i64 P0.cl, .int .i64 P0.ep, .int .i64 P0.bo, .int .i64 sq, .int .i64 (X2.h : Int), .bool false, .slice au mu cu] 30) := ⟨_, rfl⟩
                          have HB1 : Hid (Below wq.heap.size wq W1) := by rw [hW1]; exact (Below.refl _ _).alloc (Nat.le_refl _) _
                          have hpb : W1.heap[wq.heap.size]? = some (.cells #[.int .i64 P0.cl, .int .i64 P0.ep, .int .i64 P0.bo, .int .i64 sq, .int .i64 (X2.h : Int), .bool false, .slice au mu cu] 30) := by rw [hW1]; exact heap_alloc_new wq _
                          have HD1 : Hid (Duo W1.drew w.heap.size ge g0 g1 P0 X2 R) := (HR.out.1.below HB1.out).below (bel0 W1)
                          have HY1 : Hid (By W1.drew (fun k => wj.heap.size ≤ k) (.slice au mu cu) b) := (hy6.below HB1.out).below (bel0 W1)
                          have KS : Hid (∀ W : World, KT W1 W → W.cell? ⟨ge, 1, none⟩ = some (lp g1) ∧ W.cell? ⟨wq.heap.size, 0, none⟩ = some (.int .i64 P0.cl) ∧ W.cell? ⟨wq.heap.size, 1, none⟩ = some (.int .i64 P0.ep) ∧ W.cell? ⟨wq.heap.size, 2, none⟩ = some (.int .i64 P0.bo) ∧ W.cell? ⟨wq.heap.size, 3, none⟩ = some (.int .i64 sq) ∧ W.cell? ⟨wq.heap.size, 4, none⟩ = some (.int .i64 (X2.h : Int)) ∧ W.cell? ⟨wq.heap.size, 5, none⟩ = some (.bool false) ∧ W.cell? ⟨wq.heap.size, 6, none⟩ = some (.slice au mu cu)) := fun W hW => by
                            have c := fun i => kt_cell hW hpb (by decide) (by decide) i
                            obtain ⟨cs, fr, h9⟩ := HD1.out.et
                            refine ⟨(kt_cell hW (show W1.heap[ge]? = _ from h9) (by decide) (by decide) 1).trans HD1.out.e1, (c 0).trans ?_, (c 1).trans ?_, (c 2).trans ?_, (c 3).trans ?_, (c 4).trans ?_, (c 5).trans ?_, (c 6).trans ?_⟩
                            all_goals rw [cell_of_row _ _ _ _ _ _ hpb]; rfl
                          clear hpb hy6
                          go_upto_region 19 with fail
                          rw [← hW1]
                          clear hW1
                          go_region_held (fun W => W.cell? ⟨ge, 1, none⟩ = some (lp g1) ∧ W.cell? ⟨wq.heap.size, 0, none⟩ = some (.int .i64 P0.cl) ∧ W.cell? ⟨wq.heap.size, 1, none⟩ = some (.int .i64 P0.ep) ∧ W.cell? ⟨wq.heap.size, 2, none⟩ = some (.int .i64 P0.bo) ∧ W.cell? ⟨wq.heap.size, 3, none⟩ = some (.int .i64 sq) ∧ W.cell? ⟨wq.heap.size, 4, none⟩ = some (.int .i64 (X2.h : Int)) ∧ W.cell? ⟨wq.heap.size, 5, none⟩ = some (.bool false) ∧ W.cell? ⟨wq.heap.size, 6, none⟩ = some (.slice au mu cu))
                            (first
                              | with_reducible exact KS.out _ (KT.of_below (bel0 W1))
                              | with_reducible exact KS.out _ hT5
                              | fail)
                            (first
                              | (go_at_call 14; refine (got_is W1.drew w.heap.size g1 R.ao R.n R.cap (fun _ => True) (idI P0 true) R.L R.s R.h HD1.out.k1 (mkPk (idI P0 false) X2.h sq b) (.slice au mu cu) (fun k => wj.heap.size ≤ k) HY1.out (by simp only [mkPk]; omega) hRh true n2 h2 XX L2 HG.out.1 HG.out.2.1 HG.out.2.2.2.1 HG.out.2.2.1 HG.out.2.2.2.2.1).mono ?_; rintro e w5 ⟨v5, rfl, -, K5, hO5⟩; have hT5 : KT W1 w5 := (KT.of_below (bel0 W1)).trans (HD1.out.k1.ktOff hO5); have HK5 : Hid (Duo w5 w.heap.size ge g0 g1 P0 X2 ⟨R.ao, n2, R.cap, L2, R.s, h2⟩ ∧ Below w.heap.size w w5) := ⟨HD1.out.step1 (Z := ⟨R.ao, n2, R.cap, L2, R.s, h2⟩) K5 hO5 (Nw.refl _ _), ((below_step hbq HB1.out).trans ((bel0 W1).mono (by have := hbq.size; have := HB1.out.size; omega))).trans (HD1.out.k1.belowB hO5)⟩)
                              | fail)
                          clear K5
                          go_wp2
                          go_roundw
                          case rel => exact ⟨j + 1, t3 + 1, ⟨R.ao, n2, R.cap, L2, R.s, h2⟩, by omega, by omega, by go_num, by go_num, ⟨HK5.out.1, (HR.out.2.1.below HB1.out).kt hT5, HR.out.2.2.1, by have h1 := HR.out.2.2; have h2 := HG.out.2.2.2.2.2; (try simp only); omega, by have h1 := HR.out.2.2; have h2 := HG.out.2.2.2.2.2; (try simp only); omega, fun h => absurd h (by omega), fun _ => by have h1 := HR.out.2.2; have h2 := HG.out.2.2.2.2.2; (try simp only); omega⟩, HK5.out.2⟩
                          case measure => simp [intOf]; omega
                        · obtain rfl : j = M := by omega
                          go_wp2
                          go_roundw
                          case rel => exact ⟨1, t3, X2, R, by omega, by have h1 := HPre.out; have h2 := HR.out.2.2; have h3 := HSS2.out; have h4 := HM.out.2; have h5 := HN0.out; omega, by go_num, rfl, ⟨HR.out.1, by have h2 := HR.out.2.2; have h3 := HJ.out.2; omega, by have h2 := HR.out.2.2; have h3 := HJ.out.2; omega, by have h2 := HR.out.2.2; omega, ⟨(fun h => absurd h (by decide)), (fun _ => by have h1 := HPre.out; have h2 := HR.out.2.2; have h3 := HJ.out.2.2.2.2.1 (by trivial); have h4 := HM.out.2; have h5 := HN0.out; have h6 := HR.out.1.k0.sl; have h7 := HR.out.1.k1.sl; omega), (fun h => absurd h (by decide)), (fun h => absurd h (by decide))⟩⟩, hbq⟩
                          case measure => simp [intOf]
                  · have q0 := HJ.out.1.e0
                    have q1 := HJ.out.1.e1
                    obtain ⟨M, hM⟩ : ∃ M, (pksOf (idI P0 true) Y2.L Y2.s Y2.h).length = M := ⟨_, rfl⟩
                    have hML : M = max 1 Y2.n := by rw [← hM, pks_len, HJ.out.1.k1.len]
                    have hM8 : M ≤ 8 := by have := HJ.out.1.k1.le; omega
                    have HM : Hid ((pksOf (idI P0 true) Y2.L Y2.s Y2.h).length = M ∧ 1 ≤ M ∧ (¬ Y2.n = 0 → M = Y2.n)) := ⟨hM, by omega, by intro h; omega⟩
                    have HSL : Hid (Y2.L.length = Y2.n ∧ ∀ bs ∈ Y2.L, bs.length ≤ 700) := ⟨HJ.out.1.k1.len, HJ.out.1.k1.sz⟩
                    have HPre : Hid (Y2.s = X2.h + Y2.n ∧ Y2.h ≤ X2.s ∧ X2.s - X2.n ≤ Y2.h) := by unfold Hid; have h3 := HJ.out.2.2.2.2.2.1 (by trivial); have h4 := HJ.out.1.k0.sl; have h5 := HJ.out.1.k1.sl; omega
                    have HSS2 : Hid (X2.s ≤ 100 ∧ Y2.s ≤ 100) := by unfold Hid; have h3 := HJ.out.2; omega
                    clear hM hML
                    go_wp2_with (first
                      | (go_at_call 17; refine (packets_any wj _ _ _ _ _ _ _ _ _ _ HJ.out.1.k1).mono ?_; rintro e w6 ⟨v6, rfl, hp6, hb6⟩; obtain ⟨a6, c6, hv6, -⟩ := hp6.shape; rw [HM.out.1] at hv6; subst hv6))
                    have HS6 : Hid (Duo w6 w.heap.size ge g0 g1 P0 X2 Y2 ∧ Pks w6 wj.heap.size (fun k => wj.heap.size ≤ k) (.slice a6 M c6) (pksOf (idI P0 true) Y2.L Y2.s Y2.h)) := ⟨HJ.out.1.below hb6, hp6⟩
                    have HB6 : Hid (Below w.heap.size w w6) := below_step hbj hb6
                    clear hp6 q0 q1
                    by_cases hS0 : Y2.n = 0
                    · have HN0 : Hid (Y2.n = 0) := hS0
                      clear hS0
                      go_loopw [7, 106] (fun v i wq => ∃ (j t3 : Nat) (R : En), j ≤ M ∧ t3 ≤ t2 + j ∧ i = .int .i64 j ∧ v = .int .i64 (t3 : Int) ∧ Hid (Duo wq w.heap.size ge g0 g1 P0 R Y2 ∧ Pks wq wj.heap.size (fun k => wj.heap.size ≤ k) (.slice a6 M c6) (pksOf (idI P0 true) Y2.L Y2.s Y2.h) ∧ R.s = X2.s ∧ t3 = Y2.h + R.h ∧ R.h = X2.h ∧ (j = 0 → R.n = X2.n) ∧ (¬ j = 0 → R.n = X2.s - Y2.h)) ∧ Below w.heap.size w wq) (fun _ i _ => M - (intOf i).toNat)
                      case atStart => exact ⟨0, t2, X2, Nat.zero_le _, by omega, rfl, rfl, ⟨HS6.out.1, HS6.out.2, rfl, by have := HJ.out.2; omega, by simp, fun _ => rfl, fun h => absurd rfl h⟩, HB6.out⟩
                      case round =>
                        clear HS6 HB6
                        obtain ⟨j, t3, R, hj, ht3, rfl, rfl, HR, hbq⟩ := hrel
                        rename World => wq
                        by_cases hjl : j < M
                        · obtain ⟨g6, b, au, mu, cu, rfl, p6, hy6, hb7⟩ := pks_at HR.out.2.1 HSL.out.1 HSL.out.2 HM.out.1 j hjl
                          obtain ⟨sq, hsq⟩ : ∃ sq : Int, (if Y2.n = 0 then (0 : Int) else (Y2.s : Int) - (Y2.n : Int) + 1 + (j : Int)) = sq := ⟨_, rfl⟩
                          rw [hsq] at p6
                          have i0 : wq.cell? ⟨g6, j * 7, none⟩ = some (.int .i64 P0.cl) := p6.c0
                          have i1 : wq.cell? ⟨g6, j * 7 + 1, none⟩ = some (.int .i64 P0.ep) := p6.c1
                          have i2 : wq.cell? ⟨g6, j * 7 + 2, none⟩ = some (.int .i64 P0.bo) := p6.c2
                          have i3 : wq.cell? ⟨g6, j * 7 + 3, none⟩ = some (.int .i64 sq) := p6.c3
                          have i4 : wq.cell? ⟨g6, j * 7 + 4, none⟩ = some (.int .i64 (Y2.h : Int)) := p6.c4
                          have i5 : wq.cell? ⟨g6, j * 7 + 5, none⟩ = some (.bool true) := p6.c5
                          have i6 : wq.cell? ⟨g6, j * 7 + 6, none⟩ = some (.slice au mu cu) := p6.c6
                          clear p6
                          have hnR : R.n ≤ R.s := HR.out.1.k0.sl
                          have hP : Y2.h ≤ R.s ∧ R.s - R.n ≤ Y2.h := by have h1 := HPre.out; have h2 := HR.out.2.2; by_cases e : j = 0 <;> omega
                          obtain ⟨n2, hn2⟩ : ∃ n2, R.s - Y2.h = n2 := ⟨_, rfl⟩
                          obtain ⟨h2, hh2⟩ : ∃ h2, R.h = h2 := ⟨_, rfl⟩
                          obtain ⟨L2, hL2⟩ : ∃ L2, R.L.drop (gotC (idI P0 false) R.n R.s (mkPk (idI P0 true) Y2.h sq b)) = L2 := ⟨_, rfl⟩
                          obtain ⟨XX, hXX⟩ : ∃ XX, gotX (idI P0 false) R.s R.h (mkPk (idI P0 true) Y2.h sq b) = XX := ⟨_, rfl⟩
                          have hF := got_facts (P := P0) (b0 := true) (b1 := false) (by decide) (hX := Y2.h) (sq := sq) (bs := b) (n := R.n) (s := R.s) (h := R.h) hnR hP.1 hP.2
                          have hsqB : (sq == (R.h : Int) + 1) = false := by have h1 := HPre.out; have h2 := HR.out.2.2; rw [← hsq]; rw [if_pos HN0.out]; simp; omega
                          have HG : Hid (gotB (idI P0 false) R.s R.h (mkPk (idI P0 true) Y2.h sq b) = false ∧ R.n - gotC (idI P0 false) R.n R.s (mkPk (idI P0 true) Y2.h sq b) = n2 ∧ gotH (idI P0 false) R.s R.h (mkPk (idI P0 true) Y2.h sq b) = h2 ∧ R.L.drop (gotC (idI P0 false) R.n R.s (mkPk (idI P0 true) Y2.h sq b)) = L2 ∧ gotX (idI P0 false) R.s R.h (mkPk (idI P0 true) Y2.h sq b) = XX ∧ R.s - Y2.h = n2 ∧ R.h = h2) := ⟨hF.2.trans hsqB, hF.1.trans hn2, by unfold gotH; rw [hF.2, hsqB]; exact hh2, hL2, hXX, hn2, hh2⟩
                          have hRh : R.h < 16777215 := by have h1 := HPre.out; have h2 := HR.out.2.2; have h3 := HSS2.out; have h4 := HM.out.2; omega
                          clear hF hsqB hn2 hh2 hL2 hXX hsq hP hnR
                          obtain ⟨W1, hW1⟩ : ∃ W1, W1 = wq.alloc (.cells #[.int .i64 P0.cl, .int .i64 P0.ep, .int .i64 P0.bo, .int .i64 sq, .int .i64 (Y2.h : Int), .bool true, .slice au mu cu] 30) := ⟨_, rfl⟩
                          have HB1 : Hid (Below wq.heap.size wq W1) := by rw [hW1]; exact (Below.refl _ _).alloc (Nat.le_refl _) _
                          have hpb : W1.heap[wq.heap.size]? = some (.cells #[.int .i64 P0.cl, .int .i64 P0.ep, .int .i64 P0.bo, .int .i64 sq, .int .i64 (Y2.h : Int), .bool true, .slice au mu cu] 30) := by rw [hW1]; exact heap_alloc_new wq _
                          have HD1 : Hid (Duo W1.drew w.heap.size ge g0 g1 P0 R Y2) := (HR.out.1.below HB1.out).below (bel0 W1)
                          have HY1 : Hid (By W1.drew (fun k => wj.heap.size ≤ k) (.slice au mu cu) b) := (hy6.below HB1.out).below (bel0 W1)
                          have KS : Hid (∀ W : World, KT W1 W → W.cell? ⟨ge, 0, none⟩ = some (lp g0) ∧ W.cell? ⟨wq.heap.size, 0, none⟩ = some (.int .i64 P0.cl) ∧ W.cell? ⟨wq.heap.size, 1, none⟩ = some (.int .i64 P0.ep) ∧ W.cell? ⟨wq.heap.size, 2, none⟩ = some (.int .i64 P0.bo) ∧ W.cell? ⟨wq.heap.size, 3, none⟩ = some (.int .i64 sq) ∧ W.cell? ⟨wq.heap.size, 4, none⟩ = some (.int .i64 (Y2.h : Int)) ∧ W.cell? ⟨wq.heap.size, 5, none⟩ = some (.bool true) ∧ W.cell? ⟨wq.heap.size, 6, none⟩ = some (.slice au mu cu)) := fun W hW => by
                            have c := fun i => kt_cell hW hpb (by decide) (by decide) i
                            obtain ⟨cs, fr, h9⟩ := HD1.out.et
                            refine ⟨(kt_cell hW (show W1.heap[ge]? = _ from h9) (by decide) (by decide) 0).trans HD1.out.e0, (c 0).trans ?_, (c 1).trans ?_, (c 2).trans ?_, (c 3).trans ?_, (c 4).trans ?_, (c 5).trans ?_, (c 6).trans ?_⟩
                            all_goals rw [cell_of_row _ _ _ _ _ _ hpb]; rfl
                          clear hpb hy6
                          go_upto_region 19 with fail
                          rw [← hW1]
                          clear hW1
                          go_region_held (fun W => W.cell? ⟨ge, 0, none⟩ = some (lp g0) ∧ W.cell? ⟨wq.heap.size, 0, none⟩ = some (.int .i64 P0.cl) ∧ W.cell? ⟨wq.heap.size, 1, none⟩ = some (.int .i64 P0.ep) ∧ W.cell? ⟨wq.heap.size, 2, none⟩ = some (.int .i64 P0.bo) ∧ W.cell? ⟨wq.heap.size, 3, none⟩ = some (.int .i64 sq) ∧ W.cell? ⟨wq.heap.size, 4, none⟩ = some (.int .i64 (Y2.h : Int)) ∧ W.cell? ⟨wq.heap.size, 5, none⟩ = some (.bool true) ∧ W.cell? ⟨wq.heap.size, 6, none⟩ = some (.slice au mu cu))
                            (first
                              | with_reducible exact KS.out _ (KT.of_below (bel0 W1))
                              | with_reducible exact KS.out _ hT5
                              | fail)
                            (first
                              | (go_at_call 14; refine (got_is W1.drew w.heap.size g0 R.ao R.n R.cap (fun _ => True) (idI P0 false) R.L R.s R.h HD1.out.k0 (mkPk (idI P0 true) Y2.h sq b) (.slice au mu cu) (fun k => wj.heap.size ≤ k) HY1.out (by simp only [mkPk]; omega) hRh false n2 h2 XX L2 HG.out.1 HG.out.2.1 HG.out.2.2.2.1 HG.out.2.2.1 HG.out.2.2.2.2.1).mono ?_; rintro e w5 ⟨v5, rfl, -, K5, hO5⟩; have hT5 : KT W1 w5 := (KT.of_below (bel0 W1)).trans (HD1.out.k0.ktOff hO5); have HK5 : Hid (Duo w5 w.heap.size ge g0 g1 P0 ⟨R.ao, n2, R.cap, L2, R.s, h2⟩ Y2 ∧ Below w.heap.size w w5) := ⟨HD1.out.step0 (Z := ⟨R.ao, n2, R.cap, L2, R.s, h2⟩) K5 hO5 (Nw.refl _ _), ((below_step hbq HB1.out).trans ((bel0 W1).mono (by have := hbq.size; have := HB1.out.size; omega))).trans (HD1.out.k0.belowB hO5)⟩)
                              | fail)
                          clear K5
                          go_wp2
                          go_roundw
                          case rel => exact ⟨j + 1, t3, ⟨R.ao, n2, R.cap, L2, R.s, h2⟩, by omega, by omega, by go_num, by go_num, ⟨HK5.out.1, (HR.out.2.1.below HB1.out).kt hT5, HR.out.2.2.1, by have h1 := HR.out.2.2; have h2 := HG.out.2.2.2.2.2; (try simp only); omega, by have h1 := HR.out.2.2; have h2 := HG.out.2.2.2.2.2; (try simp only); omega, fun h => absurd h (by omega), fun _ => by have h1 := HR.out.2.2; have h2 := HG.out.2.2.2.2.2; (try simp only); omega⟩, HK5.out.2⟩
                          case measure => simp [intOf]; omega
                        · obtain rfl : j = M := by omega
                          go_wp2
                          go_roundw
                          case rel => exact ⟨2, t3, R, Y2, by omega, by have h1 := HPre.out; have h2 := HR.out.2.2; have h3 := HSS2.out; have h4 := HM.out.2; have h5 := HN0.out; omega, by go_num, rfl, ⟨HR.out.1, by have h2 := HR.out.2.2; have h3 := HJ.out.2; omega, by have h2 := HR.out.2.2; have h3 := HJ.out.2; omega, by have h2 := HR.out.2.2; omega, ⟨(fun h => absurd h (by decide)), (fun h => absurd h (by decide)), (fun _ => by have h1 := HPre.out; have h2 := HR.out.2.2; have h3 := HJ.out.2.2.2.2.2.1 (by trivial); have h4 := HM.out.2; have h5 := HN0.out; have h6 := HR.out.1.k0.sl; have h7 := HR.out.1.k1.sl; omega), (fun h => absurd h (by decide))⟩⟩, hbq⟩
                          case measure => simp [intOf]
                    · have HN0 : Hid (¬ Y2.n = 0) := hS0
                      clear hS0
                      go_loopw [7, 106] (fun v i wq => ∃ (j t3 : Nat) (R : En), j ≤ M ∧ t3 ≤ t2 + j ∧ i = .int .i64 j ∧ v = .int .i64 (t3 : Int) ∧ Hid (Duo wq w.heap.size ge g0 g1 P0 R Y2 ∧ Pks wq wj.heap.size (fun k => wj.heap.size ≤ k) (.slice a6 M c6) (pksOf (idI P0 true) Y2.L Y2.s Y2.h) ∧ R.s = X2.s ∧ t3 = Y2.h + R.h ∧ R.h = X2.h + (j) ∧ (j = 0 → R.n = X2.n) ∧ (¬ j = 0 → R.n = X2.s - Y2.h)) ∧ Below w.heap.size w wq) (fun _ i _ => M - (intOf i).toNat)
                      case atStart => exact ⟨0, t2, X2, Nat.zero_le _, by omega, rfl, rfl, ⟨HS6.out.1, HS6.out.2, rfl, by have := HJ.out.2; omega, by simp, fun _ => rfl, fun h => absurd rfl h⟩, HB6.out⟩
                      case round =>
                        clear HS6 HB6
                        obtain ⟨j, t3, R, hj, ht3, rfl, rfl, HR, hbq⟩ := hrel
                        rename World => wq
                        by_cases hjl : j < M
                        · obtain ⟨g6, b, au, mu, cu, rfl, p6, hy6, hb7⟩ := pks_at HR.out.2.1 HSL.out.1 HSL.out.2 HM.out.1 j hjl
                          obtain ⟨sq, hsq⟩ : ∃ sq : Int, (if Y2.n = 0 then (0 : Int) else (Y2.s : Int) - (Y2.n : Int) + 1 + (j : Int)) = sq := ⟨_, rfl⟩
                          rw [hsq] at p6
                          have i0 : wq.cell? ⟨g6, j * 7, none⟩ = some (.int .i64 P0.cl) := p6.c0
                          have i1 : wq.cell? ⟨g6, j * 7 + 1, none⟩ = some (.int .i64 P0.ep) := p6.c1
                          have i2 : wq.cell? ⟨g6, j * 7 + 2, none⟩ = some (.int .i64 P0.bo) := p6.c2
                          have i3 : wq.cell? ⟨g6, j * 7 + 3, none⟩ = some (.int .i64 sq) := p6.c3
                          have i4 : wq.cell? ⟨g6, j * 7 + 4, none⟩ = some (.int .i64 (Y2.h : Int)) := p6.c4
                          have i5 : wq.cell? ⟨g6, j * 7 + 5, none⟩ = some (.bool true) := p6.c5
                          have i6 : wq.cell? ⟨g6, j * 7 + 6, none⟩ = some (.slice au mu cu) := p6.c6
                          clear p6
                          have hnR : R.n ≤ R.s := HR.out.1.k0.sl
                          have hP : Y2.h ≤ R.s ∧ R.s - R.n ≤ Y2.h := by have h1 := HPre.out; have h2 := HR.out.2.2; by_cases e : j = 0 <;> omega
                          obtain ⟨n2, hn2⟩ : ∃ n2, R.s - Y2.h = n2 := ⟨_, rfl⟩
                          obtain ⟨h2, hh2⟩ : ∃ h2, R.h + 1 = h2 := ⟨_, rfl⟩
                          obtain ⟨L2, hL2⟩ : ∃ L2, R.L.drop (gotC (idI P0 false) R.n R.s (mkPk (idI P0 true) Y2.h sq b)) = L2 := ⟨_, rfl⟩
                          obtain ⟨XX, hXX⟩ : ∃ XX, gotX (idI P0 false) R.s R.h (mkPk (idI P0 true) Y2.h sq b) = XX := ⟨_, rfl⟩
                          have hF := got_facts (P := P0) (b0 := true) (b1 := false) (by decide) (hX := Y2.h) (sq := sq) (bs := b) (n := R.n) (s := R.s) (h := R.h) hnR hP.1 hP.2
                          have hsqB : (sq == (R.h : Int) + 1) = true := by have h1 := HPre.out; have h2 := HR.out.2.2; rw [← hsq]; rw [if_neg HN0.out]; simp; omega
                          have HG : Hid (gotB (idI P0 false) R.s R.h (mkPk (idI P0 true) Y2.h sq b) = true ∧ R.n - gotC (idI P0 false) R.n R.s (mkPk (idI P0 true) Y2.h sq b) = n2 ∧ gotH (idI P0 false) R.s R.h (mkPk (idI P0 true) Y2.h sq b) = h2 ∧ R.L.drop (gotC (idI P0 false) R.n R.s (mkPk (idI P0 true) Y2.h sq b)) = L2 ∧ gotX (idI P0 false) R.s R.h (mkPk (idI P0 true) Y2.h sq b) = XX ∧ R.s - Y2.h = n2 ∧ R.h + 1 = h2) := ⟨hF.2.trans hsqB, hF.1.trans hn2, by unfold gotH; rw [hF.2, hsqB]; exact hh2, hL2, hXX, hn2, hh2⟩
                          have hRh : R.h < 16777215 := by have h1 := HPre.out; have h2 := HR.out.2.2; have h3 := HSS2.out; have h4 := HM.out.2; omega
                          clear hF hsqB hn2 hh2 hL2 hXX hsq hP hnR
                          obtain ⟨W1, hW1⟩ : ∃ W1, W1 = wq.alloc (.cells #[.int .i64 P0.cl, .int .i64 P0.ep, .int .i64 P0.bo, .int .i64 sq, .int .i64 (Y2.h : Int), .bool true, .slice au mu cu] 30) := ⟨_, rfl⟩
                          have HB1 : Hid (Below wq.heap.size wq W1) := by rw [hW1]; exact (Below.refl _ _).alloc (Nat.le_refl _) _
                          have hpb : W1.heap[wq.heap.size]? = some (.cells #[.int .i64 P0.cl, .int .i64 P0.ep, .int .i64 P0.bo, .int .i64 sq, .int .i64 (Y2.h : Int), .bool true, .slice au mu cu] 30) := by rw [hW1]; exact heap_alloc_new wq _
                          have HD1 : Hid (Duo W1.drew w.heap.size ge g0 g1 P0 R Y2) := (HR.out.1.below HB1.out).below (bel0 W1)
                          have HY1 : Hid (By W1.drew (fun k => wj.heap.size ≤ k) (.slice au mu cu) b) := (hy6.below HB1.out).below (bel0 W1)
                          have KS : Hid (∀ W : World, KT W1 W → W.cell? ⟨ge, 0, none⟩ = some (lp g0) ∧ W.cell? ⟨wq.heap.size, 0, none⟩ = some (.int .i64 P0.cl) ∧ W.cell? ⟨wq.heap.size, 1, none⟩ = some (.int .i64 P0.ep) ∧ W.cell? ⟨wq.heap.size, 2, none⟩ = some (.int .i64 P0.bo) ∧ W.cell? ⟨wq.heap.size, 3, none⟩ = some (.int .i64 sq) ∧ W.cell? ⟨wq.heap.size, 4, none⟩ = some (.int .i64 (Y2.h : Int)) ∧ W.cell? ⟨wq.heap.size, 5, none⟩ = some (.bool true) ∧ W.cell? ⟨wq.heap.size, 6, none⟩ = some (.slice au mu cu)) := fun W hW => by
                            have c := fun i => kt_cell hW hpb (by decide) (by decide) i
                            obtain ⟨cs, fr, h9⟩ := HD1.out.et
                            refine ⟨(kt_cell hW (show W1.heap[ge]? = _ from h9) (by decide) (by decide) 0).trans HD1.out.e0, (c 0).trans ?_, (c 1).trans ?_, (c 2).trans ?_, (c 3).trans ?_, (c 4).trans ?_, (c 5).trans ?_, (c 6).trans ?_⟩
                            all_goals rw [cell_of_row _ _ _ _ _ _ hpb]; rfl
                          clear hpb hy6
                          go_upto_region 19 with fail
                          rw [← hW1]
                          clear hW1
                          go_region_held (fun W => W.cell? ⟨ge, 0, none⟩ = some (lp g0) ∧ W.cell? ⟨wq.heap.size, 0, none⟩ = some (.int .i64 P0.cl) ∧ W.cell? ⟨wq.heap.size, 1, none⟩ = some (.int .i64 P0.ep) ∧ W.cell? ⟨wq.heap.size, 2, none⟩ = some (.int .i64 P0.bo) ∧ W.cell? ⟨wq.heap.size, 3, none⟩ = some (.int .i64 sq) ∧ W.cell? ⟨wq.heap.size, 4, none⟩ = some (.int .i64 (Y2.h : Int)) ∧ W.cell? ⟨wq.heap.size, 5, none⟩ = some (.bool true) ∧ W.cell? ⟨wq.heap.size, 6, none⟩ = some (.slice au mu cu))
                            (first
                              | with_reducible exact KS.out _ (KT.of_below (bel0 W1))
                              | with_reducible exact KS.out _ hT5
                              | fail)
                            (first
                              | (go_at_call 14; refine (got_is W1.drew w.heap.size g0 R.ao R.n R.cap (fun _ => True) (idI P0 false) R.L R.s R.h HD1.out.k0 (mkPk (idI P0 true) Y2.h sq b) (.slice au mu cu) (fun k => wj.heap.size ≤ k) HY1.out (by simp only [mkPk]; omega) hRh true n2 h2 XX L2 HG.out.1 HG.out.2.1 HG.out.2.2.2.1 HG.out.2.2.1 HG.out.2.2.2.2.1).mono ?_; rintro e w5 ⟨v5, rfl, -, K5, hO5⟩; have hT5 : KT W1 w5 := (KT.of_below (bel0 W1)).trans (HD1.out.k0.ktOff hO5); have HK5 : Hid (Duo w5 w.heap.size ge g0 g1 P0 ⟨R.ao, n2, R.cap, L2, R.s, h2⟩ Y2 ∧ Below w.heap.size w w5) := ⟨HD1.out.step0 (Z := ⟨R.ao, n2, R.cap, L2, R.s, h2⟩) K5 hO5 (Nw.refl _ _), ((below_step hbq HB1.out).trans ((bel0 W1).mono (by have := hbq.size; have := HB1.out.size; omega))).trans (HD1.out.k0.belowB hO5)⟩)
                              | fail)
                          clear K5
                          go_wp2
                          go_roundw
                          case rel => exact ⟨j + 1, t3 + 1, ⟨R.ao, n2, R.cap, L2, R.s, h2⟩, by omega, by omega, by go_num, by go_num, ⟨HK5.out.1, (HR.out.2.1.below HB1.out).kt hT5, HR.out.2.2.1, by have h1 := HR.out.2.2; have h2 := HG.out.2.2.2.2.2; (try simp only); omega, by have h1 := HR.out.2.2; have h2 := HG.out.2.2.2.2.2; (try simp only); omega, fun h => absurd h (by omega), fun _ => by have h1 := HR.out.2.2; have h2 := HG.out.2.2.2.2.2; (try simp only); omega⟩, HK5.out.2⟩
                          case measure => simp [intOf]; omega
                        · obtain rfl : j = M := by omega
                          go_wp2
                          go_roundw
                          case rel => exact ⟨2, t3, R, Y2, by omega, by have h1 := HPre.out; have h2 := HR.out.2.2; have h3 := HSS2.out; have h4 := HM.out.2; have h5 := HN0.out; omega, by go_num, rfl, ⟨HR.out.1, by have h2 := HR.out.2.2; have h3 := HJ.out.2; omega, by have h2 := HR.out.2.2; have h3 := HJ.out.2; omega, by have h2 := HR.out.2.2; omega, ⟨(fun h => absurd h (by decide)), (fun h => absurd h (by decide)), (fun _ => by have h1 := HPre.out; have h2 := HR.out.2.2; have h3 := HJ.out.2.2.2.2.2.1 (by trivial); have h4 := HM.out.2; have h5 := HN0.out; have h6 := HR.out.1.k0.sl; have h7 := HR.out.1.k1.sl; omega), (fun h => absurd h (by decide))⟩⟩, hbq⟩
                          case measure => simp [intOf]
                  · have q0 := HJ.out.1.e0
                    have q1 := HJ.out.1.e1
                    obtain ⟨M, hM⟩ : ∃ M, (pksOf (idI P0 false) X2.L X2.s X2.h).length = M := ⟨_, rfl⟩
                    have hML : M = max 1 X2.n := by rw [← hM, pks_len, HJ.out.1.k0.len]
                    have hM8 : M ≤ 8 := by have := HJ.out.1.k0.le; omega
                    have HM : Hid ((pksOf (idI P0 false) X2.L X2.s X2.h).length = M ∧ 1 ≤ M ∧ (¬ X2.n = 0 → M = X2.n)) := ⟨hM, by omega, by intro h; omega⟩
                    have HSL : Hid (X2.L.length = X2.n ∧ ∀ bs ∈ X2.L, bs.length ≤ 700) := ⟨HJ.out.1.k0.len, HJ.out.1.k0.sz⟩
                    have HPre : Hid (X2.s = Y2.h + X2.n ∧ X2.h ≤ Y2.s ∧ Y2.s - Y2.n ≤ X2.h) := by unfold Hid; have h3 := HJ.out.2.2.2.2.2.2.1 (by trivial); have h4 := HJ.out.1.k0.sl; have h5 := HJ.out.1.k1.sl; omega
                    have HSS2 : Hid (X2.s ≤ 100 ∧ Y2.s ≤ 100) := by unfold Hid; have h3 := HJ.out.2; omega
                    clear hM hML
                    go_wp2_with (first
                      | (go_at_call 17; refine (packets_any wj _ _ _ _ _ _ _ _ _ _ HJ.out.1.k0).mono ?_; rintro e w6 ⟨v6, rfl, hp6, hb6⟩; obtain ⟨a6, c6, hv6, -⟩ := hp6.shape; rw [HM.out.1] at hv6; subst hv6))
                    have HS6 : Hid (Duo w6 w.heap.size ge g0 g1 P0 X2 Y2 ∧ Pks w6 wj.heap.size (fun k => wj.heap.size ≤ k) (.slice a6 M c6) (pksOf (idI P0 false) X2.L X2.s X2.h)) := ⟨HJ.out.1.below hb6, hp6⟩
                    have HB6 : Hid (Below w.heap.size w w6) := below_step hbj hb6
                    clear hp6 q0 q1
                    have HN0 : Hid (X2.n = 0) := by unfold Hid; have h3 := HJ.out.2.2.2.2.2.2.1 (by trivial); omega
                    go_loopw [7, 106] (fun v i wq => ∃ (j t3 : Nat) (R : En), j ≤ M ∧ t3 ≤ t2 + j ∧ i = .int .i64 j ∧ v = .int .i64 (t3 : Int) ∧ Hid (Duo wq w.heap.size ge g0 g1 P0 X2 R ∧ Pks wq wj.heap.size (fun k => wj.heap.size ≤ k) (.slice a6 M c6) (pksOf (idI P0 false) X2.L X2.s X2.h) ∧ R.s = Y2.s ∧ t3 = X2.h + R.h ∧ R.h = Y2.h ∧ (j = 0 → R.n = Y2.n) ∧ (¬ j = 0 → R.n = Y2.s - X2.h)) ∧ Below w.heap.size w wq) (fun _ i _ => M - (intOf i).toNat)
                    case atStart => exact ⟨0, t2, Y2, Nat.zero_le _, by omega, rfl, rfl, ⟨HS6.out.1, HS6.out.2, rfl, by have := HJ.out.2; omega, by simp, fun _ => rfl, fun h => absurd rfl h⟩, HB6.out⟩
                    case round =>
                      clear HS6 HB6
                      obtain ⟨j, t3, R, hj, ht3, rfl, rfl, HR, hbq⟩ := hrel
                      rename World => wq
                      by_cases hjl : j < M
                      · obtain ⟨g6, b, au, mu, cu, rfl, p6, hy6, hb7⟩ := pks_at HR.out.2.1 HSL.out.1 HSL.out.2 HM.out.1 j hjl
                        obtain ⟨sq, hsq⟩ : ∃ sq : Int, (if X2.n = 0 then (0 : Int) else (X2.s : Int) - (X2.n : Int) + 1 + (j : Int)) = sq := ⟨_, rfl⟩
                        rw [hsq] at p6
                        have i0 : wq.cell? ⟨g6, j * 7, none⟩ = some (.int .i64 P0.cl) := p6.c0
                        have i1 : wq.cell? ⟨g6, j * 7 + 1, none⟩ = some (.int .i64 P0.ep) := p6.c1
                        have i2 : wq.cell? ⟨g6, j * 7 + 2, none⟩ = some (.int .i64 P0.bo) := p6.c2
                        have i3 : wq.cell? ⟨g6, j * 7 + 3, none⟩ = some (.int .i64 sq) := p6.c3
                        have i4 : wq.cell? ⟨g6, j * 7 + 4, none⟩ = some (.int .i64 (X2.h : Int)) := p6.c4
                        have i5 : wq.cell? ⟨g6, j * 7 + 5, none⟩ = some (.bool false) := p6.c5
                        have i6 : wq.cell? ⟨g6, j * 7 + 6, none⟩ = some (.slice au mu cu) := p6.c6
                        clear p6
                        have hnR : R.n ≤ R.s := HR.out.1.k1.sl
                        have hP : X2.h ≤ R.s ∧ R.s - R.n ≤ X2.h := by have h1 := HPre.out; have h2 := HR.out.2.2; by_cases e : j = 0 <;> omega
                        obtain ⟨n2, hn2⟩ : ∃ n2, R.s - X2.h = n2 := ⟨_, rfl⟩
                        obtain ⟨h2, hh2⟩ : ∃ h2, R.h = h2 := ⟨_, rfl⟩
                        obtain ⟨L2, hL2⟩ : ∃ L2, R.L.drop (gotC (idI P0 true) R.n R.s (mkPk (idI P0 false) X2.h sq b)) = L2 := ⟨_, rfl⟩
                        obtain ⟨XX, hXX⟩ : ∃ XX, gotX (idI P0 true) R.s R.h (mkPk (idI P0 false) X2.h sq b) = XX := ⟨_, rfl⟩
                        have hF := got_facts (P := P0) (b0 := false) (b1 := true) (by decide) (hX := X2.h) (sq := sq) (bs := b) (n := R.n) (s := R.s) (h := R.h) hnR hP.1 hP.2
                        have hsqB : (sq == (R.h : Int) + 1) = false := by have h1 := HPre.out; have h2 := HR.out.2.2; rw [← hsq]; rw [if_pos HN0.out]; simp; omega
                        have HG : Hid (gotB (idI P0 true) R.s R.h (mkPk (idI P0 false) X2.h sq b) = false ∧ R.n - gotC (idI P0 true) R.n R.s (mkPk (idI P0 false) X2.h sq b) = n2 ∧ gotH (idI P0 true) R.s R.h (mkPk (idI P0 false) X2.h sq b) = h2 ∧ R.L.drop (gotC (idI P0 true) R.n R.s (mkPk (idI P0 false) X2.h sq b)) = L2 ∧ gotX (idI P0 true) R.s R.h (mkPk (idI P0 false) X2.h sq b) = XX ∧ R.s - X2.h = n2 ∧ R.h = h2) := ⟨hF.2.trans hsqB, hF.1.trans hn2, by unfold gotH; rw [hF.2, hsqB]; exact hh2, hL2, hXX, hn2, hh2⟩
                        have hRh : R.h < 16777215 := by have h1 := HPre.out; have h2 := HR.out.2.2; have h3 := HSS2.out; have h4 := HM.out.2; omega
                        clear hF hsqB hn2 hh2 hL2 hXX hsq hP hnR
                        obtain ⟨W1, hW1⟩ : ∃ W1, W1 = wq.alloc (.cells #[.int .i64 P0.cl, .int .i64 P0.ep, .int .i64 P0.bo, .int .i64 sq, .int .i64 (X2.h : Int), .bool false, .slice au mu cu] 30) := ⟨_, rfl⟩
                        have HB1 : Hid (Below wq.heap.size wq W1) := by rw [hW1]; exact (Below.refl _ _).alloc (Nat.le_refl _) _
                        have hpb : W1.heap[wq.heap.size]? = some (.cells #[.int .i64 P0.cl, .int .i64 P0.ep, .int .i64 P0.bo, .int .i64 sq, .int .i64 (X2.h : Int), .bool false, .slice au mu cu] 30) := by rw [hW1]; exact heap_alloc_new wq _
                        have HD1 : Hid (Duo W1.drew w.heap.size ge g0 g1 P0 X2 R) := (HR.out.1.below HB1.out).below (bel0 W1)
                        have HY1 : Hid (By W1.drew (fun k => wj.heap.size ≤ k) (.slice au mu cu) b) := (hy6.below HB1.out).below (bel0 W1)
                        have KS : Hid (∀ W : World, KT W1 W → W.cell? ⟨ge, 1, none⟩ = some (lp g1) ∧ W.cell? ⟨wq.heap.size, 0, none⟩ = some (.int .i64 P0.cl) ∧ W.cell? ⟨wq.heap.size, 1, none⟩ = some (.int .i64 P0.ep) ∧ W.cell? ⟨wq.heap.size, 2, none⟩ = some (.int .i64 P0.bo) ∧ W.cell? ⟨wq.heap.size, 3, none⟩ = some (.int .i64 sq) ∧ W.cell? ⟨wq.heap.size, 4, none⟩ = some (.int .i64 (X2.h : Int)) ∧ W.cell? ⟨wq.heap.size, 5, none⟩ = some (.bool false) ∧ W.cell? ⟨wq.heap.size, 6, none⟩ = some (.slice au mu cu)) := fun W hW => by
                          have c := fun i => kt_cell hW hpb (by decide) (by decide) i
                          obtain ⟨cs, fr, h9⟩ := HD1.out.et
                          refine ⟨(kt_cell hW (show W1.heap[ge]? = _ from h9) (by decide) (by decide) 1).trans HD1.out.e1, (c 0).trans ?_, (c 1).trans ?_, (c 2).trans ?_, (c 3).trans ?_, (c 4).trans ?_, (c 5).trans ?_, (c 6).trans ?_⟩
                          all_goals rw [cell_of_row _ _ _ _ _ _ hpb]; rfl
                        clear hpb hy6
                        go_upto_region 19 with fail
                        rw [← hW1]
                        clear hW1
                        go_region_held (fun W => W.cell? ⟨ge, 1, none⟩ = some (lp g1) ∧ W.cell? ⟨wq.heap.size, 0, none⟩ = some (.int .i64 P0.cl) ∧ W.cell? ⟨wq.heap.size, 1, none⟩ = some (.int .i64 P0.ep) ∧ W.cell? ⟨wq.heap.size, 2, none⟩ = some (.int .i64 P0.bo) ∧ W.cell? ⟨wq.heap.size, 3, none⟩ = some (.int .i64 sq) ∧ W.cell? ⟨wq.heap.size, 4, none⟩ = some (.int .i64 (X2.h : Int)) ∧ W.cell? ⟨wq.heap.size, 5, none⟩ = some (.bool false) ∧ W.cell? ⟨wq.heap.size, 6, none⟩ = some (.slice au mu cu))
                          (first
                            | with_reducible exact KS.out _ (KT.of_below (bel0 W1))
                            | with_reducible exact KS.out _ hT5
                            | fail)
                          (first
                            | (go_at_call 14; refine (got_is W1.drew w.heap.size g1 R.ao R.n R.cap (fun _ => True) (idI P0 true) R.L R.s R.h HD1.out.k1 (mkPk (idI P0 false) X2.h sq b) (.slice au mu cu) (fun k => wj.heap.size ≤ k) HY1.out (by simp only [mkPk]; omega) hRh false n2 h2 XX L2 HG.out.1 HG.out.2.1 HG.out.2.2.2.1 HG.out.2.2.1 HG.out.2.2.2.2.1).mono ?_; rintro e w5 ⟨v5, rfl, -, K5, hO5⟩; have hT5 : KT W1 w5 := (KT.of_below (bel0 W1)).trans (HD1.out.k1.ktOff hO5); have HK5 : Hid (Duo w5 w.heap.size ge g0 g1 P0 X2 ⟨R.ao, n2, R.cap, L2, R.s, h2⟩ ∧ Below w.heap.size w w5) := ⟨HD1.out.step1 (Z := ⟨R.ao, n2, R.cap, L2, R.s, h2⟩) K5 hO5 (Nw.refl _ _), ((below_step hbq HB1.out).trans ((bel0 W1).mono (by have := hbq.size; have := HB1.out.size; omega))).trans (HD1.out.k1.belowB hO5)⟩)
                            | fail)
                        clear K5
                        go_wp2
                        go_roundw
                        case rel => exact ⟨j + 1, t3, ⟨R.ao, n2, R.cap, L2, R.s, h2⟩, by omega, by omega, by go_num, by go_num, ⟨HK5.out.1, (HR.out.2.1.below HB1.out).kt hT5, HR.out.2.2.1, by have h1 := HR.out.2.2; have h2 := HG.out.2.2.2.2.2; (try simp only); omega, by have h1 := HR.out.2.2; have h2 := HG.out.2.2.2.2.2; (try simp only); omega, fun h => absurd h (by omega), fun _ => by have h1 := HR.out.2.2; have h2 := HG.out.2.2.2.2.2; (try simp only); omega⟩, HK5.out.2⟩
                        case measure => simp [intOf]; omega
                      · obtain rfl : j = M := by omega
                        go_wp2
                        go_roundw
                        case rel => exact ⟨3, t3, X2, R, by omega, by have h1 := HPre.out; have h2 := HR.out.2.2; have h3 := HSS2.out; have h4 := HM.out.2; have h5 := HN0.out; omega, by go_num, rfl, ⟨HR.out.1, by have h2 := HR.out.2.2; have h3 := HJ.out.2; omega, by have h2 := HR.out.2.2; have h3 := HJ.out.2; omega, by have h2 := HR.out.2.2; omega, ⟨(fun h => absurd h (by decide)), (fun h => absurd h (by decide)), (fun h => absurd h (by decide)), (fun _ => by have h1 := HPre.out; have h2 := HR.out.2.2; have h3 := HJ.out.2.2.2.2.2.2.1 (by trivial); have h4 := HM.out.2; have h5 := HN0.out; have h6 := HR.out.1.k0.sl; have h7 := HR.out.1.k1.sl; omega)⟩⟩, hbq⟩
                        case measure => simp [intOf]
                  · have q0 := HJ.out.1.e0
                    have q1 := HJ.out.1.e1
                    obtain ⟨M, hM⟩ : ∃ M, (pksOf (idI P0 true) Y2.L Y2.s Y2.h).length = M := ⟨_, rfl⟩
                    have hML : M = max 1 Y2.n := by rw [← hM, pks_len, HJ.out.1.k1.len]
                    have hM8 : M ≤ 8 := by have := HJ.out.1.k1.le; omega
                    have HM : Hid ((pksOf (idI P0 true) Y2.L Y2.s Y2.h).length = M ∧ 1 ≤ M ∧ (¬ Y2.n = 0 → M = Y2.n)) := ⟨hM, by omega, by intro h; omega⟩
                    have HSL : Hid (Y2.L.length = Y2.n ∧ ∀ bs ∈ Y2.L, bs.length ≤ 700) := ⟨HJ.out.1.k1.len, HJ.out.1.k1.sz⟩
                    have HPre : Hid (Y2.s = X2.h + Y2.n ∧ Y2.h ≤ X2.s ∧ X2.s - X2.n ≤ Y2.h) := by unfold Hid; have h3 := HJ.out.2.2.2.2.2.2.2 (by decide); have h4 := HJ.out.1.k0.sl; have h5 := HJ.out.1.k1.sl; omega
                    have HSS2 : Hid (X2.s ≤ 100 ∧ Y2.s ≤ 100) := by unfold Hid; have h3 := HJ.out.2; omega
                    clear hM hML
                    go_wp2_with (first
                      | (go_at_call 17; refine (packets_any wj _ _ _ _ _ _ _ _ _ _ HJ.out.1.k1).mono ?_; rintro e w6 ⟨v6, rfl, hp6, hb6⟩; obtain ⟨a6, c6, hv6, -⟩ := hp6.shape; rw [HM.out.1] at hv6; subst hv6))
                    have HS6 : Hid (Duo w6 w.heap.size ge g0 g1 P0 X2 Y2 ∧ Pks w6 wj.heap.size (fun k => wj.heap.size ≤ k) (.slice a6 M c6) (pksOf (idI P0 true) Y2.L Y2.s Y2.h)) := ⟨HJ.out.1.below hb6, hp6⟩
                    have HB6 : Hid (Below w.heap.size w w6) := below_step hbj hb6
                    clear hp6 q0 q1
                    have HN0 : Hid (Y2.n = 0) := by unfold Hid; have h3 := HJ.out.2.2.2.2.2.2.2 (by decide); omega
                    go_loopw [7, 106] (fun v i wq => ∃ (j t3 : Nat) (R : En), j ≤ M ∧ t3 ≤ t2 + j ∧ i = .int .i64 j ∧ v = .int .i64 (t3 : Int) ∧ Hid (Duo wq w.heap.size ge g0 g1 P0 R Y2 ∧ Pks wq wj.heap.size (fun k => wj.heap.size ≤ k) (.slice a6 M c6) (pksOf (idI P0 true) Y2.L Y2.s Y2.h) ∧ R.s = X2.s ∧ t3 = Y2.h + R.h ∧ R.h = X2.h ∧ (j = 0 → R.n = X2.n) ∧ (¬ j = 0 → R.n = X2.s - Y2.h)) ∧ Below w.heap.size w wq) (fun _ i _ => M - (intOf i).toNat)
                    case atStart => exact ⟨0, t2, X2, Nat.zero_le _, by omega, rfl, rfl, ⟨HS6.out.1, HS6.out.2, rfl, by have := HJ.out.2; omega, by simp, fun _ => rfl, fun h => absurd rfl h⟩, HB6.out⟩
                    case round =>
                      clear HS6 HB6
                      obtain ⟨j, t3, R, hj, ht3, rfl, rfl, HR, hbq⟩ := hrel
                      rename World => wq
                      by_cases hjl : j < M
                      · obtain ⟨g6, b, au, mu, cu, rfl, p6, hy6, hb7⟩ := pks_at HR.out.2.1 HSL.out.1 HSL.out.2 HM.out.1 j hjl
                        obtain ⟨sq, hsq⟩ : ∃ sq : Int, (if Y2.n = 0 then (0 : Int) else (Y2.s : Int) - (Y2.n : Int) + 1 + (j : Int)) = sq := ⟨_, rfl⟩
                        rw [hsq] at p6
                        have i0 : wq.cell? ⟨g6, j * 7, none⟩ = some (.int .i64 P0.cl) := p6.c0
                        have i1 : wq.cell? ⟨g6, j * 7 + 1, none⟩ = some (.int .i64 P0.ep) := p6.c1
                        have i2 : wq.cell? ⟨g6, j * 7 + 2, none⟩ = some (.int .i64 P0.bo) := p6.c2
                        have i3 : wq.cell? ⟨g6, j * 7 + 3, none⟩ = some (.int .i64 sq) := p6.c3
                        have i4 : wq.cell? ⟨g6, j * 7 + 4, none⟩ = some (.int .i64 (Y2.h : Int)) := p6.c4
                        have i5 : wq.cell? ⟨g6, j * 7 + 5, none⟩ = some (.bool true) := p6.c5
                        have i6 : wq.cell? ⟨g6, j * 7 + 6, none⟩ = some (.slice au mu cu) := p6.c6
                        clear p6
                        have hnR : R.n ≤ R.s := HR.out.1.k0.sl
                        have hP : Y2.h ≤ R.s ∧ R.s - R.n ≤ Y2.h := by have h1 := HPre.out; have h2 := HR.out.2.2; by_cases e : j = 0 <;> omega
                        obtain ⟨n2, hn2⟩ : ∃ n2, R.s - Y2.h = n2 := ⟨_, rfl⟩
                        obtain ⟨h2, hh2⟩ : ∃ h2, R.h = h2 := ⟨_, rfl⟩
                        obtain ⟨L2, hL2⟩ : ∃ L2, R.L.drop (gotC (idI P0 false) R.n R.s (mkPk (idI P0 true) Y2.h sq b)) = L2 := ⟨_, rfl⟩
                        obtain ⟨XX, hXX⟩ : ∃ XX, gotX (idI P0 false) R.s R.h (mkPk (idI P0 true) Y2.h sq b) = XX := ⟨_, rfl⟩
                        have hF := got_facts (P := P0) (b0 := true) (b1 := false) (by decide) (hX := Y2.h) (sq := sq) (bs := b) (n := R.n) (s := R.s) (h := R.h) hnR hP.1 hP.2
                        have hsqB : (sq == (R.h : Int) + 1) = false := by have h1 := HPre.out; have h2 := HR.out.2.2; rw [← hsq]; rw [if_pos HN0.out]; simp; omega
                        have HG : Hid (gotB (idI P0 false) R.s R.h (mkPk (idI P0 true) Y2.h sq b) = false ∧ R.n - gotC (idI P0 false) R.n R.s (mkPk (idI P0 true) Y2.h sq b) = n2 ∧ gotH (idI P0 false) R.s R.h (mkPk (idI P0 true) Y2.h sq b) = h2 ∧ R.L.drop (gotC (idI P0 false) R.n R.s (mkPk (idI P0 true) Y2.h sq b)) = L2 ∧ gotX (idI P0 false) R.s R.h (mkPk (idI P0 true) Y2.h sq b) = XX ∧ R.s - Y2.h = n2 ∧ R.h = h2) := ⟨hF.2.trans hsqB, hF.1.trans hn2, by unfold gotH; rw [hF.2, hsqB]; exact hh2, hL2, hXX, hn2, hh2⟩
                        have hRh : R.h < 16777215 := by have h1 := HPre.out; have h2 := HR.out.2.2; have h3 := HSS2.out; have h4 := HM.out.2; omega
                        clear hF hsqB hn2 hh2 hL2 hXX hsq hP hnR
                        obtain ⟨W1, hW1⟩ : ∃ W1, W1 = wq.alloc (.cells #[.int .i64 P0.cl, .int .i64 P0.ep, .int .i64 P0.bo, .int .i64 sq, .int .i64 (Y2.h : Int), .bool true, .slice au mu cu] 30) := ⟨_, rfl⟩
                        have HB1 : Hid (Below wq.heap.size wq W1) := by rw [hW1]; exact (Below.refl _ _).alloc (Nat.le_refl _) _
                        have hpb : W1.heap[wq.heap.size]? = some (.cells #[.int .i64 P0.cl, .int .i64 P0.ep, .int .i64 P0.bo, .int .i64 sq, .int .i64 (Y2.h : Int), .bool true, .slice au mu cu] 30) := by rw [hW1]; exact heap_alloc_new wq _
                        have HD1 : Hid (Duo W1.drew w.heap.size ge g0 g1 P0 R Y2) := (HR.out.1.below HB1.out).below (bel0 W1)
                        have HY1 : Hid (By W1.drew (fun k => wj.heap.size ≤ k) (.slice au mu cu) b) := (hy6.below HB1.out).below (bel0 W1)
                        have KS : Hid (∀ W : World, KT W1 W → W.cell? ⟨ge, 0, none⟩ = some (lp g0) ∧ W.cell? ⟨wq.heap.size, 0, none⟩ = some (.int .i64 P0.cl) ∧ W.cell? ⟨wq.heap.size, 1, none⟩ = some (.int .i64 P0.ep) ∧ W.cell? ⟨wq.heap.size, 2, none⟩ = some (.int .i64 P0.bo) ∧ W.cell? ⟨wq.heap.size, 3, none⟩ = some (.int .i64 sq) ∧ W.cell? ⟨wq.heap.size, 4, none⟩ = some (.int .i64 (Y2.h : Int)) ∧ W.cell? ⟨wq.heap.size, 5, none⟩ = some (.bool true) ∧ W.cell? ⟨wq.heap.size, 6, none⟩ = some (.slice au mu cu)) := fun W hW => by
                          have c := fun i => kt_cell hW hpb (by decide) (by decide) i
                          obtain ⟨cs, fr, h9⟩ := HD1.out.et
                          refine ⟨(kt_cell hW (show W1.heap[ge]? = _ from h9) (by decide) (by decide) 0).trans HD1.out.e0, (c 0).trans ?_, (c 1).trans ?_, (c 2).trans ?_, (c 3).trans ?_, (c 4).trans ?_, (c 5).trans ?_, (c 6).trans ?_⟩
                          all_goals rw [cell_of_row _ _ _ _ _ _ hpb]; rfl
                        clear hpb hy6
                        go_upto_region 19 with fail
                        rw [← hW1]
                        clear hW1
                        go_region_held (fun W => W.cell? ⟨ge, 0, none⟩ = some (lp g0) ∧ W.cell? ⟨wq.heap.size, 0, none⟩ = some (.int .i64 P0.cl) ∧ W.cell? ⟨wq.heap.size, 1, none⟩ = some (.int .i64 P0.ep) ∧ W.cell? ⟨wq.heap.size, 2, none⟩ = some (.int .i64 P0.bo) ∧ W.cell? ⟨wq.heap.size, 3, none⟩ = some (.int .i64 sq) ∧ W.cell? ⟨wq.heap.size, 4, none⟩ = some (.int .i64 (Y2.h : Int)) ∧ W.cell? ⟨wq.heap.size, 5, none⟩ = some (.bool true) ∧ W.cell? ⟨wq.heap.size, 6, none⟩ = some (.slice au mu cu))
                          (first
                            | with_reducible exact KS.out _ (KT.of_below (bel0 W1))
                            | with_reducible exact KS.out _ hT5
                            | fail)
                          (first
                            | (go_at_call 14; refine (got_is W1.drew w.heap.size g0 R.ao R.n R.cap (fun _ => True) (idI P0 false) R.L R.s R.h HD1.out.k0 (mkPk (idI P0 true) Y2.h sq b) (.slice au mu cu) (fun k => wj.heap.size ≤ k) HY1.out (by simp only [mkPk]; omega) hRh false n2 h2 XX L2 HG.out.1 HG.out.2.1 HG.out.2.2.2.1 HG.out.2.2.1 HG.out.2.2.2.2.1).mono ?_; rintro e w5 ⟨v5, rfl, -, K5, hO5⟩; have hT5 : KT W1 w5 := (KT.of_below (bel0 W1)).trans (HD1.out.k0.ktOff hO5); have HK5 : Hid (Duo w5 w.heap.size ge g0 g1 P0 ⟨R.ao, n2, R.cap, L2, R.s, h2⟩ Y2 ∧ Below w.heap.size w w5) := ⟨HD1.out.step0 (Z := ⟨R.ao, n2, R.cap, L2, R.s, h2⟩) K5 hO5 (Nw.refl _ _), ((below_step hbq HB1.out).trans ((bel0 W1).mono (by have := hbq.size; have := HB1.out.size; omega))).trans (HD1.out.k0.belowB hO5)⟩)
                            | fail)
                        clear K5
                        go_wp2
                        go_roundw
                        case rel => exact ⟨j + 1, t3, ⟨R.ao, n2, R.cap, L2, R.s, h2⟩, by omega, by omega, by go_num, by go_num, ⟨HK5.out.1, (HR.out.2.1.below HB1.out).kt hT5, HR.out.2.2.1, by have h1 := HR.out.2.2; have h2 := HG.out.2.2.2.2.2; (try simp only); omega, by have h1 := HR.out.2.2; have h2 := HG.out.2.2.2.2.2; (try simp only); omega, fun h => absurd h (by omega), fun _ => by have h1 := HR.out.2.2; have h2 := HG.out.2.2.2.2.2; (try simp only); omega⟩, HK5.out.2⟩
                        case measure => simp [intOf]; omega
                      · obtain rfl : j = M := by omega
                        go_wp2
                        go_roundw
                        case rel => exact ⟨4, t3, R, Y2, by omega, by have h1 := HPre.out; have h2 := HR.out.2.2; have h3 := HSS2.out; have h4 := HM.out.2; have h5 := HN0.out; omega, by go_num, rfl, ⟨HR.out.1, by have h2 := HR.out.2.2; have h3 := HJ.out.2; omega, by have h2 := HR.out.2.2; have h3 := HJ.out.2; omega, by have h2 := HR.out.2.2; omega, ⟨(fun h => absurd h (by decide)), (fun h => absurd h (by decide)), (fun h => absurd h (by decide)), (fun _ => by have h1 := HPre.out; have h2 := HR.out.2.2; have h3 := HJ.out.2.2.2.2.2.2.2 (by decide); have h4 := HM.out.2; have h5 := HN0.out; have h6 := HR.out.1.k0.sl; have h7 := HR.out.1.k1.sl; omega)⟩⟩, hbq⟩
                        case measure => simp [intOf]
                · obtain rfl : kk = 4 := by omega
                  have q0 := HJ.out.1.e0
                  have q1 := HJ.out.1.e1
                  have HZ : Hid ((X2.n : Int) = 0 ∧ (Y2.n : Int) = 0) := by unfold Hid; have h3 := HJ.out.2.2.2.2.2.2.2 (by decide); omega
                  have e9 : ((t2 : Int) != (sn : Int)) = false := by have h3 := HJ.out.2; have h5 := HJ.out.2.2.2.2.2.2.2 (by decide); have h4 := HSS.out; simp; omega
                  have HL0 : Hid (∀ W : World, W.heap = wj.heap → Duo W w.heap.size ge g0 g1 P0 X2 Y2) := fun W hW => HJ.out.1.below2 hW
                  go_upto_region 23 with fail
                  go_quiet ((first
                    | (go_at_call_of 19 (lp g0); refine (open_z _ _ _ _ _ _ _ _ _ _ _ (HL0.out _ ?_).k0 0 HZ.out.1).mono ?_; rfl; rintro e w9 ⟨rfl, hw⟩; subst w9; exact ⟨rfl, _, rfl⟩)
                    | (go_at_call 19; refine (open_z _ _ _ _ _ _ _ _ _ _ _ (HL0.out _ ?_).k1 0 HZ.out.2).mono ?_; rfl; rintro e w9 ⟨rfl, hw⟩; subst w9; exact ⟨rfl, _, rfl⟩)))
                  go_wp2
                  go_roundw
                  case rel => exact ⟨k + 1, sn, t2, X2, Y2, by omega, by omega, by have h3 := HJ.out.2; have h6 := HJ.out.2.2.2.2.2.2.2 (by decide); have h4 := HSS.out; omega, by go_num, rfl, rfl, ⟨HL0.out _ rfl, by have h3 := HJ.out.2; have h6 := HJ.out.2.2.2.2.2.2.2 (by decide); omega, by have h3 := HJ.out.2; have h6 := HJ.out.2.2.2.2.2.2.2 (by decide); omega, by have h3 := HJ.out.2; have h6 := HJ.out.2.2.2.2.2.2.2 (by decide); have h4 := HSS.out; omega, by have h3 := HJ.out.2; have h6 := HJ.out.2.2.2.2.2.2.2 (by decide); omega, by have h3 := HJ.out.2; have h6 := HJ.out.2.2.2.2.2.2.2 (by decide); have h4 := HSS.out; have h5 := HI.out.2; omega, by have h3 := HJ.out.2; have h6 := HJ.out.2.2.2.2.2.2.2 (by decide); have h4 := HSS.out; have h5 := HI.out.2; omega⟩, below_drN hbj _⟩
                  case measure => simp [intOf]; omega
      · go_wp2
        go_ret
        exact ⟨rfl, hbel⟩

end Go.Proofs.Ytgdlejeopdipiaa
