/- What Read of package page does with the bytes of a page, walked. -/
import Derived.Test.YthckdfggnmoaeaaPg3
import Derived.Test.YthckdfggnmoaeaaPg2
namespace Go.Proofs.Ythckdfggnmoaeaa
open Go.RowKit
set_option linter.unusedVariables false

theorem formN_twice (a : Nat) : formN (formN a) = formN a := by
  unfold formN
  by_cases h : nanB a = true
  · have h2 : nanB 9221120237041090561 = true := by rw [nanB_eq]; decide
    simp [h, h2]
  · simp [h]

theorem rdW_wr {a : Nat} (h : a < 18446744073709551616) : rdW (wrN 8 (a : Int)) = a := by
  unfold rdW
  rw [rdN_wrN 8 _ (by omega) (by have : (256 : Int) ^ 8 = 18446744073709551616 := by decide
                                 omega)]
  simp

/-- What is read of an object's bytes. -/
def canO (x : Nat × Nat) : Nat × Nat := (formN x.1, formN x.2)

theorem valN_bd (a b : Nat) : ∀ z ∈ valN a b, 0 ≤ z ∧ z < 256 := by
  intro z hz
  rw [valN, List.mem_append] at hz
  rcases hz with h | h
  all_goals exact wrN_bd _ _ z h

theorem take_val (ao : Option Addr) (cap n m : Nat) (x : Nat × Nat) (zs : List Int) (w : World) (hrd : RdI w .u8 ao cap (valN x.1 x.2 ++ zs)) (hm : zs.length = m) (hn : n = 16 + m) (hx : wordB x) (hb : ∀ z ∈ zs, 0 ≤ z ∧ z < 256) (hlen : n ≤ 140737488355328) :
    Calls Try.prog 81 #[.slice ao n cap] w fun e w' => ∃ a2 c2, e = .returned (.tuple #[.complex .f64 (canO x).1 (canO x).2, .slice a2 m c2, .int .i64 0]) ∧ OwnI w' w.heap.size 5 .u8 a2 c2 zs ∧ Below w.heap.size w w' := by
  have hl := valN_length x.1 x.2
  have h1 : rdW ((valN x.1 x.2 ++ zs).take 8) = formN x.1 := by
    rw [valN, List.append_assoc, List.take_append_of_le_length (by simp), List.take_of_length_le (by simp), rdW_wr (formN_lt _ hx.1)]
  have h2 : rdW (((valN x.1 x.2 ++ zs).drop 8).take 8) = formN x.2 := by
    rw [valN, List.append_assoc, List.drop_append_of_le_length (by simp), List.drop_of_length_le (by simp), List.nil_append, List.take_append_of_le_length (by simp), List.take_of_length_le (by simp), rdW_wr (formN_lt _ hx.2)]
  refine (take_long ao cap n (valN x.1 x.2 ++ zs) w hrd (by rw [List.length_append, hl, hm, hn]) ?_ (by omega) hlen (by rw [h1, formN_twice]) (by rw [h2, formN_twice])).mono ?_
  · intro z hz
    rcases List.mem_append.1 hz with h | h
    · exact valN_bd _ _ z h
    · exact hb z h
  · rintro e w' ⟨a2, c2, rfl, ho, hbl⟩
    refine ⟨a2, c2, ?_, ?_, hbl⟩
    · rw [h1, h2, show n - 16 = m by omega]; rfl
    · rw [List.drop_append_of_le_length (by omega), List.drop_of_length_le (by omega), List.nil_append] at ho
      exact ho

/-- A store into another block. -/
theorem PgAt.other {w : World} {g : Nat} {l : Int} {a b c d : Nat × Nat} (h : PgAt w g l a b c d) (p : Addr) (v : Value) (hne : g ≠ p.block) : PgAt (w.setCell p v) g l a b c d := by
  have hb : (w.setCell p v).heap[g]? = w.heap[g]? := Below.heap_setCell w p v g hne
  have hc : ∀ j, (w.setCell p v).cell? ⟨g, j, none⟩ = w.cell? ⟨g, j, none⟩ := fun j => World.cell?_of_block (w := w) hb
  have hf : ∀ j, (w.setCell p v).frozen? ⟨g, j, none⟩ = w.frozen? ⟨g, j, none⟩ := fun j => World.frozen?_of_block (w := w) hb
  exact ⟨(hc 0).trans h.c0, (hc 1).trans h.c1, (hc 2).trans h.c2, (hc 3).trans h.c3, (hc 4).trans h.c4, (hf 0).trans h.f0, (hf 1).trans h.f1, (hf 2).trans h.f2, (hf 3).trans h.f3, (hf 4).trans h.f4, by simpa [World.setCell] using h.lt⟩

/-- A store into an object of the page. -/
theorem PgAt.put {w : World} {g : Nat} {l : Int} {a b c d : Nat × Nat} (h : PgAt w g l a b c d) (k : Nat) (hk : k < 4) (x : Nat × Nat) :
    PgAt (w.setCell ⟨g, 1 + k, none⟩ (.complex .f64 x.1 x.2)) g l (putO k x 0 a) (putO k x 1 b) (putO k x 2 c) (putO k x 3 d) := by
  have hf : ∀ j, (w.setCell ⟨g, 1 + k, none⟩ (.complex .f64 x.1 x.2)).frozen? ⟨g, j, none⟩ = w.frozen? ⟨g, j, none⟩ := fun j => World.frozen?_setCell _ _ _ _
  have ho : ∀ j, j ≠ 1 + k → (w.setCell ⟨g, 1 + k, none⟩ (.complex .f64 x.1 x.2)).cell? ⟨g, j, none⟩ = w.cell? ⟨g, j, none⟩ := fun j hj => World.cell?_setCell_other _ _ _ _ (by intro e; simp only [Addr.mk.injEq] at e; omega)
  have hs : (w.setCell ⟨g, 1 + k, none⟩ (.complex .f64 x.1 x.2)).cell? ⟨g, 1 + k, none⟩ = some (.complex .f64 x.1 x.2) := by
    obtain rfl | rfl | rfl | rfl : k = 0 ∨ k = 1 ∨ k = 2 ∨ k = 3 := by omega
    · exact World.cell?_setCell_same _ _ _ h.c1
    · exact World.cell?_setCell_same _ _ _ h.c2
    · exact World.cell?_setCell_same _ _ _ h.c3
    · exact World.cell?_setCell_same _ _ _ h.c4
  refine ⟨(ho 0 (by omega)).trans h.c0, ?_, ?_, ?_, ?_, (hf 0).trans h.f0, (hf 1).trans h.f1, (hf 2).trans h.f2, (hf 3).trans h.f3, (hf 4).trans h.f4, by simpa [World.setCell] using h.lt⟩
  all_goals obtain rfl | rfl | rfl | rfl : k = 0 ∨ k = 1 ∨ k = 2 ∨ k = 3 := by omega
  all_goals first | exact hs | exact (ho 1 (by omega)).trans h.c1 | exact (ho 2 (by omega)).trans h.c2 | exact (ho 3 (by omega)).trans h.c3 | exact (ho 4 (by omega)).trans h.c4

/-- A store below what is the call's own. -/
theorem OwnI.other {w : World} {base : Nat} {e : TypeId} {k : IntKind} {ao : Option Addr} {cap : Nat} {zs : List Int} (h : OwnI w base e k ao cap zs) (p : Addr) (v : Value) (hp : p.block < base) : OwnI (w.setCell p v) base e k ao cap zs := by
  obtain ⟨h1, h2⟩ := h
  refine ⟨h1, ?_⟩
  rcases h2 with h2 | ⟨g, cp, cur, hv, hg, hh, r⟩
  · exact .inl h2
  · exact .inr ⟨g, cp, cur, hv, hg, by rw [Below.heap_setCell w p v g (by omega)]; exact hh, r⟩

theorem OwnI.alloc0 {w : World} {base : Nat} {e : TypeId} {k : IntKind} {ao : Option Addr} {cap : Nat} {zs : List Int} (h : OwnI w base e k ao cap zs) (o : Obj) : RdI (w.alloc o) k ao cap zs := (h.alloc o).rd

/-- What of an object is there behind k rounds. -/
def gotO (k j : Nat) (x : Nat × Nat) : Nat × Nat := if j < k then canO x else (0, 0)

theorem objsZ_bd (cs : List (Nat × Nat)) : ∀ z ∈ objsZ cs, 0 ≤ z ∧ z < 256 := by
  intro z hz
  obtain ⟨c, _, h⟩ := List.mem_flatMap.1 hz
  exact valN_bd _ _ z h

/-- The zero object. -/
abbrev zO : Nat × Nat := (0, 0)

set_option maxHeartbeats 400000 in
theorem read_short (ao : Option Addr) (cap n : Nat) (w : World) (h : n < 2) :
    Calls Try.prog 70 #[.slice ao n cap] w fun e w' => e = .returned (.tuple #[pgV 0 zO zO zO zO, .int .i64 41]) ∧ Below w.heap.size w w' := by
  have hst := fun (ad : Addr) (re im : Nat) (W : World) => run_store Try.prog W ad (.complex .f64 re im) .plain rfl
  unfold pgV
  go_enter Try.func70, Try.ntmps70
  go_wp2_with (first
    | (go_at_call 63; refine (open_short _ _ _ _ h).mono ?_; rintro e w' ⟨rfl, hw⟩; subst w'))
  go_returns
  refine ⟨rfl, ?_⟩
  go_grown

theorem open_page (l : Int) (x0 x1 x2 x3 : Nat × Nat) (ao : Option Addr) (cap : Nat) (w : World) (hrd : Rd8 w ao 69 cap (pageN l x0 x1 x2 x3)) :
    Calls Try.prog 63 #[.slice ao 69 cap] w fun e w' => ∃ ao' cap', e = .returned (.tuple #[.slice ao' 67 cap', .int .i64 0]) ∧ OwnI w' w.heap.size 5 .u8 ao' cap' (pageZ l [x0, x1, x2, x3]) ∧ Below w.heap.size w w' := by
  refine (open_ok ao 67 69 cap _ w hrd rfl (by omega) (sealN_ok _)).mono ?_
  rintro e w' ⟨ao', cap', rfl, ho, hb⟩
  refine ⟨ao', cap', rfl, ?_, hb⟩
  have e1 := sealN_take (nb (pageZ l [x0, x1, x2, x3]))
  rw [sealN_length, nb_length, pageZ_length] at e1
  have e2 : (pageN l x0 x1 x2 x3).take 67 = nb (pageZ l [x0, x1, x2, x3]) := e1
  have h := ho.own
  rw [e2, ci_nb (pageZ_bd _ _)] at h
  exact h

theorem get_one (l : Int) (cs : List (Nat × Nat)) (n m : Nat) (ao : Option Addr) (cap : Nat) (w : World) (hrd : RdI w .u8 ao cap (pageZ l cs)) (hm : m = 16 * cs.length) (hn : n = 3 + m) (hl : 0 ≤ l ∧ l ≤ 16777215) (hlen : n ≤ 140737488355328) :
    Calls Try.prog 62 #[.slice ao n cap, .int .i64 1] w fun e w' => ∃ b off c1 a2 c2, e = .returned (.tuple #[.slice (some ⟨b, off, none⟩) 1 c1, .slice a2 m c2, .int .i64 0]) ∧
      w'.cell? ⟨b, off, none⟩ = some (.int .i64 l) ∧ OwnI w' w.heap.size 5 .u8 a2 c2 (objsZ cs) ∧ Below w.heap.size w w' := by
  have hlz := pageZ_length l cs
  have hfl : (formsN [l]).length = 3 := rfl
  refine (get_good ao cap n 1 (pageZ l cs) w hrd (by omega) (pageZ_bd l cs) (by omega) (by omega) hlen).mono ?_
  rintro e w' ⟨a1, c1, a2, c2, rfl, ho1, ho2, hb⟩
  have hg : getN (pageZ l cs) 1 = [l] := by
    have e1 : ((pageZ l cs).drop (3 * 0)).take 3 = wrN 3 l := by
      show (pageZ l cs).take 3 = _
      rw [pageZ, List.take_append_of_le_length (by rw [hfl]; omega), List.take_of_length_le (by rw [hfl]; omega)]
      simp [formsN]
    have e2 := rdN_wrN 3 l hl.1 (by have : (256 : Int) ^ 3 = 16777216 := by decide
                                    omega)
    simp only [getN, List.range_succ, List.range_zero, List.nil_append, List.map_cons, List.map_nil]
    rw [e1, e2]
  have hd : (pageZ l cs).drop (3 * 1) = objsZ cs := by
    rw [pageZ, List.drop_append_of_le_length (by rw [hfl]; omega), List.drop_of_length_le (by rw [hfl]; omega), List.nil_append]
  rw [hg] at ho1
  rw [hd] at ho2
  obtain ⟨b, off, rfl, _, hc⟩ := ho1.rd.at (t := 0) (by simp)
  have hc0 := hc 0 (by simp)
  refine ⟨b, off, c1, a2, c2, ?_, ?_, ho2, hb⟩
  · rw [show n - 3 * 1 = m by omega]
  · simpa using hc0

set_option maxHeartbeats 400000 in
theorem read_back (l : Int) (x0 x1 x2 x3 : Nat × Nat) (ao : Option Addr) (cap : Nat) (w : World) (hrd : Rd8 w ao 69 cap (pageN l x0 x1 x2 x3)) (hl : 0 ≤ l ∧ l ≤ 16777215) (h0 : wordB x0) (h1 : wordB x1) (h2 : wordB x2) (h3 : wordB x3) :
    Calls Try.prog 70 #[.slice ao 69 cap] w fun e w' => e = .returned (.tuple #[pgV l (canO x0) (canO x1) (canO x2) (canO x3), .int .i64 0]) ∧ Below w.heap.size w w' := by
  have HL : Hid (0 ≤ l ∧ l ≤ 16777215) := hl
  have HW : Hid (wordB x0 ∧ wordB x1 ∧ wordB x2 ∧ wordB x3) := ⟨h0, h1, h2, h3⟩
  clear h0 h1 h2 h3 hl
  have hst := fun (ad : Addr) (re im : Nat) (W : World) => run_store Try.prog W ad (.complex .f64 re im) .plain rfl
  unfold pgV
  go_enter Try.func70, Try.ntmps70
  go_wp2_with (first
    | (go_at_call 63; refine (open_page l x0 x1 x2 x3 _ _ _ (hrd.alloc _)).mono ?_; rintro e w1 ⟨ao1, cap1, rfl, ho1, hb1⟩)
    | (go_at_call 62; with_reducible refine (get_one l [x0, x1, x2, x3] 67 64 _ _ _ ho1.rd rfl rfl HL.out (by omega)).mono ?_; rintro e w2 ⟨b2, off2, c2, ao3, cap3, rfl, hc2, ho2, hb2⟩))
  have hp : PgAt _ w2.heap.size l zO zO zO zO := PgAt.new w2 l zO zO zO zO
  have hB1 : Below w.heap.size w w1 := below_alloc (hb1.mono (by simp))
  have hB2 : Below w.heap.size w w2 := below_step hB1 hb2
  have hB3 : Below w.heap.size w (w2.alloc (pgO l zO zO zO zO)) := hB2.alloc hB2.size _
  have hq1 : PgAt w1 w.heap.size 0 zO zO zO zO := (PgAt.new w 0 zO zO zO zO).below hb1 (by simp)
  have hq2 : PgAt w2 w.heap.size 0 zO zO zO zO := hq1.below hb2 hq1.lt
  have hq3 : PgAt (w2.alloc (pgO l zO zO zO zO)) w.heap.size 0 zO zO zO zO := hq2.below ((Below.refl _ _).alloc (Nat.le_refl _) _) hq2.lt
  have hne : w.heap.size ≠ w2.heap.size := by have := hq2.lt; omega
  have hr : RdI (w2.alloc (pgO l zO zO zO zO)) .u8 ao3 cap3 (objsZ [x0, x1, x2, x3]) := ho2.alloc0 _
  have HNE : Hid (w.heap.size ≠ w2.heap.size) := hne
  clear hq1 hq2 hc2 ho2 ho1 hb1 hb2 hB1 hne
  go_loopw [7, 31] (fun t i wr => ∃ (k : Nat) (a : Option Addr) (c : Nat), k ≤ 4 ∧ i = .int .i64 k ∧ t = .slice a (64 - 16 * k) c ∧ RdI wr .u8 a c (objsZ ([x0, x1, x2, x3].drop k)) ∧ PgAt wr w2.heap.size l (gotO k 0 x0) (gotO k 1 x1) (gotO k 2 x2) (gotO k 3 x3) ∧ PgAt wr w.heap.size 0 zO zO zO zO ∧ Below w.heap.size w wr) (fun _ i _ => 4 - (intOf i).toNat)
  case atStart => exact ⟨0, _, _, Nat.zero_le _, rfl, rfl, hr, hp, hq3, hB3⟩
  case round =>
    clear hp hq3 hr hB3
    obtain ⟨k, a, c, hk, rfl, rfl, hr, hp, hq, hbel⟩ := hrel
    by_cases hlt : k < 4
    · obtain ⟨H0, H1, H2, H3⟩ := HW.out
      have HP0 : Hid (wordB x0) := H0
      have HP1 : Hid (wordB x1) := H1
      have HP2 : Hid (wordB x2) := H2
      have HP3 : Hid (wordB x3) := H3
      clear HW H0 H1 H2 H3
      have hgt := hp.lt
      have HGT : Hid (w2.heap.size < wr.heap.size) := hgt
      clear hgt
      obtain rfl | rfl | rfl | rfl : k = 0 ∨ k = 1 ∨ k = 2 ∨ k = 3 := by omega
      · have hr' : RdI wr .u8 a c (valN x0.1 x0.2 ++ objsZ [x1, x2, x3]) := hr
        clear hr
        go_wp2_with (first
          | (go_at_call 81; refine (take_val _ _ 64 48 x0 (objsZ [x1, x2, x3]) _ hr' (objsZ_length _) rfl HP0.out (objsZ_bd _) (by omega)).mono ?_; rintro e w3 ⟨a3, c3, rfl, ho3, hb3⟩; have hp3 := hp.below hb3 hp.lt; have hq3 := hq.below hb3 hq.lt; have s1 := hp3.c1; have s2 := hp3.f1; have hsz := hb3.size; have HSZ : Hid (wr.heap.size ≤ w3.heap.size) := hsz; clear hsz))
        go_roundw
        case rel => exact ⟨1, _, _, by omega, by go_num, rfl, (ho3.other ⟨w2.heap.size, 1, none⟩ _ HGT.out).rd, hp3.put 0 (by omega) (canO x0), hq3.other _ _ HNE.out, (below_step hbel hb3).setCell (by have := hB2.size; exact this) _⟩
        case measure => simp [intOf]
      · have hr' : RdI wr .u8 a c (valN x1.1 x1.2 ++ objsZ [x2, x3]) := hr
        clear hr
        go_wp2_with (first
          | (go_at_call 81; refine (take_val _ _ 48 32 x1 (objsZ [x2, x3]) _ hr' (objsZ_length _) rfl HP1.out (objsZ_bd _) (by omega)).mono ?_; rintro e w3 ⟨a3, c3, rfl, ho3, hb3⟩; have hp3 := hp.below hb3 hp.lt; have hq3 := hq.below hb3 hq.lt; have s1 := hp3.c2; have s2 := hp3.f2; have hsz := hb3.size; have HSZ : Hid (wr.heap.size ≤ w3.heap.size) := hsz; clear hsz))
        go_roundw
        case rel => exact ⟨2, _, _, by omega, by go_num, rfl, (ho3.other ⟨w2.heap.size, 2, none⟩ _ HGT.out).rd, hp3.put 1 (by omega) (canO x1), hq3.other _ _ HNE.out, (below_step hbel hb3).setCell (by have := hB2.size; exact this) _⟩
        case measure => simp [intOf]
      · have hr' : RdI wr .u8 a c (valN x2.1 x2.2 ++ objsZ [x3]) := hr
        clear hr
        go_wp2_with (first
          | (go_at_call 81; refine (take_val _ _ 32 16 x2 (objsZ [x3]) _ hr' (objsZ_length _) rfl HP2.out (objsZ_bd _) (by omega)).mono ?_; rintro e w3 ⟨a3, c3, rfl, ho3, hb3⟩; have hp3 := hp.below hb3 hp.lt; have hq3 := hq.below hb3 hq.lt; have s1 := hp3.c3; have s2 := hp3.f3; have hsz := hb3.size; have HSZ : Hid (wr.heap.size ≤ w3.heap.size) := hsz; clear hsz))
        go_roundw
        case rel => exact ⟨3, _, _, by omega, by go_num, rfl, (ho3.other ⟨w2.heap.size, 3, none⟩ _ HGT.out).rd, hp3.put 2 (by omega) (canO x2), hq3.other _ _ HNE.out, (below_step hbel hb3).setCell (by have := hB2.size; exact this) _⟩
        case measure => simp [intOf]
      · have hr' : RdI wr .u8 a c (valN x3.1 x3.2 ++ objsZ []) := hr
        clear hr
        go_wp2_with (first
          | (go_at_call 81; refine (take_val _ _ 16 0 x3 (objsZ []) _ hr' (objsZ_length _) rfl HP3.out (objsZ_bd _) (by omega)).mono ?_; rintro e w3 ⟨a3, c3, rfl, ho3, hb3⟩; have hp3 := hp.below hb3 hp.lt; have hq3 := hq.below hb3 hq.lt; have s1 := hp3.c4; have s2 := hp3.f4; have hsz := hb3.size; have HSZ : Hid (wr.heap.size ≤ w3.heap.size) := hsz; clear hsz))
        go_roundw
        case rel => exact ⟨4, _, _, by omega, by go_num, rfl, (ho3.other ⟨w2.heap.size, 4, none⟩ _ HGT.out).rd, hp3.put 3 (by omega) (canO x3), hq3.other _ _ HNE.out, (below_step hbel hb3).setCell (by have := hB2.size; exact this) _⟩
        case measure => simp [intOf]
    · have hk4 : k = 4 := by omega
      subst hk4
      have hp' : PgAt wr w2.heap.size l (canO x0) (canO x1) (canO x2) (canO x3) := hp
      have p0 := hp'.c0
      have p1 := hp'.c1
      have p2 := hp'.c2
      have p3 := hp'.c3
      have p4 := hp'.c4
      have q0 := hq.c0
      have q1 := hq.c1
      have q2 := hq.c2
      have q3 := hq.c3
      have q4 := hq.c4
      have r0 := hq.f0
      have r1 := hq.f1
      have r2 := hq.f2
      have r3 := hq.f3
      have r4 := hq.f4
      go_wp2
      refine bodyPost_ret (by simp [results, Try.results70, go_sem, q0, q1, q2, q3, q4]; try rfl) rfl ?_
      refine ⟨rfl, ?_⟩
      exact ((((hbel.setCell (Nat.le_refl _) _).setCell (Nat.le_refl _) _).setCell (Nat.le_refl _) _).setCell (Nat.le_refl _) _).setCell (Nat.le_refl _) _

end Go.Proofs.Ythckdfggnmoaeaa
