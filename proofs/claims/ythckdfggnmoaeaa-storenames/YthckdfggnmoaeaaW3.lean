/- The bytes of a batch; what Bytes of package wal does, walked. -/
import Derived.Test.YthckdfggnmoaeaaW2
import Derived.Test.YthckdfggnmoaeaaT2
namespace Go.Proofs.Ythckdfggnmoaeaa
open Go.RowKit
set_option linter.unusedVariables false

/-- The bytes of a put. -/
def putZ (p : PutG) : List Int := formsN [(p.pg : Int), (p.ob : Int)] ++ valN p.c.1 p.c.2

def putsZ (ps : List PutG) : List Int := ps.flatMap putZ

theorem formsN_bd (zs : List Int) : ∀ z ∈ formsN zs, 0 ≤ z ∧ z < 256 := by
  intro z hz
  obtain ⟨c, _, h⟩ := List.mem_flatMap.1 hz
  exact wrN_bd _ _ z h

theorem putZ_length (p : PutG) : (putZ p).length = 22 := by simp [putZ, formsN_length, valN_length]

theorem putsZ_length (ps : List PutG) : (putsZ ps).length = 22 * ps.length := by
  induction ps with
  | nil => rfl
  | cons p r ih =>
    have e : putsZ (p :: r) = putZ p ++ putsZ r := rfl
    rw [e, List.length_append, ih, putZ_length, List.length_cons]
    omega

theorem putZ_bd (p : PutG) : ∀ z ∈ putZ p, 0 ≤ z ∧ z < 256 := by
  intro z hz
  rcases List.mem_append.1 hz with h | h
  · exact formsN_bd _ z h
  · exact valN_bd _ _ z h

theorem putsZ_bd (ps : List PutG) : ∀ z ∈ putsZ ps, 0 ≤ z ∧ z < 256 := by
  intro z hz
  obtain ⟨c, _, h⟩ := List.mem_flatMap.1 hz
  exact putZ_bd _ z h

/-- The bytes that are sealed of a batch with these puts. -/
def bodyZ (l c e t : Int) (m : Nat) (ps : List PutG) : List Int := formsN [l, c, e, t, (m : Int)] ++ putsZ ps

theorem bodyZ_length (l c e t : Int) (m : Nat) (ps : List PutG) : (bodyZ l c e t m ps).length = 15 + 22 * ps.length := by
  rw [bodyZ, List.length_append, putsZ_length, formsN_length]
  rfl

theorem bodyZ_bd (l c e t : Int) (m : Nat) (ps : List PutG) : ∀ z ∈ bodyZ l c e t m ps, 0 ≤ z ∧ z < 256 := by
  intro z hz
  rcases List.mem_append.1 hz with h | h
  · exact formsN_bd _ z h
  · exact putsZ_bd _ z h

theorem bodyZ_snoc (l c e t : Int) (m : Nat) (ps : List PutG) (k : Nat) (h : k < ps.length) : bodyZ l c e t m (ps.take k) ++ formsN [(ps[k].pg : Int), (ps[k].ob : Int)] ++ valN ps[k].c.1 ps[k].c.2 = bodyZ l c e t m (ps.take (k + 1)) := by
  rw [List.take_succ_eq_append_getElem h, bodyZ, bodyZ, putsZ, putsZ, List.flatMap_append, List.flatMap_cons, List.flatMap_nil, List.append_nil, putZ]
  simp only [List.append_assoc]

/-- What is sealed of a commit. -/
def bodyN (b : Bt) : List Nat := nb (bodyZ b.lsn b.cl b.ep b.tx b.ps.length b.ps)

/-- The bytes of a commit. -/
def wbN (b : Bt) : List Nat := nb (formsN [((17 + 22 * b.ps.length : Nat) : Int)]) ++ sealN (bodyN b)

theorem wbN_length (b : Bt) : (wbN b).length = 20 + 22 * b.ps.length := by
  rw [wbN, List.length_append, sealN_length, nb_length, formsN_length, bodyN, nb_length, bodyZ_length]
  simp; omega

theorem wbN_bytes (b : Bt) : ∀ x ∈ wbN b, x < 256 := by
  intro x hx
  rcases List.mem_append.1 hx with h | h
  · exact nb_bytes (formsN_bd _) x h
  · exact sealN_bytes (nb_bytes (bodyZ_bd _ _ _ _ _ _)) x h

theorem nums_at (W : World) (g m q : Nat) (hg : W.heap.size = g) (xs : Array Value) (zs : List Int) (hx : xs.toList = zs.map (Value.int .i64)) (hm : zs.length = m) (hq : q = 3 * m) (hz : ∀ z ∈ zs, 0 ≤ z ∧ z ≤ 16777215) (hs : m ≤ 1000) :
    Calls Try.prog 66 #[.slice (some ⟨g, 0, none⟩) m m] (W.alloc (.cells xs 3)) fun e w' => ∃ ao cap, e = .returned (.tuple #[.slice ao q cap, .int .i64 0]) ∧
      OwnI w' W.heap.size 5 .u8 ao cap (formsN zs) ∧ Below W.heap.size W w' := by
  subst hg hq
  have hr := RdI.built W 3 .i64 xs m zs hx hm (by unfold maxLen; omega)
  refine (nums_good _ m m zs _ hr hm (by omega) hz).mono ?_
  rintro e w2 ⟨ao2, cap2, rfl, ho2, hb2⟩
  have hs3 : (W.alloc (.cells xs 3)).heap.size = W.heap.size + 1 := by simp
  rw [hs3] at ho2 hb2
  exact ⟨_, _, rfl, ho2.mono (by omega), (below_box W _).trans (hb2.mono (by omega))⟩

/-- A put in a block. -/
abbrev wputO (p : PutG) : Obj := .cells #[.int .i64 (p.pg : Int), .int .i64 (p.ob : Int), .complex .f64 p.c.1 p.c.2] 34

theorem OwnI.blk {w : World} {base : Nat} {e : TypeId} {k : IntKind} {ao : Option Addr} {cap : Nat} {zs : List Int} (h : OwnI w base e k ao cap zs) : ∀ a, ao = some a → base ≤ a.block ∧ a.block < w.heap.size := fun a ha => OwnS.inn h a ha

/-- A cell of a block that is not the row's is kept. -/
theorem grown_cell {w w' : World} {ao : Option Addr} {n cap g j : Nat} {v : Value} (hg : w.grownBy w' (Value.ownBlock (.slice ao n cap))) (hc : w.cell? ⟨g, j, none⟩ = some v) (hne : ∀ a, ao = some a → a.block ≠ g) : w'.cell? ⟨g, j, none⟩ = some v := by
  refine hg.cell hc ?_
  cases ao with
  | none => simp [Value.ownBlock]
  | some a => have := hne a rfl; simp [Value.ownBlock]; omega

theorem grown_below {w w' : World} {ao : Option Addr} {n cap B : Nat} (hg : w.grownBy w' (Value.ownBlock (.slice ao n cap))) (hne : ∀ a, ao = some a → B ≤ a.block) (hB : B ≤ w.heap.size) : Below B w w' := by
  refine ⟨hg.os, hg.tape, hg.output, hg.size, fun k hk => hg.block k (by omega) ?_⟩
  cases ao with
  | none => simp [Value.ownBlock]
  | some a => have := hne a rfl; simp [Value.ownBlock]; omega

set_option maxHeartbeats 800000 in
theorem wbytes_ok (b : Bt) (ao : Option Addr) (n cap : Nat) (w : World) (h : RdP w ao n cap b.ps) (hok : BtOk b) :
    Calls Try.prog 56 #[btV b.lsn b.cl b.ep b.tx ao n cap] w fun x w' => ∃ ao' cap', x = .returned (.tuple #[.slice ao' (20 + 22 * n) cap', .int .i64 0]) ∧ Own8 w' w.heap.size ao' (20 + 22 * n) cap' (wbN b) ∧ Below w.heap.size w w' := by
  obtain ⟨l, c, e, t, ps⟩ := b
  obtain ⟨⟨k1, k2⟩, k3, ⟨k4, k5⟩, ⟨k6, k7⟩, kp⟩ := hok
  simp only at h k1 k2 k3 k4 k5 k6 k7 kp ⊢
  have hn : n ≤ 24 := by have := h.len; have := kp.le; omega
  have hln := h.len
  have h2 := h.below (below_box w (btO l c e t ao n cap))
  have HP : Hid (PutsOk ps) := kp
  have HR : Hid (RdP w ao n cap ps) := h
  clear h kp
  have hst := fun (ad : Addr) (re im : Nat) (W : World) => run_store Try.prog W ad (.complex .f64 re im) .plain rfl
  go_enter Try.func56, Try.ntmps56
  go_wp2_with (first
    | (go_at_call 66; refine (nums_at w1 _ 5 15 rfl _ [(l : Int), c, e, t, n] rfl rfl rfl ?_ (by omega)).mono ?_; (intro z hz; simp only [List.mem_cons, List.not_mem_nil, or_false] at hz; omega); rintro x w2 ⟨ao2, cap2, rfl, ho2, hb2⟩; have r4 := HQ.out w2 hb2; clear HQ)
    | (go_at_call 65; refine (right_ok _ _ _ _ _ _ _ _ _ h2 HP.out ⟨by omega, by omega⟩ ⟨by omega, by omega⟩ ⟨by omega, by omega⟩ ⟨by omega, by omega⟩).mono ?_; rintro x w1 ⟨rfl, hb⟩; have hq := (BtAt.new w l c e t ao n cap).below hb; have q0 := hq.c0; have q1 := hq.c1; have q2 := hq.c2; have q3 := hq.c3; have q4 := hq.c4; have HB1 : Hid (Below w.heap.size w w1) := below_alloc (hb.mono (by simp)); have hq2 := fun (W : World) (hW : Below w1.heap.size w1 W) => (hq.below hW).c4; clear hq hb; have HQ : Hid _ := hq2; clear hq2)
    | (fail))
  have hB2 : Below w.heap.size w w2 := below_step HB1.out hb2
  have ho2' : OwnI w2 w.heap.size 5 .u8 ao2 cap2 (bodyZ l c e t n (ps.take 0)) := by
    rw [show bodyZ l c e t n (ps.take 0) = formsN [(l : Int), c, e, t, n] by simp [bodyZ, putsZ]]
    exact ho2.mono HB1.out.size
  clear r4 hb2 ho2 HB1 q0 q1 q2 q3 q4 h2
  go_loopw [4, 35] (fun s i wr => ∃ (k : Nat) (a : Option Addr) (cc : Nat), k ≤ n ∧ i = .int .i64 k ∧ s = .slice a (15 + 22 * k) cc ∧ OwnI wr w.heap.size 5 .u8 a cc (bodyZ l c e t n (ps.take k)) ∧ Below w.heap.size w wr) (fun _ i _ => n - (intOf i).toNat)
  case atStart => exact ⟨0, _, _, Nat.zero_le _, rfl, rfl, ho2', hB2⟩
  case round =>
    obtain ⟨k, a, cc, hk, rfl, rfl, ho, hbel⟩ := hrel
    clear ho2' hB2
    by_cases hlt : k < n
    · have hkl : k < ps.length := by omega
      obtain ⟨b, off, rfl, hb, q0, q1, q2⟩ := (HR.out.below hbel).cell k hkl
      obtain ⟨hp1, hp2, hp3⟩ := HP.out.pg ps[k] (List.getElem_mem _)
      have HS : Hid (bodyZ l c e t n (ps.take k) ++ formsN [(ps[k].pg : Int), (ps[k].ob : Int)] ++ valN ps[k].c.1 ps[k].c.2 = bodyZ l c e t n (ps.take (k + 1))) := bodyZ_snoc l c e t n ps k hkl
      have HL : Hid ((bodyZ l c e t n (ps.take k)).length = 15 + 22 * k) := by
        have := bodyZ_length l c e t n (ps.take k)
        rw [List.length_take, Nat.min_eq_left (by omega)] at this
        exact this
      generalize ps[k] = p at *
      obtain ⟨pg, ob, x1, x2⟩ := p
      simp only at hp1 hp2 hp3 q0 q1 q2 HS
      have HF : Hid (formN x1 < 18446744073709551616 ∧ formN x2 < 18446744073709551616) := ⟨formN_lt x1 hp3.1, formN_lt x2 hp3.2⟩
      clear hp3
      have HBL : Hid (∀ y, a = some y → w.heap.size ≤ y.block ∧ y.block < wr.heap.size) := ho.blk
      have hsz := hbel.size
      go_wp2_with (first
        | (at_builtin; refine wpList_append_at _ rfl (.tmp 51) (.tmp 54) 56 rfl w.heap.size 5 .u8 (.int .u8 0) 1 Try.underlying56 info5 rfl rfl rfl (ho4.below hb5) ho5.rd (by rw [List.length_append, HL.out, formsN_length]; rfl) (valN_length _ _) (by omega) (by unfold maxLen; omega) hB5.size ?_; intro ao6 cap6 w6 ho6 hg6 _; have hB6 : Below w.heap.size w w6 := hB5.trans (grown_below hg6 (fun y hy => ((ho4.below hb5).blk y hy).1) hB5.size))
        | (go_at_call 67; refine (value_any _ _ _ HF.out.1 HF.out.2).mono ?_; rintro x w5 ⟨ao5, cap5, rfl, ho5, hb5⟩; have hB5 : Below w.heap.size w w5 := below_step hB4 hb5)
        | (at_builtin; refine wpList_append_at _ rfl (.tmp 48) (.tmp 49) 56 rfl w.heap.size 5 .u8 (.int .u8 0) 1 Try.underlying56 info5 rfl rfl rfl ho3 ho3'.rd HL.out rfl (by omega) (by unfold maxLen; omega) hB3.size ?_; intro ao4 cap4 w4 ho4 hg4 _; have hB4 : Below w.heap.size w w4 := hB3.trans (grown_below hg4 (fun y hy => (HBL.out y hy).1) hB3.size); have v4 := grown_cell hg4 v3 (fun y hy => by have := (HBL.out y hy).2; omega))
        | (go_at_call 66; refine (nums_at (wr.alloc (wputO ⟨pg, ob, x1, x2⟩)) _ 2 6 (by simp) _ [(pg : Int), ob] rfl rfl rfl ?_ (by omega)).mono ?_; (intro z hz; simp only [List.mem_cons, List.not_mem_nil, or_false] at hz; omega); rintro x w3 ⟨ao3, cap3, rfl, ho3', hb3⟩; have hB3 : Below w.heap.size w w3 := (hbel.alloc hbel.size _).trans (hb3.mono (by simp; omega)); have hw3 : Below wr.heap.size wr w3 := (below_box wr _).trans (hb3.mono (by simp)); have ho3 := ho.below hw3; have v3 : w3.cell? ⟨wr.heap.size, 2, none⟩ = some (.complex .f64 x1 x2) := (hb3.cell (p := ⟨wr.heap.size, 2, none⟩) (by simp)).trans (by rw [cell_of_row _ _ _ _ _ _ (heap_alloc_new wr (wputO ⟨pg, ob, x1, x2⟩))]; rfl))
        | (fail))
      rw [HS.out] at ho6
      go_roundw
      case rel => exact ⟨k + 1, ao6, cap6, by omega, by go_num, by rw [show 15 + 22 * (k + 1) = 15 + 22 * k + 6 + 16 by omega], ho6, hB6⟩
      case measure => simp [intOf]; omega
    · have hkn : k = n := by omega
      subst hkn
      rw [List.take_of_length_le (by omega)] at ho
      have hbd := bodyZ_bd l c e t k ps
      have hlz : (bodyZ l c e t k ps).length = 15 + 22 * k := by rw [bodyZ_length, hln]
      have hr : Rd8 wr a (15 + 22 * k) cc (nb (bodyZ l c e t k ps)) := rd8_nb ho.rd hlz hbd
      clear hbd hlz
      have hsz := hbel.size
      go_wp2_with (first
        | (at_builtin; refine wpList_append_at _ rfl (.tmp 66) (.tmp 67) 56 rfl w.heap.size 5 .u8 (.int .u8 0) 1 Try.underlying56 info5 rfl rfl rfl (ho4.mono hB3.size) (ho3.rd.below hb4).rd (formsN_length _) (by rw [ci_length]; exact ho3.len) (by omega) (by unfold maxLen; omega) (below_step hB3 hb4).size ?_; intro ao5 cap5 w5 ho5 hg5 _; have hB5 : Below w.heap.size w w5 := (below_step hB3 hb4).trans (grown_below hg5 (fun y hy => ((ho4.mono hB3.size).blk y hy).1) (below_step hB3 hb4).size))
        | (go_at_call 66; refine (nums_at w3 _ 1 3 rfl _ [_] rfl rfl rfl ?_ (by omega)).mono ?_; (intro z hz; simp only [List.mem_cons, List.not_mem_nil, or_false] at hz; omega); rintro x w4 ⟨ao4, cap4, rfl, ho4, hb4⟩)
        | (go_at_call 68; refine (seal_any _ _ _ _ _ hr (by omega)).mono ?_; rintro x w3 ⟨ao3, cap3, rfl, ho3, hb3⟩; have hB3 : Below w.heap.size w w3 := below_step hbel hb3)
        | (fail))
      go_returns
      have ew : ci (wbN ⟨l, c, e, t, ps⟩) = formsN [15 + 22 * (k : Int) + 2] ++ ci (sealN (nb (bodyZ l c e t k ps))) := by
        have e1 : ((17 + 22 * ps.length : Nat) : Int) = 15 + 22 * (k : Int) + 2 := by omega
        rw [wbN, bodyN, ci_append, ci_nb (formsN_bd _), e1, hln]
      refine ⟨ao5, cap5, ?_, ⟨by rw [ew]; exact ho5, by rw [wbN_length, hln], wbN_bytes _⟩, hB5⟩
      show Ending.returned (.tuple #[.slice ao5 (3 + (15 + 22 * k + 2)) cap5, .int .i64 0]) = _
      rw [show 20 + 22 * k = 3 + (15 + 22 * k + 2) by omega]

end Go.Proofs.Ythckdfggnmoaeaa
