/- The bytes of a batch; what Bytes of package wal does, walked. What takePut of package wal does with a put's bytes, walked. Puts that are made and set one by one; batchOf of package wal. -/
import Derived.Test.YtpofihiojhbfgaaGreatDoorA6
import Derived.Test.YtpofihiojhbfgaaGreatDoorA5
import Derived.Deep.DeepCutAuto
import Derived.Deep.CutBlock
import Derived.BigRegion
import Derived.Deep.RegionWith
namespace Go.Proofs.YtpofihiojhbfgaaGreatDoor
open Go.RowKit
set_option linter.unusedVariables false
set_option maxRecDepth 8000

def putZ (p : PutG) : List Int := formsN [(p.pg : Int), (p.ob : Int)] ++ valN p.c.1 p.c.2

def putsZ (ps : List PutG) : List Int := ps.flatMap putZ

theorem formsN_bd (zs : List Int) : ∀ z ∈ formsN zs, 0 ≤ z ∧ z < 256 := by
  intro z hz
  obtain ⟨c, _, h⟩ := List.mem_flatMap.1 hz
  exact wrN_bd _ _ z h

theorem putZ_length (p : PutG) : (putZ p).length = 22 := by simp [putZ, formsN_length, valN_length]

theorem putsZ_length (ps : List PutG) : (putsZ ps).length = 22 * ps.length := by
  induction ps with
  | nil => rfl
  | cons p r ih =>
    have e : putsZ (p :: r) = putZ p ++ putsZ r := rfl
    rw [e, List.length_append, ih, putZ_length, List.length_cons]
    omega

theorem putZ_bd (p : PutG) : ∀ z ∈ putZ p, 0 ≤ z ∧ z < 256 := by
  intro z hz
  rcases List.mem_append.1 hz with h | h
  · exact formsN_bd _ z h
  · exact valN_bd _ _ z h

theorem putsZ_bd (ps : List PutG) : ∀ z ∈ putsZ ps, 0 ≤ z ∧ z < 256 := by
  intro z hz
  obtain ⟨c, _, h⟩ := List.mem_flatMap.1 hz
  exact putZ_bd _ z h

def bodyZ (l c e t : Int) (m : Nat) (ps : List PutG) : List Int := formsN [l, c, e, t, (m : Int)] ++ putsZ ps

theorem bodyZ_length (l c e t : Int) (m : Nat) (ps : List PutG) : (bodyZ l c e t m ps).length = 15 + 22 * ps.length := by
  rw [bodyZ, List.length_append, putsZ_length, formsN_length]
  rfl

theorem bodyZ_bd (l c e t : Int) (m : Nat) (ps : List PutG) : ∀ z ∈ bodyZ l c e t m ps, 0 ≤ z ∧ z < 256 := by
  intro z hz
  rcases List.mem_append.1 hz with h | h
  · exact formsN_bd _ z h
  · exact putsZ_bd _ z h

theorem bodyZ_snoc (l c e t : Int) (m : Nat) (ps : List PutG) (k : Nat) (h : k < ps.length) : bodyZ l c e t m (ps.take k) ++ formsN [(ps[k].pg : Int), (ps[k].ob : Int)] ++ valN ps[k].c.1 ps[k].c.2 = bodyZ l c e t m (ps.take (k + 1)) := by
  rw [List.take_succ_eq_append_getElem h, bodyZ, bodyZ, putsZ, putsZ, List.flatMap_append, List.flatMap_cons, List.flatMap_nil, List.append_nil, putZ]
  simp only [List.append_assoc]

def bodyN (b : Bt) : List Nat := nb (bodyZ b.lsn b.cl b.ep b.tx b.ps.length b.ps)

def wbN (b : Bt) : List Nat := nb (formsN [((17 + 22 * b.ps.length : Nat) : Int)]) ++ sealN (bodyN b)

theorem wbN_length (b : Bt) : (wbN b).length = 20 + 22 * b.ps.length := by
  rw [wbN, List.length_append, sealN_length, nb_length, formsN_length, bodyN, nb_length, bodyZ_length]
  simp; omega

theorem wbN_bytes (b : Bt) : ∀ x ∈ wbN b, x < 256 := by
  intro x hx
  rcases List.mem_append.1 hx with h | h
  · exact nb_bytes (formsN_bd _) x h
  · exact sealN_bytes (nb_bytes (bodyZ_bd _ _ _ _ _ _)) x h

theorem nums_at (W : World) (g m q : Nat) (hg : W.heap.size = g) (xs : Array Value) (zs : List Int) (hx : xs.toList = zs.map (Value.int .i64)) (hm : zs.length = m) (hq : q = 3 * m) (hz : ∀ z ∈ zs, 0 ≤ z ∧ z ≤ 16777215) (hs : m ≤ 1000) :
    Calls Tryz.prog 77 #[.slice (some ⟨g, 0, none⟩) m m] (W.alloc (.cells xs 3)) fun e w' => ∃ ao cap, e = .returned (.tuple #[.slice ao q cap, .int .i64 0]) ∧
      OwnI w' W.heap.size 5 .u8 ao cap (formsN zs) ∧ Below W.heap.size W w' := by
  subst hg hq
  have hr := RdI.built W 3 .i64 xs m zs hx hm (by unfold maxLen; omega)
  refine (nums_good _ m m zs _ hr hm (by omega) hz).mono ?_
  rintro e w2 ⟨ao2, cap2, rfl, ho2, hb2⟩
  have hs3 : (W.alloc (.cells xs 3)).heap.size = W.heap.size + 1 := by simp
  rw [hs3] at ho2 hb2
  exact ⟨_, _, rfl, ho2.mono (by omega), (below_box W _).trans (hb2.mono (by omega))⟩

abbrev wputO (p : PutG) : Obj := .cells #[.int .i64 (p.pg : Int), .int .i64 (p.ob : Int), .complex .f64 p.c.1 p.c.2] 50

theorem OwnI.blk {w : World} {base : Nat} {e : TypeId} {k : IntKind} {ao : Option Addr} {cap : Nat} {zs : List Int} (h : OwnI w base e k ao cap zs) : ∀ a, ao = some a → base ≤ a.block ∧ a.block < w.heap.size := fun a ha => OwnS.inn h a ha

theorem grown_cell {w w' : World} {ao : Option Addr} {n cap g j : Nat} {v : Value} (hg : w.grownBy w' (Value.ownBlock (.slice ao n cap))) (hc : w.cell? ⟨g, j, none⟩ = some v) (hne : ∀ a, ao = some a → a.block ≠ g) : w'.cell? ⟨g, j, none⟩ = some v := by
  refine hg.cell hc ?_
  cases ao with
  | none => simp [Value.ownBlock]
  | some a => have := hne a rfl; simp [Value.ownBlock]; omega

theorem grown_below {w w' : World} {ao : Option Addr} {n cap B : Nat} (hg : w.grownBy w' (Value.ownBlock (.slice ao n cap))) (hne : ∀ a, ao = some a → B ≤ a.block) (hB : B ≤ w.heap.size) : Below B w w' := by
  refine ⟨hg.os, hg.tape, hg.output, hg.size, fun k hk => hg.block k (by omega) ?_⟩
  cases ao with
  | none => simp [Value.ownBlock]
  | some a => have := hne a rfl; simp [Value.ownBlock]; omega

set_option maxHeartbeats 800000 in
theorem wbytes_ok (b : Bt) (ao : Option Addr) (n cap : Nat) (w : World) (h : RdP w ao n cap b.ps) (hok : BtOk b) :
    Calls Tryz.prog 199 #[btV b.lsn b.cl b.ep b.tx ao n cap] w fun x w' => ∃ ao' cap', x = .returned (.tuple #[.slice ao' (20 + 22 * n) cap', .int .i64 0]) ∧ Own8 w' w.heap.size ao' (20 + 22 * n) cap' (wbN b) ∧ Below w.heap.size w w' := by
  obtain ⟨l, c, e, t, ps⟩ := b
  obtain ⟨⟨k1, k2⟩, k3, ⟨k4, k5⟩, ⟨k6, k7⟩, kp⟩ := hok
  simp only at h k1 k2 k3 k4 k5 k6 k7 kp ⊢
  have hn : n ≤ 24 := by have := h.len; have := kp.le; omega
  have hln := h.len
  have h2 := h.below (below_box w (btO l c e t ao n cap))
  have HP : Hid (PutsOk ps) := kp
  have HR : Hid (RdP w ao n cap ps) := h
  clear h kp
  have hst := fun (ad : Addr) (re im : Nat) (W : World) => run_store Tryz.prog W ad (.complex .f64 re im) .plain rfl
  go_enter Tryz.func199, Tryz.ntmps199
  go_wp2_with (first
    | (go_at_call 77; refine (nums_at w1 _ 5 15 rfl _ [(l : Int), c, e, t, n] rfl rfl rfl ?_ (by omega)).mono ?_; (intro z hz; simp only [List.mem_cons, List.not_mem_nil, or_false] at hz; omega); rintro x w2 ⟨ao2, cap2, rfl, ho2, hb2⟩; have r4 := HQ.out w2 hb2; clear HQ)
    | (go_at_call 167; refine (right_ok _ _ _ _ _ _ _ _ _ h2 HP.out ⟨by omega, by omega⟩ ⟨by omega, by omega⟩ ⟨by omega, by omega⟩ ⟨by omega, by omega⟩).mono ?_; rintro x w1 ⟨rfl, hb⟩; have hq := (BtAt.new w l c e t ao n cap).below hb; have q0 := hq.c0; have q1 := hq.c1; have q2 := hq.c2; have q3 := hq.c3; have q4 := hq.c4; have HB1 : Hid (Below w.heap.size w w1) := below_alloc (hb.mono (by simp)); have hq2 := fun (W : World) (hW : Below w1.heap.size w1 W) => (hq.below hW).c4; clear hq hb; have HQ : Hid _ := hq2; clear hq2)
    | (fail))
  have hB2 : Below w.heap.size w w2 := below_step HB1.out hb2
  have ho2' : OwnI w2 w.heap.size 5 .u8 ao2 cap2 (bodyZ l c e t n (ps.take 0)) := by
    rw [show bodyZ l c e t n (ps.take 0) = formsN [(l : Int), c, e, t, n] by simp [bodyZ, putsZ]]
    exact ho2.mono HB1.out.size
  clear r4 hb2 ho2 HB1 q0 q1 q2 q3 q4 h2
  go_loopw [4, 35] (fun s i wr => ∃ (k : Nat) (a : Option Addr) (cc : Nat), k ≤ n ∧ i = .int .i64 k ∧ s = .slice a (15 + 22 * k) cc ∧ OwnI wr w.heap.size 5 .u8 a cc (bodyZ l c e t n (ps.take k)) ∧ Below w.heap.size w wr) (fun _ i _ => n - (intOf i).toNat)
  case atStart => exact ⟨0, _, _, Nat.zero_le _, rfl, rfl, ho2', hB2⟩
  case round =>
    obtain ⟨k, a, cc, hk, rfl, rfl, ho, hbel⟩ := hrel
    clear ho2' hB2
    by_cases hlt : k < n
    · have hkl : k < ps.length := by omega
      obtain ⟨b, off, rfl, hb, q0, q1, q2⟩ := (HR.out.below hbel).cell k hkl
      obtain ⟨hp1, hp2, hp3⟩ := HP.out.pg ps[k] (List.getElem_mem _)
      have HS : Hid (bodyZ l c e t n (ps.take k) ++ formsN [(ps[k].pg : Int), (ps[k].ob : Int)] ++ valN ps[k].c.1 ps[k].c.2 = bodyZ l c e t n (ps.take (k + 1))) := bodyZ_snoc l c e t n ps k hkl
      have HL : Hid ((bodyZ l c e t n (ps.take k)).length = 15 + 22 * k) := by
        have := bodyZ_length l c e t n (ps.take k)
        rw [List.length_take, Nat.min_eq_left (by omega)] at this
        exact this
      generalize ps[k] = p at *
      obtain ⟨pg, ob, x1, x2⟩ := p
      simp only at hp1 hp2 hp3 q0 q1 q2 HS
      have HF : Hid (formN x1 < 18446744073709551616 ∧ formN x2 < 18446744073709551616) := ⟨formN_lt x1 hp3.1, formN_lt x2 hp3.2⟩
      clear hp3
      have HBL : Hid (∀ y, a = some y → w.heap.size ≤ y.block ∧ y.block < wr.heap.size) := ho.blk
      have hsz := hbel.size
      go_wp2_with (first
        | (at_builtin; refine wpList_append_at _ rfl (.tmp 51) (.tmp 54) 31 rfl w.heap.size 5 .u8 (.int .u8 0) 1 Tryz.underlying31 info5 rfl rfl rfl (ho4.below hb5) ho5.rd (by rw [List.length_append, HL.out, formsN_length]; rfl) (valN_length _ _) (by omega) (by unfold maxLen; omega) hB5.size ?_; intro ao6 cap6 w6 ho6 hg6 _; have hB6 : Below w.heap.size w w6 := hB5.trans (grown_below hg6 (fun y hy => ((ho4.below hb5).blk y hy).1) hB5.size))
        | (go_at_call 135; refine (value_any _ _ _ HF.out.1 HF.out.2).mono ?_; rintro x w5 ⟨ao5, cap5, rfl, ho5, hb5⟩; have hB5 : Below w.heap.size w w5 := below_step hB4 hb5)
        | (at_builtin; refine wpList_append_at _ rfl (.tmp 48) (.tmp 49) 31 rfl w.heap.size 5 .u8 (.int .u8 0) 1 Tryz.underlying31 info5 rfl rfl rfl ho3 ho3'.rd HL.out rfl (by omega) (by unfold maxLen; omega) hB3.size ?_; intro ao4 cap4 w4 ho4 hg4 _; have hB4 : Below w.heap.size w w4 := hB3.trans (grown_below hg4 (fun y hy => (HBL.out y hy).1) hB3.size); have v4 := grown_cell hg4 v3 (fun y hy => by have := (HBL.out y hy).2; omega))
        | (go_at_call 77; refine (nums_at (wr.alloc (wputO ⟨pg, ob, x1, x2⟩)) _ 2 6 (by simp) _ [(pg : Int), ob] rfl rfl rfl ?_ (by omega)).mono ?_; (intro z hz; simp only [List.mem_cons, List.not_mem_nil, or_false] at hz; omega); rintro x w3 ⟨ao3, cap3, rfl, ho3', hb3⟩; have hB3 : Below w.heap.size w w3 := (hbel.alloc hbel.size _).trans (hb3.mono (by simp; omega)); have hw3 : Below wr.heap.size wr w3 := (below_box wr _).trans (hb3.mono (by simp)); have ho3 := ho.below hw3; have v3 : w3.cell? ⟨wr.heap.size, 2, none⟩ = some (.complex .f64 x1 x2) := (hb3.cell (p := ⟨wr.heap.size, 2, none⟩) (by simp)).trans (by rw [cell_of_row _ _ _ _ _ _ (heap_alloc_new wr (wputO ⟨pg, ob, x1, x2⟩))]; rfl))
        | (fail))
      rw [HS.out] at ho6
      go_roundw
      case rel => exact ⟨k + 1, ao6, cap6, by omega, by go_num, by rw [show 15 + 22 * (k + 1) = 15 + 22 * k + 6 + 16 by omega], ho6, hB6⟩
      case measure => simp [intOf]; omega
    · have hkn : k = n := by omega
      subst hkn
      rw [List.take_of_length_le (by omega)] at ho
      have hbd := bodyZ_bd l c e t k ps
      have hlz : (bodyZ l c e t k ps).length = 15 + 22 * k := by rw [bodyZ_length, hln]
      have hr : Rd8 wr a (15 + 22 * k) cc (nb (bodyZ l c e t k ps)) := rd8_nb ho.rd hlz hbd
      clear hbd hlz
      have hsz := hbel.size
      go_wp2_with (first
        | (at_builtin; refine wpList_append_at _ rfl (.tmp 66) (.tmp 67) 31 rfl w.heap.size 5 .u8 (.int .u8 0) 1 Tryz.underlying31 info5 rfl rfl rfl (ho4.mono hB3.size) (ho3.rd.below hb4).rd (formsN_length _) (by rw [ci_length]; exact ho3.len) (by omega) (by unfold maxLen; omega) (below_step hB3 hb4).size ?_; intro ao5 cap5 w5 ho5 hg5 _; have hB5 : Below w.heap.size w w5 := (below_step hB3 hb4).trans (grown_below hg5 (fun y hy => ((ho4.mono hB3.size).blk y hy).1) (below_step hB3 hb4).size))
        | (go_at_call 77; refine (nums_at w3 _ 1 3 rfl _ [_] rfl rfl rfl ?_ (by omega)).mono ?_; (intro z hz; simp only [List.mem_cons, List.not_mem_nil, or_false] at hz; omega); rintro x w4 ⟨ao4, cap4, rfl, ho4, hb4⟩)
        | (go_at_call 79; refine (seal_any _ _ _ _ _ hr (by omega)).mono ?_; rintro x w3 ⟨ao3, cap3, rfl, ho3, hb3⟩; have hB3 : Below w.heap.size w w3 := below_step hbel hb3)
        | (fail))
      go_returns
      have ew : ci (wbN ⟨l, c, e, t, ps⟩) = formsN [15 + 22 * (k : Int) + 2] ++ ci (sealN (nb (bodyZ l c e t k ps))) := by
        have e1 : ((17 + 22 * ps.length : Nat) : Int) = 15 + 22 * (k : Int) + 2 := by omega
        rw [wbN, bodyN, ci_append, ci_nb (formsN_bd _), e1, hln]
      refine ⟨ao5, cap5, ?_, ⟨by rw [ew]; exact ho5, by rw [wbN_length, hln], wbN_bytes _⟩, hB5⟩
      show Ending.returned (.tuple #[.slice ao5 (3 + (15 + 22 * k + 2)) cap5, .int .i64 0]) = _
      rw [show 20 + 22 * k = 3 + (15 + 22 * k + 2) by omega]

end Go.Proofs.YtpofihiojhbfgaaGreatDoor

namespace Go.Proofs.YtpofihiojhbfgaaGreatDoor
open Go.RowKit
set_option linter.unusedVariables false
set_option maxRecDepth 8000

theorem forms_at (xs zs : List Int) : ∀ i (h : i < xs.length), ((formsN xs ++ zs).drop (3 * i)).take 3 = wrN 3 xs[i] := by
  induction xs with
  | nil => intro i h; simp at h
  | cons x r ih =>
    intro i h
    have e : formsN (x :: r) ++ zs = wrN 3 x ++ (formsN r ++ zs) := by simp [formsN]
    have l3 : (wrN 3 x).length = 3 := by simp
    rw [e]
    cases i with
    | zero => rw [Nat.mul_zero, List.drop_zero, List.take_append_of_le_length (by omega), List.take_of_length_le (by omega)]; rfl
    | succ i =>
      have e2 : (wrN 3 x ++ (formsN r ++ zs)).drop (3 * (i + 1)) = (formsN r ++ zs).drop (3 * i) := by
        rw [show 3 * (i + 1) = 3 + 3 * i by omega, ← List.drop_drop, List.drop_append_of_le_length (Nat.le_of_eq l3.symm), List.drop_of_length_le (Nat.le_of_eq l3), List.nil_append]
      rw [e2]
      simpa using ih i (by simpa using h)

theorem getN_forms (xs zs : List Int) (hz : ∀ z ∈ xs, 0 ≤ z ∧ z ≤ 16777215) : getN (formsN xs ++ zs) xs.length = xs := by
  apply List.ext_getElem
  · simp [getN]
  · intro i h1 h2
    have hi := hz xs[i] (List.getElem_mem _)
    simp only [getN, List.getElem_map, List.getElem_range]
    rw [forms_at xs zs i h2]
    exact rdN_wrN 3 _ hi.1 (by have : (256 : Int) ^ 3 = 16777216 := by decide
                               omega)

theorem get_forms (ao : Option Addr) (cap n m j : Nat) (xs zs : List Int) (w : World) (hrd : RdI w .u8 ao cap (formsN xs ++ zs)) (hm : xs.length = m) (hj : zs.length = j) (hn : n = 3 * m + j) (hx : ∀ z ∈ xs, 0 ≤ z ∧ z ≤ 16777215) (hb : ∀ z ∈ zs, 0 ≤ z ∧ z < 256) (hs : m ≤ 1000) (hlen : n ≤ 140737488355328) :
    Calls Tryz.prog 82 #[.slice ao n cap, .int .i64 (m : Int)] w fun e w' => ∃ a1 c1 a2 c2, e = .returned (.tuple #[.slice a1 m c1, .slice a2 j c2, .int .i64 0]) ∧
      OwnI w' w.heap.size 3 .i64 a1 c1 xs ∧ OwnI w' w.heap.size 5 .u8 a2 c2 zs ∧ Below w.heap.size w w' := by
  have hl := formsN_length xs
  refine (get_good ao cap n m (formsN xs ++ zs) w hrd (by rw [List.length_append, hl]; omega) ?_ hs (by omega) hlen).mono ?_
  · intro z hz
    rcases List.mem_append.1 hz with h | h
    · exact formsN_bd _ z h
    · exact hb z h
  · rintro e w' ⟨a1, c1, a2, c2, rfl, ho1, ho2, hbl⟩
    subst hm
    rw [getN_forms xs zs hx] at ho1
    rw [← hl, List.drop_left] at ho2
    exact ⟨a1, c1, a2, c2, by rw [show n - 3 * xs.length = j by omega], ho1, ho2, hbl⟩

structure PtAt (w : World) (g : Nat) (a b : Int) (x : Nat × Nat) : Prop where
  c0 : w.cell? ⟨g, 0, none⟩ = some (.int .i64 a)
  c1 : w.cell? ⟨g, 1, none⟩ = some (.int .i64 b)
  c2 : w.cell? ⟨g, 2, none⟩ = some (.complex .f64 x.1 x.2)
  fz : ∀ j, w.frozen? ⟨g, j, none⟩ = false
  lt : g < w.heap.size

abbrev ptZ : Obj := .cells #[.int .i64 0, .int .i64 0, .complex .f64 0 0] 50

theorem PtAt.new (w : World) : PtAt (w.alloc ptZ) w.heap.size 0 0 (0, 0) := by
  have h := heap_alloc_new w ptZ
  refine ⟨?_, ?_, ?_, fun j => frozen_of_row _ _ _ _ _ h, by simp⟩
  all_goals rw [cell_of_row _ _ _ _ _ _ h]; rfl

theorem PtAt.below {w w' : World} {g : Nat} {a b : Int} {x : Nat × Nat} (h : PtAt w g a b x) (hb : Below w.heap.size w w') : PtAt w' g a b x := by
  have hg := hb.block g h.lt
  exact ⟨(World.cell?_of_block (w := w) hg).trans h.c0, (World.cell?_of_block (w := w) hg).trans h.c1, (World.cell?_of_block (w := w) hg).trans h.c2, fun j => (World.frozen?_of_block (w := w) hg).trans (h.fz j), Nat.lt_of_lt_of_le h.lt hb.size⟩

abbrev putV (p : PutG) : Value := .agg #[.int .i64 (p.pg : Int), .int .i64 (p.ob : Int), .complex .f64 p.c.1 p.c.2]

def PutG.can (p : PutG) : PutG := ⟨p.pg, p.ob, canO p.c⟩

set_option maxHeartbeats 800000 in
theorem takePut_ok (p : PutG) (ao : Option Addr) (cap n m : Nat) (zs : List Int) (w : World) (hrd : RdI w .u8 ao cap (putZ p ++ zs)) (hm : zs.length = m) (hn : n = 22 + m) (h1 : p.pg ≤ 5) (h2 : p.ob ≤ 3) (h3 : wordB p.c) (hb : ∀ z ∈ zs, 0 ≤ z ∧ z < 256) (hlen : n ≤ 140737488355328) :
    Calls Tryz.prog 166 #[.slice ao n cap] w fun e w' => ∃ a2 c2, e = .returned (.tuple #[putV p.can, .slice a2 m c2, .int .i64 0]) ∧ OwnI w' w.heap.size 5 .u8 a2 c2 zs ∧ Below w.heap.size w w' := by
  obtain ⟨pg, ob, x⟩ := p
  simp only at h1 h2 h3
  have hst := fun (ad : Addr) (re im : Nat) (W : World) => run_store Tryz.prog W ad (.complex .f64 re im) .plain rfl
  have hz : PtAt (w.alloc ptZ) w.heap.size 0 0 (0, 0) := PtAt.new w
  have hr : RdI (w.alloc ptZ) .u8 ao cap (formsN [(pg : Int), ob] ++ (valN x.1 x.2 ++ zs)) := by rw [← List.append_assoc]; exact hrd.alloc _
  have HW : Hid (wordB x) := h3
  have HB : Hid (∀ z ∈ zs, 0 ≤ z ∧ z < 256) := hb
  have HB2 : Hid (∀ z ∈ valN x.1 x.2 ++ zs, 0 ≤ z ∧ z < 256) := by
    intro z hz
    rcases List.mem_append.1 hz with h | h
    · exact valN_bd _ _ z h
    · exact hb z h
  have HL : Hid ((valN x.1 x.2 ++ zs).length = 16 + m) := by rw [Hid, List.length_append, valN_length, hm]
  have HN : Hid (n = 22 + m) := hn
  clear hb h3 hrd hn
  go_enter Tryz.func166, Tryz.ntmps166
  go_upto_region 5 with (first
    | (go_at_call 118; refine (take_val _ _ (16 + m) m x zs _ ho2.rd hm rfl HW.out HB.out (by have := HN.out; omega)).mono ?_; rintro e w2 ⟨a3, c3, rfl, ho3, hb3⟩; have hq := hq1.below hb3; have ho4 := ho1.below hb3; obtain ⟨b1, f1, rfl, -, hc⟩ := ho4.rd.at (t := 0) (by simp); have p0 := hc 0 (by simp); have p1 := hc 1 (by simp); have z0 := hq.c0; have z1 := hq.c1; have z2 := hq.c2; have y0 := hq.fz 0; have y1 := hq.fz 1; have y2 := hq.fz 2; simp only [List.getElem_cons_zero, List.getElem_cons_succ, Nat.add_zero] at p0 p1; have HS1 : Hid (w.heap.size < w1.heap.size) := hq1.lt; have HB3 : Hid (Below w.heap.size w w2) := below_step (below_alloc (hb2.mono (by simp))) hb3; clear hc hq hq1 ho4 ho1)
    | (go_at_call 82; refine (get_forms _ _ n 2 (16 + m) [(pg : Int), ob] (valN x.1 x.2 ++ zs) _ hr rfl HL.out (by have := HN.out; omega) ?_ HB2.out (by omega) hlen).mono ?_; (intro z hz; simp only [List.mem_cons, List.not_mem_nil, or_false] at hz; omega); rintro e w1 ⟨a1, c1, a2, c2, rfl, ho1, ho2, hb2⟩; have hq1 := hz.below hb2)
    | (fail))
  go_big_region
  go_wp2
  refine bodyPost_ret (by simp [results, Tryz.results166, go_sem, z0, z1, z2]; try rfl) rfl ?_
  refine ⟨_, _, rfl, ?_, ?_⟩
  · have h4 := (((ho3.other ⟨w.heap.size, 0, none⟩ (.int .i64 (pg : Int)) HS1.out).other ⟨w.heap.size, 1, none⟩ (.int .i64 (ob : Int)) HS1.out).other ⟨w.heap.size, 2, none⟩ (.complex .f64 (canO x).1 (canO x).2) HS1.out).mono (Nat.le_of_lt HS1.out)
    exact OwnS.keep h4 fun _ _ => rfl
  · exact (((HB3.out.setCell (Nat.le_refl _) _).setCell (Nat.le_refl _) _).setCell (Nat.le_refl _) _).drew

end Go.Proofs.YtpofihiojhbfgaaGreatDoor

namespace Go.Proofs.YtpofihiojhbfgaaGreatDoor
open Go.RowKit
set_option linter.unusedVariables false
set_option maxRecDepth 8000

theorem info61 : (Tryz.prog.info? 50).map (fun i => (i.zero, i.size, i.bytes)) = some (some (.agg #[.int .i64 0, .int .i64 0, .complex .f64 0 0]), 3, 32) := by kernel_rfl

def mkP (n : Nat) : Array Value := madeCells #[.int .i64 0, .int .i64 0, .complex .f64 0 0] (n * 3)

theorem make_puts (n : Nat) (hn : n ≤ 24) (w : World) :
    (Instr.makeSlice 43 (.int .i64 (n : Int)) (.int .i64 (n : Int))).run Tryz.prog w = .ok (.slice (some ⟨w.heap.size, 0, none⟩) n n) (w.alloc (.cells (mkP n) 50)) := by
  obtain ⟨i, hi, hz, hs, hb⟩ := info_parts info61
  have hr := run_make (P := Tryz.prog) w 43 50 i _ Tryz.underlying43 hi hz .i64 .i64 n n (by omega) (Int.le_refl _) (by rw [hb]; omega) (by omega)
  simp only [Int.toNat_natCast, hs] at hr
  exact hr

theorem mkP_get (n j : Nat) (h : j < n * 3) : (mkP n)[j]? = some (#[Value.int .i64 0, .int .i64 0, .complex .f64 0 0][j % 3]!) := by
  simp [mkP, madeCells, h]

abbrev pt0 : PutG := ⟨0, 0, (0, 0)⟩

def PTag (w : World) (g : Nat) : Prop := ∃ cs, w.heap[g]? = some (.cells cs 50)

theorem PTag.keep {w w' : World} {g : Nat} (h : PTag w g) (hg : w'.heap[g]? = w.heap[g]?) : PTag w' g := by
  obtain ⟨cs, e⟩ := h
  exact ⟨cs, hg.trans e⟩

theorem PTag.put {w : World} {g : Nat} (h : PTag w g) (j : Nat) (v : Value) : PTag (w.setCell ⟨g, j, none⟩ v) g := by
  obtain ⟨cs, e⟩ := h
  exact ⟨_, heap_setCell_same w g j cs _ v e⟩

structure PutsIn (w : World) (g m : Nat) (ps : List PutG) : Prop where
  sz : ps.length = m
  cell : ∀ t (h : t < ps.length), w.cell? ⟨g, t * 3, none⟩ = some (.int .i64 (ps[t].pg : Int)) ∧ w.cell? ⟨g, t * 3 + 1, none⟩ = some (.int .i64 (ps[t].ob : Int)) ∧ w.cell? ⟨g, t * 3 + 2, none⟩ = some (.complex .f64 ps[t].c.1 ps[t].c.2)
  fz : ∀ j, w.frozen? ⟨g, j, none⟩ = false
  lt : g < w.heap.size
  tag : PTag w g

theorem PutsIn.new (w : World) (n : Nat) : PutsIn (w.alloc (.cells (mkP n) 50)) w.heap.size n (List.replicate n pt0) := by
  have h := heap_alloc_new w (.cells (mkP n) 50)
  refine ⟨by simp, fun t ht => ?_, fun j => frozen_of_row _ _ _ _ _ h, by simp, _, h⟩
  simp only [List.length_replicate] at ht
  refine ⟨?_, ?_, ?_⟩
  all_goals
    rw [cell_of_row _ _ _ _ _ _ h, mkP_get _ _ (by omega)]
    simp

theorem PutsIn.keep {w w' : World} {g m : Nat} {ps : List PutG} (h : PutsIn w g m ps) (hg : w'.heap[g]? = w.heap[g]?) (hs : w.heap.size ≤ w'.heap.size) : PutsIn w' g m ps :=
  ⟨h.sz, fun t ht => ⟨(World.cell?_of_block (w := w) hg).trans (h.cell t ht).1, (World.cell?_of_block (w := w) hg).trans (h.cell t ht).2.1, (World.cell?_of_block (w := w) hg).trans (h.cell t ht).2.2⟩, fun j => (World.frozen?_of_block (w := w) hg).trans (h.fz j), Nat.lt_of_lt_of_le h.lt hs, h.tag.keep hg⟩

theorem PutsIn.below {w w' : World} {g m : Nat} {ps : List PutG} (h : PutsIn w g m ps) (hb : Below w.heap.size w w') : PutsIn w' g m ps := h.keep (hb.block g h.lt) hb.size

abbrev set3 (w : World) (g k : Nat) (p : PutG) : World := ((w.setCell ⟨g, k * 3, none⟩ (.int .i64 (p.pg : Int))).setCell ⟨g, k * 3 + 1, none⟩ (.int .i64 (p.ob : Int))).setCell ⟨g, k * 3 + 2, none⟩ (.complex .f64 p.c.1 p.c.2)

theorem PutsIn.set {w : World} {g m : Nat} {ps : List PutG} (h : PutsIn w g m ps) (k : Nat) (hk : k < ps.length) (p : PutG) : PutsIn (set3 w g k p) g m (ps.set k p) := by
  obtain ⟨h0, h1, h2⟩ := h.cell k hk
  refine ⟨by simpa using h.sz, fun t ht => ?_, fun j => by simp only [set3, World.frozen?_setCell]; exact h.fz j, by simpa [set3, World.setCell] using h.lt, ((h.tag.put _ _).put _ _).put _ _⟩
  simp only [List.length_set] at ht
  by_cases e : t = k
  · subst e
    have e0 : (ps.set t p)[t]'(by simpa using ht) = p := by simp
    simp only [e0]
    refine ⟨?_, ?_, ?_⟩
    · rw [put_other _ _ _ _ _ (by omega), put_other _ _ _ _ _ (by omega)]
      exact World.cell?_setCell_same _ _ _ h0
    · rw [put_other _ _ _ _ _ (by omega)]
      exact World.cell?_setCell_same _ _ _ (by rw [put_other _ _ _ _ _ (by omega)]; exact h1)
    · exact World.cell?_setCell_same _ _ _ (by rw [put_other _ _ _ _ _ (by omega), put_other _ _ _ _ _ (by omega)]; exact h2)
  · have e0 : (ps.set k p)[t]'(by simpa using ht) = ps[t] := by rw [List.getElem_set_ne (by omega)]
    simp only [e0]
    obtain ⟨g0, g1, g2⟩ := h.cell t ht
    refine ⟨?_, ?_, ?_⟩
    · rw [put_other _ _ _ _ _ (by omega), put_other _ _ _ _ _ (by omega), put_other _ _ _ _ _ (by omega)]; exact g0
    · rw [put_other _ _ _ _ _ (by omega), put_other _ _ _ _ _ (by omega), put_other _ _ _ _ _ (by omega)]; exact g1
    · rw [put_other _ _ _ _ _ (by omega), put_other _ _ _ _ _ (by omega), put_other _ _ _ _ _ (by omega)]; exact g2

theorem PutsIn.rd {w : World} {g m : Nat} {ps : List PutG} (h : PutsIn w g m ps) : RdP w (some ⟨g, 0, none⟩) m m ps :=
  ⟨h.sz, fun t ht => ⟨g, 0, rfl, h.lt, by simpa using h.cell t ht⟩⟩

structure OwnP (w : World) (base : Nat) (ap : Option Addr) (n : Nat) (ps : List PutG) : Prop where
  rd : RdP w ap n n ps
  own : ∃ g, ap = some ⟨g, 0, none⟩ ∧ base ≤ g ∧ g < w.heap.size ∧ PTag w g

theorem OwnP.keep {w w' : World} {base : Nat} {ap : Option Addr} {n : Nat} {ps : List PutG} (h : OwnP w base ap n ps) (hk : ∀ g, base ≤ g → g < w.heap.size → PTag w g → w'.heap[g]? = w.heap[g]?) (hs : w.heap.size ≤ w'.heap.size) : OwnP w' base ap n ps := by
  obtain ⟨g, e, h1, h2, h3⟩ := h.own
  have hb := hk g h1 h2 h3
  refine ⟨⟨h.rd.len, fun t ht => ?_⟩, g, e, h1, Nat.lt_of_lt_of_le h2 hs, h3.keep hb⟩
  obtain ⟨b, off, e2, _, c0, c1, c2⟩ := h.rd.cell t ht
  rw [e] at e2
  cases e2
  exact ⟨g, 0, e, Nat.lt_of_lt_of_le h2 hs, (World.cell?_of_block (w := w) hb).trans c0, (World.cell?_of_block (w := w) hb).trans c1, (World.cell?_of_block (w := w) hb).trans c2⟩

theorem OwnP.below {w w' : World} {base : Nat} {ap : Option Addr} {n : Nat} {ps : List PutG} (h : OwnP w base ap n ps) (hb : Below w.heap.size w w') : OwnP w' base ap n ps := h.keep (fun g _ h2 _ => hb.block g h2) hb.size

theorem OwnP.mono {w : World} {base base' : Nat} {ap : Option Addr} {n : Nat} {ps : List PutG} (h : OwnP w base ap n ps) (hb : base' ≤ base) : OwnP w base' ap n ps := by
  obtain ⟨g, e, h1, h2, h3⟩ := h.own
  exact ⟨h.rd, g, e, Nat.le_trans hb h1, h2, h3⟩

theorem OwnP.other {w : World} {base : Nat} {ap : Option Addr} {n : Nat} {ps : List PutG} (h : OwnP w base ap n ps) (p : Addr) (v : Value) (hp : p.block < base) : OwnP (w.setCell p v) base ap n ps :=
  h.keep (fun g h1 _ _ => Below.heap_setCell _ _ _ _ (by omega)) (by simp [World.setCell])

theorem PutsIn.own {w : World} {g m : Nat} {ps : List PutG} (h : PutsIn w g m ps) (base : Nat) (hb : base ≤ g) : OwnP w base (some ⟨g, 0, none⟩) m ps := ⟨h.rd, g, rfl, hb, h.lt, h.tag⟩

def gotP (ps : List PutG) (m k : Nat) : List PutG := (ps.take k).map PutG.can ++ List.replicate (m - k) pt0

theorem gotP_length (ps : List PutG) (m k : Nat) (hm : ps.length = m) (hk : k ≤ m) : (gotP ps m k).length = m := by
  simp [gotP]; omega

theorem gotP_set (ps : List PutG) (m k : Nat) (hm : ps.length = m) (hk : k < m) : (gotP ps m k).set k (ps[k]'(by omega)).can = gotP ps m (k + 1) := by
  unfold gotP
  rw [List.take_succ_eq_append_getElem (by omega), List.map_append, List.set_append_right _ _ (by simp; omega)]
  have e1 : k - ((ps.take k).map PutG.can).length = 0 := by simp; omega
  rw [e1, show m - k = (m - (k + 1)) + 1 by omega, List.replicate_succ, List.set_cons_zero]
  simp

theorem gotP_all (ps : List PutG) (m : Nat) (hm : ps.length = m) : gotP ps m m = ps.map PutG.can := by
  simp [gotP, List.take_of_length_le (Nat.le_of_eq hm)]

theorem can_ok {ps : List PutG} (h : PutsOk ps) : PutsOk (ps.map PutG.can) := by
  refine ⟨by simpa using h.le, ?_, ?_⟩
  · intro p hp
    obtain ⟨q, hq, rfl⟩ := List.mem_map.1 hp
    obtain ⟨h1, h2, h3⟩ := h.pg q hq
    exact ⟨h1, h2, formN_lt _ h3.1, formN_lt _ h3.2⟩
  · intro i p q hp hq
    simp only [List.getElem?_map, Option.map_eq_some_iff] at hp hq
    obtain ⟨p', hp', rfl⟩ := hp
    obtain ⟨q', hq', rfl⟩ := hq
    exact h.inc i p' q' hp' hq'

theorem BtAt.other {w : World} {g : Nat} {l c e t : Int} {ao : Option Addr} {n cap : Nat} (h : BtAt w g l c e t ao n cap) (p : Addr) (v : Value) (hne : g ≠ p.block) : BtAt (w.setCell p v) g l c e t ao n cap :=
  h.keep (Below.heap_setCell _ _ _ _ hne) (by simp [World.setCell])

end Go.Proofs.YtpofihiojhbfgaaGreatDoor
