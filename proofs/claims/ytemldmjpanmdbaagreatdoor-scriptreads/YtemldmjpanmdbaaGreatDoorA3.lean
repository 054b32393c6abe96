/- The complex number with which bytes begin; bytes of numbers. Scripts and their bytes: which can be, and what is read. Nothing is walked here. -/
import Derived.Test.YtemldmjpanmdbaaGreatDoorA2
import Derived.Test.YtemldmjpanmdbaaGreatDoorA1
import Derived.Deep.RegionHeldLaw
import Derived.Handy
namespace Go.Proofs.YtemldmjpanmdbaaGreatDoor
open Go.RowKit
set_option linter.unusedVariables false

def wordB (c : Nat × Nat) : Prop := c.1 < 18446744073709551616 ∧ c.2 < 18446744073709551616

theorem formsN_bd (zs : List Int) : ∀ z ∈ formsN zs, 0 ≤ z ∧ z < 256 := by
  intro z hz
  obtain ⟨c, _, h⟩ := List.mem_flatMap.1 hz
  exact wrN_bd _ _ z h

theorem formsN_append (xs ys : List Int) : formsN (xs ++ ys) = formsN xs ++ formsN ys := by simp [formsN]

/-- The complex number with which bytes begin, and what is behind it. -/
def val1 (zs : List Int) : Option ((Nat × Nat) × List Int) :=
  if 16 ≤ zs.length ∧ formN (rdW (zs.take 8)) = rdW (zs.take 8) ∧ formN (rdW ((zs.drop 8).take 8)) = rdW ((zs.drop 8).take 8) then some ((rdW (zs.take 8), rdW ((zs.drop 8).take 8)), zs.drop 16) else none

theorem val1_some {zs : List Int} {c : Nat × Nat} {r : List Int} (hb : ∀ z ∈ zs, 0 ≤ z ∧ z < 256) (h : val1 zs = some (c, r)) : zs = valN c.1 c.2 ++ r ∧ wordB c := by
  unfold val1 at h
  split at h
  · rename_i hc
    obtain ⟨h1, h2, h3⟩ := hc
    simp only [Option.some.injEq, Prod.mk.injEq] at h
    obtain ⟨rfl, rfl⟩ := h
    refine ⟨?_, rdW_lt _ (fun z hz => hb z (List.mem_of_mem_take hz)) (by simp; omega), rdW_lt _ (part_bd zs 8 8 hb) (by simp; omega)⟩
    simp only
    rw [val_take zs hb h1 h2 h3, List.take_append_drop]
  · cases h

theorem take_some (ao : Option Addr) (cap n m : Nat) (zs r : List Int) (c : Nat × Nat) (w : World) (hrd : RdI w .u8 ao cap zs) (hn : zs.length = n) (hb : ∀ z ∈ zs, 0 ≤ z ∧ z < 256) (hlen : n ≤ 140737488355328) (h : val1 zs = some (c, r)) (hm : r.length = m) :
    Calls Tryz.prog 38 #[.slice ao n cap] w fun e w' => ∃ a2 c2, e = .returned (.tuple #[.complex .f64 c.1 c.2, .slice a2 m c2, .int .i64 0]) ∧ OwnI w' w.heap.size 5 .u8 a2 c2 r ∧ Below w.heap.size w w' := by
  unfold val1 at h
  split at h
  · rename_i hc
    obtain ⟨h1, h2, h3⟩ := hc
    simp only [Option.some.injEq, Prod.mk.injEq] at h
    obtain ⟨rfl, rfl⟩ := h
    have : n - 16 = m := by simp at hm; omega
    subst this
    exact take_long ao cap n zs w hrd hn hb (by omega) hlen h2 h3
  · cases h

theorem take_none (ao : Option Addr) (cap n : Nat) (zs : List Int) (w : World) (hrd : RdI w .u8 ao cap zs) (hn : zs.length = n) (hb : ∀ z ∈ zs, 0 ≤ z ∧ z < 256) (hlen : n ≤ 140737488355328) (h : val1 zs = none) :
    Calls Tryz.prog 38 #[.slice ao n cap] w fun e w' => e = .returned (.tuple #[.complex .f64 0 0, .slice none 0 0, .int .i64 21]) ∧ Below w.heap.size w w' := by
  unfold val1 at h
  split at h
  · cases h
  · rename_i hc
    by_cases h1 : 16 ≤ zs.length
    · refine take_odd ao cap n zs w hrd hn hb (by omega) hlen ?_
      by_cases h2 : formN (rdW (zs.take 8)) = rdW (zs.take 8)
      · exact .inr fun h3 => hc ⟨h1, h2, h3⟩
      · exact .inl h2
    · exact (take_short ao cap n w (by omega)).mono fun e w' he => ⟨he.1, by rw [he.2]; exact Below.refl _ _⟩

theorem OwnI.blk {w : World} {base : Nat} {e : TypeId} {k : IntKind} {ao : Option Addr} {cap : Nat} {zs : List Int} (h : OwnI w base e k ao cap zs) : ∀ a, ao = some a → base ≤ a.block ∧ a.block < w.heap.size := by
  intro a ha
  obtain ⟨_, h2⟩ := h
  rcases h2 with ⟨hv, _⟩ | ⟨g, cp, cur, hv, hg, hh, _⟩
  · simp only [Value.slice.injEq] at hv; rw [hv.1] at ha; cases ha
  · simp only [Value.slice.injEq] at hv
    rw [hv.1] at ha
    cases ha
    exact ⟨hg, (Array.getElem?_eq_some_iff.1 hh).1⟩

theorem OwnI.keep {w w' : World} {base : Nat} {e : TypeId} {k : IntKind} {ao : Option Addr} {cap : Nat} {zs : List Int} (h : OwnI w base e k ao cap zs) (hb : ∀ a, ao = some a → w'.heap[a.block]? = w.heap[a.block]?) : OwnI w' base e k ao cap zs := by
  obtain ⟨h1, h2⟩ := h
  refine ⟨h1, ?_⟩
  rcases h2 with h2 | ⟨g, cp, cur, hv, hg, hh, r⟩
  · exact .inl h2
  · have hv2 := hv
    simp only [Value.slice.injEq] at hv2
    exact .inr ⟨g, cp, cur, hv, hg, by rw [hb ⟨g, 0, none⟩ hv2.1]; exact hh, r⟩

/-- A block that is not the row's is kept. -/
theorem grown_block {w w' : World} {ao : Option Addr} {n cap g : Nat} (hg : w.grownBy w' (Value.ownBlock (.slice ao n cap))) (hlt : g < w.heap.size) (hne : ∀ a, ao = some a → a.block ≠ g) : w'.heap[g]? = w.heap[g]? := by
  refine hg.block g hlt ?_
  cases ao with
  | none => simp [Value.ownBlock]
  | some a => have := hne a rfl; simp [Value.ownBlock]; omega

/-- A cell of a block that is not the row's is kept. -/
theorem grown_cell {w w' : World} {ao : Option Addr} {n cap g j : Nat} {v : Value} (hg : w.grownBy w' (Value.ownBlock (.slice ao n cap))) (hc : w.cell? ⟨g, j, none⟩ = some v) (hne : ∀ a, ao = some a → a.block ≠ g) : w'.cell? ⟨g, j, none⟩ = some v := by
  refine hg.cell hc ?_
  cases ao with
  | none => simp [Value.ownBlock]
  | some a => have := hne a rfl; simp [Value.ownBlock]; omega

theorem grown_below {w w' : World} {ao : Option Addr} {n cap B : Nat} (hg : w.grownBy w' (Value.ownBlock (.slice ao n cap))) (hne : ∀ a, ao = some a → B ≤ a.block) (hB : B ≤ w.heap.size) : Below B w w' := by
  refine ⟨hg.os, hg.tape, hg.output, hg.size, fun k hk => hg.block k (by omega) ?_⟩
  cases ao with
  | none => simp [Value.ownBlock]
  | some a => have := hne a rfl; simp [Value.ownBlock]; omega

theorem below_box (w : World) (o : Obj) : Below w.heap.size w (w.alloc o) := (Below.refl _ _).alloc (Nat.le_refl _) _
theorem below_drewn {B : Nat} {w w' : World} (h : Below B w.drew w') : Below B w w' := ⟨h.os, h.tape, h.output, h.size, h.block⟩

theorem nums_at (W : World) (g m q : Nat) (hg : W.heap.size = g) (xs : Array Value) (zs : List Int) (hx : xs.toList = zs.map (Value.int .i64)) (hm : zs.length = m) (hq : q = 3 * m) (hz : ∀ z ∈ zs, 0 ≤ z ∧ z ≤ 16777215) (hs : m ≤ 1000) :
    Calls Tryz.prog 25 #[.slice (some ⟨g, 0, none⟩) m m] (W.alloc (.cells xs 3)) fun e w' => ∃ ao cap, e = .returned (.tuple #[.slice ao q cap, .int .i64 0]) ∧
      OwnI w' W.heap.size 5 .u8 ao cap (formsN zs) ∧ Below W.heap.size W w' := by
  subst hg hq
  have hr := RdI.built W 3 .i64 xs m zs hx hm (by unfold maxLen; omega)
  refine (nums_good _ m m zs _ hr hm (by omega) hz).mono ?_
  rintro e w2 ⟨ao2, cap2, rfl, ho2, hb2⟩
  have hs3 : (W.alloc (.cells xs 3)).heap.size = W.heap.size + 1 := by simp
  rw [hs3] at ho2 hb2
  exact ⟨_, _, rfl, ho2.mono (by omega), (below_box W _).trans (hb2.mono (by omega))⟩

end Go.Proofs.YtemldmjpanmdbaaGreatDoor

namespace Go.Proofs.YtemldmjpanmdbaaGreatDoor
open Go.RowKit
set_option linter.unusedVariables false

/-- A step. -/
structure Sg where
  k : Int
  c : Int
  l : Int
  n : Int
  a : Int
  m : Int
  ok : Int
  op : Int
  oo : Int
  v : Nat × Nat

/-- A script. -/
structure Scr where
  c : Int
  f : Int
  m : Int
  p : Int
  r : Int
  ss : List Sg

def bw (n a b : Int) : Bool := decide (a ≤ n) && decide (n ≤ b)
theorem bw_iff (n a b : Int) : bw n a b = true ↔ a ≤ n ∧ n ≤ b := by simp [bw]

def kC (k : Int) : Bool := k == 0 || k == 1 || k == 8 || k == 9
def kO (k : Int) : Bool := k == 0
def kL (k : Int) : Bool := k == 3 || k == 4 || k == 5 || k == 6 || k == 7
def kN (k : Int) : Bool := kL k || k == 10 || k == 14
def kA (k : Int) : Bool := k == 6 || k == 10
def kM (k : Int) : Bool := k == 6
/-- Nothing is asked. -/
def opZ (s : Sg) : Bool := s.ok == 0 && s.op == 0 && s.oo == 0 && (formN s.v.1 == 0 && formN s.v.2 == 0)
/-- Each part is within its bounds. -/
def withinS (s : Sg) : Bool := bw s.c 0 3 && bw s.l 0 7 && bw s.n (-1) 65535 && bw s.a (-1) 65535 && bw s.ok 0 4 && bw s.op 0 5 && bw s.oo 0 3
/-- It has nothing that its kind hasn't. -/
def ownS (s : Sg) : Bool := (kC s.k || s.c == 0) && (kO s.k || opZ s) && (kL s.k || s.l == 0) && (kN s.k || s.n == 0) && (kA s.k || s.a == 0) && (kM s.k || s.m == 0)
def rightS (s : Sg) : Bool := bw s.k 0 14 && withinS s && ownS s
def rightSc (S : Scr) : Bool := decide (S.ss.length ≤ 500) && S.ss.all rightS && canC S.c S.f S.m S.p S.r
  where canC (c f m p r : Int) : Bool := bw c 1 4 && bw f 1 6 && bw m 1 6 && bw p 1 100 && bw r 0 20000

def stN (s : Sg) : List Int := [s.k, s.c, s.l, s.n + 1, s.a + 1, s.m, s.ok, s.op, s.oo]
def stZ (s : Sg) : List Int := formsN (stN s) ++ valN s.v.1 s.v.2
def stsZ (l : List Sg) : List Int := l.flatMap stZ
def hdN (S : Scr) : List Int := [S.c, S.f, S.m, S.p, S.r, (S.ss.length : Int)]
def scZ (S : Scr) : List Int := formsN (hdN S) ++ stsZ S.ss

theorem stZ_length (s : Sg) : (stZ s).length = 43 := by simp [stZ, stN, formsN_length, valN_length]
theorem stsZ_length (l : List Sg) : (stsZ l).length = 43 * l.length := by
  induction l with
  | nil => rfl
  | cons s r ih =>
    have e : stsZ (s :: r) = stZ s ++ stsZ r := rfl
    rw [e, List.length_append, ih, stZ_length, List.length_cons]; omega
theorem scZ_length (S : Scr) : (scZ S).length = 18 + 43 * S.ss.length := by simp [scZ, hdN, formsN_length, stsZ_length]

/-- The number at a place. -/
def at3 (zs : List Int) (i : Nat) : Int := rdN ((zs.drop (3 * i)).take 3)
theorem get9 (zs : List Int) : getN zs 9 = [at3 zs 0, at3 zs 1, at3 zs 2, at3 zs 3, at3 zs 4, at3 zs 5, at3 zs 6, at3 zs 7, at3 zs 8] := by simp [getN, List.range_succ, at3]
theorem get6 (zs : List Int) : getN zs 6 = [at3 zs 0, at3 zs 1, at3 zs 2, at3 zs 3, at3 zs 4, at3 zs 5] := by simp [getN, List.range_succ, at3]
theorem at3_bd (zs : List Int) (i : Nat) (hb : ∀ z ∈ zs, 0 ≤ z ∧ z < 256) : 0 ≤ at3 zs i ∧ at3 zs i ≤ 16777215 := by
  have := part3_bd zs (3 * i) hb
  unfold at3
  omega

/-- The step with which bytes begin, its mask cut down to two bytes; and what is behind it. -/
def st1 (zs : List Int) : Option (Sg × List Int) :=
  if 27 ≤ zs.length then match val1 (zs.drop 27) with
    | some (v, r) => some (⟨at3 zs 0, at3 zs 1, at3 zs 2, at3 zs 3 - 1, at3 zs 4 - 1, at3 zs 5 % 65536, at3 zs 6, at3 zs 7, at3 zs 8, v⟩, r)
    | none => none
  else none
/-- The same, refused where the mask is greater. -/
def st2 (zs : List Int) : Option (Sg × List Int) := if at3 zs 5 ≤ 65535 then st1 zs else none
def takeS (f : List Int → Option (Sg × List Int)) : Nat → List Int → Option (List Sg × List Int)
  | 0, zs => some ([], zs)
  | k + 1, zs => match takeS f k zs with
    | some (ss, r) => match f r with
      | some (s, t) => some (ss ++ [s], t)
      | none => none
    | none => none
theorem takeS_more {f : List Int → Option (Sg × List Int)} {k : Nat} {zs : List Int} (h : takeS f k zs = none) : ∀ m, k ≤ m → takeS f m zs = none := by
  intro m hm
  induction m with
  | zero => rwa [show k = 0 by omega] at h
  | succ m ih =>
    by_cases e : k = m + 1
    · rwa [e] at h
    · simp only [takeS, ih (by omega)]
theorem val1_drop {zs : List Int} {v : Nat × Nat} {r : List Int} (h : val1 zs = some (v, r)) : r = zs.drop 16 ∧ 16 ≤ zs.length := by
  unfold val1 at h
  split at h
  · rename_i hc
    simp only [Option.some.injEq, Prod.mk.injEq] at h
    exact ⟨h.2.symm, hc.1⟩
  · cases h
theorem st1_some {zs : List Int} {s : Sg} {r : List Int} (h : st1 zs = some (s, r)) : r = zs.drop 43 ∧ 43 ≤ zs.length ∧ val1 (zs.drop 27) = some (s.v, r) ∧
    s = ⟨at3 zs 0, at3 zs 1, at3 zs 2, at3 zs 3 - 1, at3 zs 4 - 1, at3 zs 5 % 65536, at3 zs 6, at3 zs 7, at3 zs 8, s.v⟩ := by
  unfold st1 at h
  split at h
  · rename_i hc
    split at h
    · rename_i v t hv
      simp only [Option.some.injEq, Prod.mk.injEq] at h
      obtain ⟨rfl, rfl⟩ := h
      obtain ⟨h1, h2⟩ := val1_drop hv
      refine ⟨by rw [h1, List.drop_drop], by simp at h2; omega, hv, rfl⟩
    · cases h
  · cases h
theorem takeS_some : ∀ (k : Nat) {zs : List Int} {ss : List Sg} {r : List Int}, takeS st1 k zs = some (ss, r) → r = zs.drop (43 * k) ∧ ss.length = k ∧ 43 * k ≤ zs.length
  | 0, zs, ss, r, h => by
    simp only [takeS, Option.some.injEq, Prod.mk.injEq] at h
    obtain ⟨rfl, rfl⟩ := h
    simp
  | k + 1, zs, ss, r, h => by
    simp only [takeS] at h
    cases h1 : takeS st1 k zs with
    | none => rw [h1] at h; cases h
    | some q =>
      obtain ⟨ss0, r0⟩ := q
      rw [h1] at h
      simp only at h
      cases h2 : st1 r0 with
      | none => rw [h2] at h; cases h
      | some q =>
        obtain ⟨s, t⟩ := q
        rw [h2] at h
        simp only [Option.some.injEq, Prod.mk.injEq] at h
        obtain ⟨rfl, rfl⟩ := h
        obtain ⟨e1, e2, e3⟩ := takeS_some k h1
        obtain ⟨g1, g2, _, _⟩ := st1_some h2
        subst e1
        refine ⟨by rw [g1, List.drop_drop]; congr 1, by simp [e2], by simp at g2; omega⟩
/-- Where masks are small, both read the same, and the bytes are the steps'. -/
theorem st2_some {zs : List Int} {s : Sg} {r : List Int} (hb : ∀ z ∈ zs, 0 ≤ z ∧ z < 256) (h : st2 zs = some (s, r)) : st1 zs = some (s, r) ∧ zs = stZ s ++ r ∧ wordB s.v := by
  unfold st2 at h
  split at h
  · rename_i hm
    obtain ⟨h1, h2, h3, h4⟩ := st1_some h
    refine ⟨h, ?_, (val1_some (fun z hz => hb z (List.mem_of_mem_drop hz)) h3).2⟩
    have e := forms_get zs 9 hb (by omega)
    have e2 := (val1_some (fun z hz => hb z (List.mem_of_mem_drop hz)) h3).1
    have m0 := (at3_bd zs 5 hb).1
    have e3 : stN s = getN zs 9 := by
      rw [get9, h4]
      simp only [stN, List.cons.injEq, and_true, true_and]
      omega
    unfold stZ
    rw [e3, e, List.append_assoc, ← e2, List.take_append_drop]
  · cases h
theorem takeS2_some : ∀ (k : Nat) {zs : List Int} {ss : List Sg} {r : List Int}, (∀ z ∈ zs, 0 ≤ z ∧ z < 256) → takeS st2 k zs = some (ss, r) → takeS st1 k zs = some (ss, r) ∧ zs = stsZ ss ++ r ∧ ∀ s ∈ ss, wordB s.v
  | 0, zs, ss, r, hb, h => by
    simp only [takeS, Option.some.injEq, Prod.mk.injEq] at h
    obtain ⟨rfl, rfl⟩ := h
    exact ⟨rfl, rfl, by simp⟩
  | k + 1, zs, ss, r, hb, h => by
    simp only [takeS] at h
    cases h1 : takeS st2 k zs with
    | none => rw [h1] at h; cases h
    | some q =>
      obtain ⟨ss0, r0⟩ := q
      rw [h1] at h
      simp only at h
      cases h2 : st2 r0 with
      | none => rw [h2] at h; cases h
      | some q =>
        obtain ⟨s, t⟩ := q
        rw [h2] at h
        simp only [Option.some.injEq, Prod.mk.injEq] at h
        obtain ⟨rfl, rfl⟩ := h
        obtain ⟨e1, e2, e3⟩ := takeS2_some k hb h1
        have hr0 : ∀ z ∈ r0, 0 ≤ z ∧ z < 256 := fun z hz => hb z (by rw [e2]; exact List.mem_append_right _ hz)
        obtain ⟨g1, g2, g3⟩ := st2_some hr0 h2
        refine ⟨by simp only [takeS, e1, g1], ?_, ?_⟩
        · rw [e2]; conv => lhs; rw [g2]
          simp [stsZ]
        · intro x hx
          rcases List.mem_append.1 hx with hx | hx
          · exact e3 x hx
          · simp only [List.mem_singleton] at hx; subst hx; exact g3
theorem at3_of (a b : List Int) (i : Nat) (h : 3 * i + 3 ≤ a.length) : at3 (a ++ b) i = at3 a i := by
  unfold at3
  rw [List.drop_append_of_le_length (by omega), List.take_append_of_le_length (by simp; omega)]
theorem formsN_cons (x : Int) (l : List Int) : formsN (x :: l) = wrN 3 x ++ formsN l := by simp [formsN]
theorem wrN3_length (x : Int) : (wrN 3 x).length = 3 := by simp
theorem at3_succ (x : Int) (l : List Int) (i : Nat) : at3 (formsN (x :: l)) (i + 1) = at3 (formsN l) i := by
  unfold at3
  rw [formsN_cons, show 3 * (i + 1) = 3 + 3 * i by omega, ← List.drop_drop, List.drop_left' (wrN3_length x)]
theorem at3_zero (x : Int) (l : List Int) (h0 : 0 ≤ x) (h1 : x ≤ 16777215) : at3 (formsN (x :: l)) 0 = x := by
  unfold at3
  rw [formsN_cons, List.drop_zero, List.take_left' (wrN3_length x)]
  exact rdN_wrN 3 x h0 (by have : (256 : Int) ^ 3 = 16777216 := by decide
                           omega)
/-- Bytes that are steps' bytes read so with masks that are looked at, too. -/
theorem takeS_back : ∀ (k : Nat) {zs : List Int} {ss : List Sg} {r tl : List Int}, (∀ z ∈ zs, 0 ≤ z ∧ z < 256) → takeS st1 k zs = some (ss, r) → zs = stsZ ss ++ tl → takeS st2 k zs = some (ss, r)
  | 0, zs, ss, r, tl, hb, h, _ => h
  | k + 1, zs, ss, r, tl, hb, h, he => by
    simp only [takeS] at h
    cases h1 : takeS st1 k zs with
    | none => rw [h1] at h; cases h
    | some q =>
      obtain ⟨ss0, r0⟩ := q
      rw [h1] at h
      simp only at h
      cases h2 : st1 r0 with
      | none => rw [h2] at h; cases h
      | some q =>
        obtain ⟨s, t⟩ := q
        rw [h2] at h
        simp only [Option.some.injEq, Prod.mk.injEq] at h
        obtain ⟨rfl, rfl⟩ := h
        have he' : zs = stsZ ss0 ++ (stZ s ++ tl) := by rw [he]; simp [stsZ]
        have := takeS_back k hb h1 he'
        simp only [takeS, this]
        obtain ⟨e1, e2, e3⟩ := takeS_some k h1
        have hr : r0 = stZ s ++ tl := by
          rw [e1, he', List.drop_left' (by rw [stsZ_length, e2])]
        obtain ⟨g1, g2, g3, g4⟩ := st1_some h2
        have hm : 0 ≤ s.m ∧ s.m ≤ 65535 := by rw [g4]; simp only; omega
        have h5 : at3 r0 5 = s.m := by
          rw [hr, stZ, List.append_assoc, at3_of _ _ _ (by simp [formsN_length, stN])]
          simp only [stN, at3_succ]
          exact at3_zero _ _ hm.1 (by omega)
        have : st2 r0 = some (s, t) := by unfold st2; rw [if_pos (by rw [h5]; exact hm.2)]; exact h2
        rw [this]

/-- The script that bytes seem to be. -/
def scOf (zs : List Int) (ss : List Sg) : Scr := ⟨at3 zs 0, at3 zs 1, at3 zs 2, at3 zs 3, at3 zs 4, ss⟩
/-- The program's answer. -/
def readP (zs : List Int) : Option Scr :=
  if 18 ≤ zs.length ∧ at3 zs 5 ≤ 500 ∧ (zs.length : Int) = 18 + 43 * at3 zs 5 then match takeS st2 (at3 zs 5).toNat (zs.drop 18) with
    | some (ss, _) => if rightSc (scOf zs ss) = true then some (scOf zs ss) else none
    | none => none
  else none
/-- The document's answer. -/
def readD (zs : List Int) : Option Scr :=
  if 18 ≤ zs.length then match takeS st1 (min (at3 zs 5).toNat 501) (zs.drop 18) with
    | some (ss, _) => if rightSc (scOf zs ss) = true ∧ scZ (scOf zs ss) = zs then some (scOf zs ss) else none
    | none => none
  else none
theorem read_same (zs : List Int) (hb : ∀ z ∈ zs, 0 ≤ z ∧ z < 256) : readP zs = readD zs := by
  have hbd : ∀ z ∈ zs.drop 18, 0 ≤ z ∧ z < 256 := fun z hz => hb z (List.mem_of_mem_drop hz)
  have h50 := (at3_bd zs 5 hb).1
  -- what the program reads the document reads
  have fwd : ∀ S, readP zs = some S → readD zs = some S := by
    intro S h
    unfold readP at h
    split at h
    · rename_i hc
      obtain ⟨c1, c2, c3⟩ := hc
      split at h
      · rename_i ss r ht
        split at h
        · rename_i hr
          cases h
          obtain ⟨e1, e2, e3⟩ := takeS2_some _ hbd ht
          obtain ⟨g1, g2, g3⟩ := takeS_some _ e1
          have hmin : min (at3 zs 5).toNat 501 = (at3 zs 5).toNat := by omega
          have hr0 : r = [] := by rw [g1]; apply List.drop_of_length_le; simp; omega
          have hz : scZ (scOf zs ss) = zs := by
            have e := forms_get zs 6 hb (by omega)
            have e4 : hdN (scOf zs ss) = getN zs 6 := by
              rw [get6]; simp only [hdN, scOf, List.cons.injEq, and_true, true_and]; omega
            unfold scZ
            rw [e4, e]
            have : stsZ (scOf zs ss).ss = zs.drop 18 := by rw [e2, hr0, List.append_nil]; rfl
            rw [this, List.take_append_drop]
          unfold readD
          rw [if_pos c1, hmin, e1]
          simp only
          rw [if_pos ⟨hr, hz⟩]
        · cases h
      · cases h
    · cases h
  have bwd : ∀ S, readD zs = some S → readP zs = some S := by
    intro S h
    unfold readD at h
    split at h
    · rename_i c1
      split at h
      · rename_i ss r ht
        split at h
        · rename_i hc
          obtain ⟨hr, hz⟩ := hc
          cases h
          obtain ⟨g1, g2, g3⟩ := takeS_some _ ht
          have hl : ss.length ≤ 500 := by
            simp only [rightSc, Bool.and_eq_true, decide_eq_true_eq] at hr
            exact hr.1.1
          have hlen : zs.length = 18 + 43 * ss.length := by
            have := scZ_length (scOf zs ss)
            rw [hz] at this
            exact this
          have hk : ss.length = (at3 zs 5).toNat := by omega
          have hmin : min (at3 zs 5).toNat 501 = (at3 zs 5).toNat := by omega
          rw [hmin] at ht
          have hd : zs.drop 18 = stsZ ss ++ [] := by
            conv => lhs; rw [← hz]
            unfold scZ
            rw [List.drop_left' (by simp [formsN_length, hdN]), List.append_nil]; rfl
          have := takeS_back _ hbd ht hd
          unfold readP
          rw [if_pos ⟨c1, by omega, by omega⟩, this]
          simp only
          rw [if_pos hr]
        · cases h
      · cases h
    · cases h
  cases h : readP zs with
  | some S => exact (fwd S h).symm
  | none =>
    cases h2 : readD zs with
    | none => rfl
    | some S => rw [bwd S h2] at h; cases h
end Go.Proofs.YtemldmjpanmdbaaGreatDoor
