/- The bytes of messages, and what bytes are read as; rows of puts in memory; an append of one put. -/
import Derived.Test.YtmmgdmfdiaoegaaGreatXh
import Derived.Test.YtmmgdmfdiaoegaaGreatXd
import Derived.Test.YtmmgdmfdiaoegaaGreatXe
namespace Go.Proofs.YtmmgdmfdiaoegaaGreat.Msg
open Go.RowKit
set_option linter.unusedVariables false
set_option maxRecDepth 8000

/-- The bytes of a put. -/
def putZ (p : PutG) : List Int := formsN [(p.pg : Int), (p.ob : Int)] ++ valN p.c.1 p.c.2

def putsZ (ps : List PutG) : List Int := ps.flatMap putZ

theorem formsN_bd (zs : List Int) : ∀ z ∈ formsN zs, 0 ≤ z ∧ z < 256 := by
  intro z hz
  obtain ⟨c, _, h⟩ := List.mem_flatMap.1 hz
  exact wrN_bd _ _ z h

theorem formsN_append (xs ys : List Int) : formsN (xs ++ ys) = formsN xs ++ formsN ys := by simp [formsN]

theorem putZ_length (p : PutG) : (putZ p).length = 22 := by simp [putZ, formsN_length, valN_length]

theorem putsZ_length (ps : List PutG) : (putsZ ps).length = 22 * ps.length := by
  induction ps with
  | nil => rfl
  | cons p r ih =>
    have e : putsZ (p :: r) = putZ p ++ putsZ r := rfl
    rw [e, List.length_append, ih, putZ_length, List.length_cons]
    omega

theorem putsZ_snoc (ps : List PutG) (p : PutG) : putsZ (ps ++ [p]) = putsZ ps ++ putZ p := by simp [putsZ]

theorem putZ_bd (p : PutG) : ∀ z ∈ putZ p, 0 ≤ z ∧ z < 256 := by
  intro z hz
  rcases List.mem_append.1 hz with h | h
  · exact formsN_bd _ z h
  · exact valN_bd _ _ z h

theorem putsZ_bd (ps : List PutG) : ∀ z ∈ putsZ ps, 0 ≤ z ∧ z < 256 := by
  intro z hz
  obtain ⟨c, _, h⟩ := List.mem_flatMap.1 hz
  exact putZ_bd _ z h

/-- The first bytes of a message. -/
def headZ (M : Mg) : List Int := formsN [M.k, M.p, M.o, M.t, M.c, M.n, flgI M.wr, (M.ps.length : Int)]

theorem headZ_length (M : Mg) : (headZ M).length = 24 := by simp [headZ, formsN_length]

/-- The bytes of a message. -/
def msgZ (M : Mg) : List Int := headZ M ++ putsZ M.ps ++ (if M.k = 5 then objsZ M.vs else [])

theorem msgZ_bd (M : Mg) : ∀ z ∈ msgZ M, 0 ≤ z ∧ z < 256 := by
  intro z hz
  rcases List.mem_append.1 hz with h | h
  · rcases List.mem_append.1 h with h | h
    · exact formsN_bd _ z h
    · exact putsZ_bd _ z h
  · split at h
    · exact objsZ_bd _ z h
    · simp at h

/-- What bounds a message that can be keeps. -/
structure Bd (M : Mg) : Prop where
  k : 0 ≤ M.k ∧ M.k ≤ 8
  p : 0 ≤ M.p ∧ M.p ≤ 5
  o : 0 ≤ M.o ∧ M.o ≤ 3
  t : 0 ≤ M.t ∧ M.t ≤ 16777215
  c : 0 ≤ M.c ∧ M.c ≤ 999
  n : 0 ≤ M.n ∧ M.n ≤ 15
  ps : putsB M.ps = true

theorem btw_iff (n a b : Int) : btw n a b = true ↔ a ≤ n ∧ n ≤ b := by simp [btw]

theorem bd_of_right {M : Mg} (h : rightB M = true) : Bd M := by
  simp only [rightB, withinB, thereB, Bool.and_eq_true, Bool.or_eq_true, btw_iff, beq_iff_eq] at h
  obtain ⟨⟨h0, ⟨⟨⟨⟨h1, h2⟩, h3⟩, h4⟩, h5⟩, h6⟩, -⟩ := h
  refine ⟨by omega, h1, h2, h3, ?_, h5, h6⟩
  unfold copyB at h4
  split at h4
  · rw [btw_iff] at h4; omega
  · rw [btw_iff] at h4; omega

theorem flgI_bd (b : Bool) : 0 ≤ flgI b ∧ flgI b ≤ 1 := by cases b <;> simp [flgI]

theorem putsFrom_mem : ∀ (ps : List PutG) (z : Int), putsFrom z ps = true → ∀ p ∈ ps, p.pg ≤ 5 ∧ p.ob ≤ 3
  | [], _, _, p, hp => by simp at hp
  | q :: r, z, h, p, hp => by
    simp only [putsFrom, Bool.and_eq_true, decide_eq_true_eq] at h
    obtain ⟨⟨⟨h1, h2⟩, h3⟩, h4⟩ := h
    rcases List.mem_cons.1 hp with e | e
    · subst e; omega
    · exact putsFrom_mem r _ h4 p e

theorem putsB_mem {ps : List PutG} (h : putsB ps = true) : ps.length ≤ 24 ∧ ∀ p ∈ ps, p.pg ≤ 5 ∧ p.ob ≤ 3 := by
  simp only [putsB, Bool.and_eq_true, decide_eq_true_eq] at h
  exact ⟨h.1, putsFrom_mem ps _ h.2⟩

/-- All words of a message are words. -/
structure Wd (M : Mg) : Prop where
  ps : ∀ p ∈ M.ps, wordB p.c
  v0 : wordB M.v0
  v1 : wordB M.v1
  v2 : wordB M.v2
  v3 : wordB M.v3

/-- The complex number with which bytes begin, and what is behind it. -/
def val1 (zs : List Int) : Option ((Nat × Nat) × List Int) :=
  if 16 ≤ zs.length ∧ formN (rdW (zs.take 8)) = rdW (zs.take 8) ∧ formN (rdW ((zs.drop 8).take 8)) = rdW ((zs.drop 8).take 8) then some ((rdW (zs.take 8), rdW ((zs.drop 8).take 8)), zs.drop 16) else none

theorem val1_some {zs : List Int} {c : Nat × Nat} {r : List Int} (hb : ∀ z ∈ zs, 0 ≤ z ∧ z < 256) (h : val1 zs = some (c, r)) : zs = valN c.1 c.2 ++ r ∧ wordB c := by
  unfold val1 at h
  split at h
  · rename_i hc
    obtain ⟨h1, h2, h3⟩ := hc
    simp only [Option.some.injEq, Prod.mk.injEq] at h
    obtain ⟨rfl, rfl⟩ := h
    refine ⟨?_, rdW_lt _ (fun z hz => hb z (List.mem_of_mem_take hz)) (by simp; omega), rdW_lt _ (part_bd zs 8 8 hb) (by simp; omega)⟩
    simp only
    rw [val_take zs hb h1 h2 h3, List.take_append_drop]
  · cases h

theorem take_some (ao : Option Addr) (cap n m : Nat) (zs r : List Int) (c : Nat × Nat) (w : World) (hrd : RdI w .u8 ao cap zs) (hn : zs.length = n) (hb : ∀ z ∈ zs, 0 ≤ z ∧ z < 256) (hlen : n ≤ 140737488355328) (h : val1 zs = some (c, r)) (hm : r.length = m) :
    Calls Tryz.prog 72 #[.slice ao n cap] w fun e w' => ∃ a2 c2, e = .returned (.tuple #[.complex .f64 c.1 c.2, .slice a2 m c2, .int .i64 0]) ∧ OwnI w' w.heap.size 5 .u8 a2 c2 r ∧ Below w.heap.size w w' := by
  unfold val1 at h
  split at h
  · rename_i hc
    obtain ⟨h1, h2, h3⟩ := hc
    simp only [Option.some.injEq, Prod.mk.injEq] at h
    obtain ⟨rfl, rfl⟩ := h
    have : n - 16 = m := by simp at hm; omega
    subst this
    exact take_long ao cap n zs w hrd hn hb (by omega) hlen h2 h3
  · cases h

theorem take_none (ao : Option Addr) (cap n : Nat) (zs : List Int) (w : World) (hrd : RdI w .u8 ao cap zs) (hn : zs.length = n) (hb : ∀ z ∈ zs, 0 ≤ z ∧ z < 256) (hlen : n ≤ 140737488355328) (h : val1 zs = none) :
    Calls Tryz.prog 72 #[.slice ao n cap] w fun e w' => e = .returned (.tuple #[.complex .f64 0 0, .slice none 0 0, .int .i64 21]) ∧ Below w.heap.size w w' := by
  unfold val1 at h
  split at h
  · cases h
  · rename_i hc
    by_cases h1 : 16 ≤ zs.length
    · refine take_odd ao cap n zs w hrd hn hb (by omega) hlen ?_
      by_cases h2 : formN (rdW (zs.take 8)) = rdW (zs.take 8)
      · exact .inr fun h3 => hc ⟨h1, h2, h3⟩
      · exact .inl h2
    · exact (take_short ao cap n w (by omega)).mono fun e w' he => ⟨he.1, by rw [he.2]; exact Below.refl _ _⟩

/-- The put with which bytes begin, and what is behind it. -/
def put1 (zs : List Int) : Option (PutG × List Int) :=
  if 6 ≤ zs.length then match val1 (zs.drop 6) with
    | some (c, r) => some (⟨(rdN (zs.take 3)).toNat, (rdN ((zs.drop 3).take 3)).toNat, c⟩, r)
    | none => none
  else none

theorem get2 (zs : List Int) : getN zs 2 = [rdN (zs.take 3), rdN ((zs.drop 3).take 3)] := by simp [getN, List.range_succ]

theorem put1_some {zs : List Int} {p : PutG} {r : List Int} (hb : ∀ z ∈ zs, 0 ≤ z ∧ z < 256) (h : put1 zs = some (p, r)) : zs = putZ p ++ r ∧ wordB p.c ∧ (p.pg : Int) = rdN (zs.take 3) ∧ (p.ob : Int) = rdN ((zs.drop 3).take 3) ∧ val1 (zs.drop 6) = some (p.c, r) ∧ 6 ≤ zs.length := by
  unfold put1 at h
  split at h
  · rename_i h6
    cases hv : val1 (zs.drop 6) with
    | none => rw [hv] at h; cases h
    | some x =>
      obtain ⟨c, r'⟩ := x
      rw [hv] at h
      simp only [Option.some.injEq, Prod.mk.injEq] at h
      obtain ⟨rfl, rfl⟩ := h
      have h1 := val1_some (fun z hz => hb z (List.mem_of_mem_drop hz)) hv
      have b0 := (part3_bd zs 0 hb).1
      have b1 := (part3_bd zs 3 hb).1
      simp only [List.drop_zero] at b0
      have e0 : ((rdN (zs.take 3)).toNat : Int) = rdN (zs.take 3) := by omega
      have e1 : ((rdN ((zs.drop 3).take 3)).toNat : Int) = rdN ((zs.drop 3).take 3) := by omega
      refine ⟨?_, h1.2, e0, e1, rfl, h6⟩
      simp only [putZ]
      rw [e0, e1, ← get2, forms_get zs 2 hb (by omega), List.append_assoc, ← h1.1, List.take_append_drop]
  · cases h

/-- The puts with which bytes begin, so many, and what is behind them. -/
def takeP : Nat → List Int → Option (List PutG × List Int)
  | 0, zs => some ([], zs)
  | k + 1, zs => match takeP k zs with
    | some (ps, r) => match put1 r with
      | some (p, s) => some (ps ++ [p], s)
      | none => none
    | none => none

theorem takeP_more {k : Nat} {zs : List Int} (h : takeP k zs = none) : ∀ m, k ≤ m → takeP m zs = none := by
  intro m hm
  induction m with
  | zero => rwa [show k = 0 by omega] at h
  | succ m ih =>
    by_cases e : k = m + 1
    · rw [← e]; exact h
    · simp only [takeP, ih (by omega)]

theorem takeP_some : ∀ (k : Nat) {zs : List Int} {ps : List PutG} {r : List Int}, (∀ z ∈ zs, 0 ≤ z ∧ z < 256) → takeP k zs = some (ps, r) → zs = putsZ ps ++ r ∧ ps.length = k ∧ (∀ p ∈ ps, wordB p.c) ∧ (∀ z ∈ r, 0 ≤ z ∧ z < 256)
  | 0, zs, ps, r, hb, h => by
    simp only [takeP, Option.some.injEq, Prod.mk.injEq] at h
    obtain ⟨rfl, rfl⟩ := h
    exact ⟨rfl, rfl, by simp, hb⟩
  | k + 1, zs, ps, r, hb, h => by
    simp only [takeP] at h
    cases h1 : takeP k zs with
    | none => rw [h1] at h; cases h
    | some x =>
      obtain ⟨qs, s⟩ := x
      rw [h1] at h
      obtain ⟨e1, e2, e3, e4⟩ := takeP_some k hb h1
      simp only at h
      cases h2 : put1 s with
      | none => rw [h2] at h; cases h
      | some y =>
        obtain ⟨p, u⟩ := y
        rw [h2] at h
        simp only [Option.some.injEq, Prod.mk.injEq] at h
        obtain ⟨rfl, rfl⟩ := h
        obtain ⟨g1, g2, -⟩ := put1_some e4 h2
        refine ⟨?_, by simp [e2], ?_, ?_⟩
        · rw [putsZ_snoc, List.append_assoc, ← g1]; exact e1
        · intro q hq
          rcases List.mem_append.1 hq with hq | hq
          · exact e3 q hq
          · simp at hq; subst hq; exact g2
        · intro z hz
          exact e4 z (by rw [g1]; simp [hz])

/-- The values with which bytes begin, so many, and what is behind them. -/
def takeV : Nat → List Int → Option (List (Nat × Nat) × List Int)
  | 0, zs => some ([], zs)
  | k + 1, zs => match takeV k zs with
    | some (vs, r) => match val1 r with
      | some (c, s) => some (vs ++ [c], s)
      | none => none
    | none => none

theorem takeV_more {k : Nat} {zs : List Int} (h : takeV k zs = none) : ∀ m, k ≤ m → takeV m zs = none := by
  intro m hm
  induction m with
  | zero => rwa [show k = 0 by omega] at h
  | succ m ih =>
    by_cases e : k = m + 1
    · rw [← e]; exact h
    · simp only [takeV, ih (by omega)]

theorem objsZ_snoc (vs : List (Nat × Nat)) (c : Nat × Nat) : objsZ (vs ++ [c]) = objsZ vs ++ valN c.1 c.2 := by simp [objsZ]

theorem takeV_some : ∀ (k : Nat) {zs : List Int} {vs : List (Nat × Nat)} {r : List Int}, (∀ z ∈ zs, 0 ≤ z ∧ z < 256) → takeV k zs = some (vs, r) → zs = objsZ vs ++ r ∧ vs.length = k ∧ (∀ c ∈ vs, wordB c) ∧ (∀ z ∈ r, 0 ≤ z ∧ z < 256)
  | 0, zs, vs, r, hb, h => by
    simp only [takeV, Option.some.injEq, Prod.mk.injEq] at h
    obtain ⟨rfl, rfl⟩ := h
    exact ⟨rfl, rfl, by simp, hb⟩
  | k + 1, zs, vs, r, hb, h => by
    simp only [takeV] at h
    cases h1 : takeV k zs with
    | none => rw [h1] at h; cases h
    | some x =>
      obtain ⟨qs, s⟩ := x
      rw [h1] at h
      obtain ⟨e1, e2, e3, e4⟩ := takeV_some k hb h1
      simp only at h
      cases h2 : val1 s with
      | none => rw [h2] at h; cases h
      | some y =>
        obtain ⟨p, u⟩ := y
        rw [h2] at h
        simp only [Option.some.injEq, Prod.mk.injEq] at h
        obtain ⟨rfl, rfl⟩ := h
        obtain ⟨g1, g2⟩ := val1_some e4 h2
        refine ⟨?_, by simp [e2], ?_, ?_⟩
        · rw [objsZ_snoc, List.append_assoc, ← g1]; exact e1
        · intro q hq
          rcases List.mem_append.1 hq with hq | hq
          · exact e3 q hq
          · simp at hq; subst hq; exact g2
        · intro z hz
          exact e4 z (by rw [g1]; simp [hz])

/-! ### Rows of puts -/

/-- The cells of a put. -/
def putC (p : PutG) : List Value := [.int .i64 (p.pg : Int), .int .i64 (p.ob : Int), .complex .f64 p.c.1 p.c.2]

def rowP (ps : List PutG) : List Value := ps.flatMap putC

theorem rowP_length (ps : List PutG) : (rowP ps).length = ps.length * 3 := by
  induction ps with
  | nil => rfl
  | cons r s ih =>
    have e : rowP (r :: s) = putC r ++ rowP s := rfl
    rw [e, List.length_append, ih, List.length_cons]
    simp [putC]; omega

theorem rowP_get (ps : List PutG) : ∀ i (h : i < ps.length) j, j < 3 → (rowP ps)[i * 3 + j]? = (putC ps[i])[j]? := by
  induction ps with
  | nil => intro i h; simp at h
  | cons r s ih =>
    intro i h j hj
    have e : rowP (r :: s) = putC r ++ rowP s := rfl
    have l3 : (putC r).length = 3 := rfl
    rw [e]
    cases i with
    | zero => rw [Nat.zero_mul, Nat.zero_add, List.getElem?_append_left (by omega)]; rfl
    | succ i =>
      rw [List.getElem?_append_right (by omega), l3, show (i + 1) * 3 + j - 3 = i * 3 + j by omega]
      simpa using ih i (by simpa using h) j hj

/-- The slice holds these puts and is the call's own. -/
def OwnR (w : World) (base : Nat) (ao : Option Addr) (cap : Nat) (ps : List PutG) : Prop := w.ownsRow base 92 3 (.slice ao ps.length cap) ps.length (rowP ps)

theorem OwnR.nil (w : World) (base : Nat) : OwnR w base none 0 [] := World.ownsRow_nil w base 92 3

theorem OwnR.keep {w w' : World} {base : Nat} {ao : Option Addr} {cap : Nat} {ps : List PutG} (h : OwnR w base ao cap ps) (hb : ∀ a, ao = some a → w'.heap[a.block]? = w.heap[a.block]?) : OwnR w' base ao cap ps := by
  obtain ⟨h1, h2⟩ := h
  refine ⟨h1, ?_⟩
  rcases h2 with h2 | ⟨g, cp, cur, hv, hg, hh, r⟩
  · exact .inl h2
  · have hv2 := hv
    simp only [Value.slice.injEq] at hv2
    exact .inr ⟨g, cp, cur, hv, hg, by rw [hb ⟨g, 0, none⟩ hv2.1]; exact hh, r⟩

theorem OwnR.blk {w : World} {base : Nat} {ao : Option Addr} {cap : Nat} {ps : List PutG} (h : OwnR w base ao cap ps) : ∀ a, ao = some a → base ≤ a.block ∧ a.block < w.heap.size := by
  obtain ⟨h1, h2⟩ := h
  intro a ha
  rcases h2 with ⟨hv, _⟩ | ⟨g, cp, cur, hv, hg, hh, r⟩
  · rw [ha] at hv; cases hv
  · rw [ha] at hv
    simp only [Value.slice.injEq, Option.some.injEq] at hv
    obtain ⟨rfl, -, -⟩ := hv
    exact ⟨hg, (Array.getElem?_eq_some_iff.1 hh).1⟩

theorem OwnR.below {w w' : World} {base : Nat} {ao : Option Addr} {cap : Nat} {ps : List PutG} (h : OwnR w base ao cap ps) (hb : Below w.heap.size w w') : OwnR w' base ao cap ps := h.keep fun a ha => hb.block _ (h.blk a ha).2

theorem OwnR.rd {w : World} {base : Nat} {ao : Option Addr} {cap : Nat} {ps : List PutG} (h : OwnR w base ao cap ps) : RdP w ao ps.length cap ps := by
  refine ⟨rfl, fun t ht => ?_⟩
  have h0 := h
  obtain ⟨h1, h2⟩ := h
  rcases h2 with ⟨hv, hn⟩ | ⟨g, cp, cur, hv, hg, hh, r⟩
  · omega
  · simp only [Value.slice.injEq] at hv
    obtain ⟨rfl, -, rfl⟩ := hv
    have hc := fun j (hj : j < 3) => (World.ownsRow.cellAt h0 (t * 3 + j) (by omega)).trans (rowP_get ps t ht j hj)
    refine ⟨g, 0, rfl, (Array.getElem?_eq_some_iff.1 hh).1, ?_⟩
    simp only [Nat.zero_add]
    exact ⟨hc 0 (by omega), hc 1 (by omega), hc 2 (by omega)⟩

/-- A put in a block. -/
abbrev wputO (p : PutG) : Obj := .cells #[.int .i64 (p.pg : Int), .int .i64 (p.ob : Int), .complex .f64 p.c.1 p.c.2] 92

theorem info53 : (Tryz.prog.info? 92).map (fun i => (i.zero, i.size, i.bytes)) = some (some (.agg #[.int .i64 0, .int .i64 0, .complex .f64 0 0]), 3, 32) := by kernel_rfl

/-- One put more. -/
theorem wpList_append_put (w : World) {ops : Array Oper} {rest : List Oper} {o : Oper} {a : Act} {Q : Exit → Act → World → Prop} (hgd : o.guard = none) (s x : Operand)
    (ho : o.op = .call { callee := .builtin .append, args := #[s, x], argTypes := #[70, 70] })
    (base : Nat) (ao : Option Addr) (n cap : Nat) (ps : List PutG) (p : PutG) (W : World) (hw : w = W.alloc (wputO p)) (q : Nat) (hq : W.heap.size = q) (hs : a.eval s = .slice ao n cap) (hx : a.eval x = .slice (some ⟨q, 0, none⟩) 1 1) (hown : OwnR w base ao cap ps) (hn : ps.length = n) (hl : n ≤ 1000) (hb : base ≤ w.heap.size)
    (h : ∀ ao2 cap2 w', OwnR w' base ao2 cap2 (ps ++ [p]) → w.grownBy w' (Value.ownBlock (.slice ao n cap)) → wpList Tryz.prog ops Q rest (a.put o.dst (.slice ao2 (n + 1) cap2)) w') : wpList Tryz.prog ops Q (o :: rest) a w := by
  subst hn hq
  obtain ⟨i, hi, hz, hsz, hby⟩ := info_parts info53
  have hC := heap_alloc_new W (wputO p)
  refine wpList_append_own (P := Tryz.prog) w hgd s x 70 ho base 92 i _ 3 32 Tryz.underlying70 hi hz hsz hby rfl (by omega) _ ps.length (rowP ps) hs hown ⟨W.heap.size, 0, none⟩ 1 1 (putC p) hx rfl ?_ ?_ (by unfold maxLen; omega) (by omega) hb ?_
  · intro j u hj
    subst hw
    rw [Addr.add_lit, Nat.zero_add, cell_of_row _ _ _ _ _ _ hC]
    match j, hj with
    | 0, hj => cases hj; rfl
    | 1, hj => cases hj; rfl
    | 2, hj => cases hj; rfl
    | (j + 3), hj => simp [putC] at hj
  · intro u hu
    simp only [putC, List.mem_cons, List.not_mem_nil, or_false] at hu
    rcases hu with rfl | rfl | rfl
    all_goals rfl
  · intro v' w' h1 h2 _
    have e : rowP ps ++ putC p = rowP (ps ++ [p]) := by simp [rowP]
    rw [e] at h1
    have hl2 : (ps ++ [p]).length = ps.length + 1 := by simp
    rw [← hl2] at h1
    obtain ⟨k1, k2⟩ := h1
    rcases k2 with ⟨hv, hn⟩ | ⟨g, cp, cur, hv, r⟩
    · simp at hn
    · subst hv
      rw [hl2]
      exact h _ _ w' ⟨k1, .inr ⟨g, cp, cur, rfl, r⟩⟩ h2

theorem _root_.Go.Proofs.YtmmgdmfdiaoegaaGreat.OwnI.blk {w : World} {base : Nat} {e : TypeId} {k : IntKind} {ao : Option Addr} {cap : Nat} {zs : List Int} (h : OwnI w base e k ao cap zs) : ∀ a, ao = some a → base ≤ a.block ∧ a.block < w.heap.size := fun a ha => OwnS.inn h a ha

theorem _root_.Go.Proofs.YtmmgdmfdiaoegaaGreat.OwnI.keep {w w' : World} {base : Nat} {e : TypeId} {k : IntKind} {ao : Option Addr} {cap : Nat} {zs : List Int} (h : OwnI w base e k ao cap zs) (hb : ∀ a, ao = some a → w'.heap[a.block]? = w.heap[a.block]?) : OwnI w' base e k ao cap zs := by
  obtain ⟨h1, h2⟩ := h
  refine ⟨h1, ?_⟩
  rcases h2 with h2 | ⟨g, cp, cur, hv, hg, hh, r⟩
  · exact .inl h2
  · have hv2 := hv
    simp only [Value.slice.injEq] at hv2
    exact .inr ⟨g, cp, cur, hv, hg, by rw [hb ⟨g, 0, none⟩ hv2.1]; exact hh, r⟩

/-- A block that is not the row's is kept. -/
theorem grown_block {w w' : World} {ao : Option Addr} {n cap g : Nat} (hg : w.grownBy w' (Value.ownBlock (.slice ao n cap))) (hlt : g < w.heap.size) (hne : ∀ a, ao = some a → a.block ≠ g) : w'.heap[g]? = w.heap[g]? := by
  refine hg.block g hlt ?_
  cases ao with
  | none => simp [Value.ownBlock]
  | some a => have := hne a rfl; simp [Value.ownBlock]; omega

/-- A cell of a block that is not the row's is kept. -/
theorem grown_cell {w w' : World} {ao : Option Addr} {n cap g j : Nat} {v : Value} (hg : w.grownBy w' (Value.ownBlock (.slice ao n cap))) (hc : w.cell? ⟨g, j, none⟩ = some v) (hne : ∀ a, ao = some a → a.block ≠ g) : w'.cell? ⟨g, j, none⟩ = some v := by
  refine hg.cell hc ?_
  cases ao with
  | none => simp [Value.ownBlock]
  | some a => have := hne a rfl; simp [Value.ownBlock]; omega

theorem grown_below {w w' : World} {ao : Option Addr} {n cap B : Nat} (hg : w.grownBy w' (Value.ownBlock (.slice ao n cap))) (hne : ∀ a, ao = some a → B ≤ a.block) (hB : B ≤ w.heap.size) : Below B w w' := by
  refine ⟨hg.os, hg.tape, hg.output, hg.size, fun k hk => hg.block k (by omega) ?_⟩
  cases ao with
  | none => simp [Value.ownBlock]
  | some a => have := hne a rfl; simp [Value.ownBlock]; omega

theorem nums_at (W : World) (g m q : Nat) (hg : W.heap.size = g) (xs : Array Value) (zs : List Int) (hx : xs.toList = zs.map (Value.int .i64)) (hm : zs.length = m) (hq : q = 3 * m) (hz : ∀ z ∈ zs, 0 ≤ z ∧ z ≤ 16777215) (hs : m ≤ 1000) :
    Calls Tryz.prog 44 #[.slice (some ⟨g, 0, none⟩) m m] (W.alloc (.cells xs 3)) fun e w' => ∃ ao cap, e = .returned (.tuple #[.slice ao q cap, .int .i64 0]) ∧
      OwnI w' W.heap.size 5 .u8 ao cap (formsN zs) ∧ Below W.heap.size W w' := by
  subst hg hq
  have hr := RdI.built W 3 .i64 xs m zs hx hm (by unfold maxLen; omega)
  refine (nums_good _ m m zs _ hr hm (by omega) hz).mono ?_
  rintro e w2 ⟨ao2, cap2, rfl, ho2, hb2⟩
  have hs3 : (W.alloc (.cells xs 3)).heap.size = W.heap.size + 1 := by simp
  rw [hs3] at ho2 hb2
  exact ⟨_, _, rfl, ho2.mono (by omega), (below_box W _).trans (hb2.mono (by omega))⟩

end Go.Proofs.YtmmgdmfdiaoegaaGreat.Msg
