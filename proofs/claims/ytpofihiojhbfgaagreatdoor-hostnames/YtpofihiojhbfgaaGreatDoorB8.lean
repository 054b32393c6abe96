/- The bytes of messages, and what bytes are read as; rows of puts in memory; an append of one put. What Bytes of package msg does, walked. What takePuts and takeValues of package msg do, walked. What bytes are read as, and what Read of package msg does where they can't be, walked. A message in memory that is written. What Read of package msg does with any bytes, walked. What Read of package msg does with bytes that are a message other than a Grant; its puts lie in new memory. -/
import Derived.Test.YtpofihiojhbfgaaGreatDoorA7
import Derived.Test.YtpofihiojhbfgaaGreatDoorB7
import Derived.Test.YtpofihiojhbfgaaGreatDoorA5
import Derived.Test.YtpofihiojhbfgaaGreatDoorM5
import Derived.Deep.RegionHeld
import Derived.Deep.RegionHeldLaw
import Derived.Deep.DeepCutAuto
import Derived.Deep.CutBlock
import Derived.RegionTactic
import Derived.BigRegion
import Derived.Deep.RegionWith
namespace Go.Proofs.YtpofihiojhbfgaaGreatDoor.Msg
open Go.RowKit
set_option linter.unusedVariables false
set_option maxRecDepth 8000

def putZ (p : PutG) : List Int := formsN [(p.pg : Int), (p.ob : Int)] ++ valN p.c.1 p.c.2

def putsZ (ps : List PutG) : List Int := ps.flatMap putZ

theorem formsN_bd (zs : List Int) : ∀ z ∈ formsN zs, 0 ≤ z ∧ z < 256 := by
  intro z hz
  obtain ⟨c, _, h⟩ := List.mem_flatMap.1 hz
  exact wrN_bd _ _ z h

theorem putZ_length (p : PutG) : (putZ p).length = 22 := by simp [putZ, formsN_length, valN_length]

theorem putsZ_length (ps : List PutG) : (putsZ ps).length = 22 * ps.length := by
  induction ps with
  | nil => rfl
  | cons p r ih =>
    have e : putsZ (p :: r) = putZ p ++ putsZ r := rfl
    rw [e, List.length_append, ih, putZ_length, List.length_cons]
    omega

theorem putsZ_snoc (ps : List PutG) (p : PutG) : putsZ (ps ++ [p]) = putsZ ps ++ putZ p := by simp [putsZ]

theorem putZ_bd (p : PutG) : ∀ z ∈ putZ p, 0 ≤ z ∧ z < 256 := by
  intro z hz
  rcases List.mem_append.1 hz with h | h
  · exact formsN_bd _ z h
  · exact valN_bd _ _ z h

theorem putsZ_bd (ps : List PutG) : ∀ z ∈ putsZ ps, 0 ≤ z ∧ z < 256 := by
  intro z hz
  obtain ⟨c, _, h⟩ := List.mem_flatMap.1 hz
  exact putZ_bd _ z h

def headZ (M : Mg) : List Int := formsN [M.k, M.p, M.o, M.t, M.c, M.n, flgI M.wr, (M.ps.length : Int)]

theorem headZ_length (M : Mg) : (headZ M).length = 24 := by simp [headZ, formsN_length]

def msgZ (M : Mg) : List Int := headZ M ++ putsZ M.ps ++ (if M.k = 5 then objsZ M.vs else [])

theorem msgZ_bd (M : Mg) : ∀ z ∈ msgZ M, 0 ≤ z ∧ z < 256 := by
  intro z hz
  rcases List.mem_append.1 hz with h | h
  · rcases List.mem_append.1 h with h | h
    · exact formsN_bd _ z h
    · exact putsZ_bd _ z h
  · split at h
    · exact objsZ_bd _ z h
    · simp at h

structure Bd (M : Mg) : Prop where
  k : 0 ≤ M.k ∧ M.k ≤ 8
  p : 0 ≤ M.p ∧ M.p ≤ 5
  o : 0 ≤ M.o ∧ M.o ≤ 3
  t : 0 ≤ M.t ∧ M.t ≤ 16777215
  c : 0 ≤ M.c ∧ M.c ≤ 999
  n : 0 ≤ M.n ∧ M.n ≤ 15
  ps : putsB M.ps = true

theorem btw_iff (n a b : Int) : btw n a b = true ↔ a ≤ n ∧ n ≤ b := by simp [btw]

theorem bd_of_right {M : Mg} (h : rightB M = true) : Bd M := by
  simp only [rightB, withinB, thereB, Bool.and_eq_true, Bool.or_eq_true, btw_iff, beq_iff_eq] at h
  obtain ⟨⟨h0, ⟨⟨⟨⟨h1, h2⟩, h3⟩, h4⟩, h5⟩, h6⟩, -⟩ := h
  refine ⟨by omega, h1, h2, h3, ?_, h5, h6⟩
  unfold copyB at h4
  split at h4
  · rw [btw_iff] at h4; omega
  · rw [btw_iff] at h4; omega

theorem flgI_bd (b : Bool) : 0 ≤ flgI b ∧ flgI b ≤ 1 := by cases b <;> simp [flgI]

theorem putsFrom_mem : ∀ (ps : List PutG) (z : Int), putsFrom z ps = true → ∀ p ∈ ps, p.pg ≤ 5 ∧ p.ob ≤ 3
  | [], _, _, p, hp => by simp at hp
  | q :: r, z, h, p, hp => by
    simp only [putsFrom, Bool.and_eq_true, decide_eq_true_eq] at h
    obtain ⟨⟨⟨h1, h2⟩, h3⟩, h4⟩ := h
    rcases List.mem_cons.1 hp with e | e
    · subst e; omega
    · exact putsFrom_mem r _ h4 p e

theorem putsB_mem {ps : List PutG} (h : putsB ps = true) : ps.length ≤ 24 ∧ ∀ p ∈ ps, p.pg ≤ 5 ∧ p.ob ≤ 3 := by
  simp only [putsB, Bool.and_eq_true, decide_eq_true_eq] at h
  exact ⟨h.1, putsFrom_mem ps _ h.2⟩

structure Wd (M : Mg) : Prop where
  ps : ∀ p ∈ M.ps, wordB p.c
  v0 : wordB M.v0
  v1 : wordB M.v1
  v2 : wordB M.v2
  v3 : wordB M.v3

def val1 (zs : List Int) : Option ((Nat × Nat) × List Int) :=
  if 16 ≤ zs.length ∧ formN (rdW (zs.take 8)) = rdW (zs.take 8) ∧ formN (rdW ((zs.drop 8).take 8)) = rdW ((zs.drop 8).take 8) then some ((rdW (zs.take 8), rdW ((zs.drop 8).take 8)), zs.drop 16) else none

theorem val1_some {zs : List Int} {c : Nat × Nat} {r : List Int} (hb : ∀ z ∈ zs, 0 ≤ z ∧ z < 256) (h : val1 zs = some (c, r)) : zs = valN c.1 c.2 ++ r ∧ wordB c := by
  unfold val1 at h
  split at h
  · rename_i hc
    obtain ⟨h1, h2, h3⟩ := hc
    simp only [Option.some.injEq, Prod.mk.injEq] at h
    obtain ⟨rfl, rfl⟩ := h
    refine ⟨?_, rdW_lt _ (fun z hz => hb z (List.mem_of_mem_take hz)) (by simp; omega), rdW_lt _ (part_bd zs 8 8 hb) (by simp; omega)⟩
    simp only
    rw [val_take zs hb h1 h2 h3, List.take_append_drop]
  · cases h

theorem take_some (ao : Option Addr) (cap n m : Nat) (zs r : List Int) (c : Nat × Nat) (w : World) (hrd : RdI w .u8 ao cap zs) (hn : zs.length = n) (hb : ∀ z ∈ zs, 0 ≤ z ∧ z < 256) (hlen : n ≤ 140737488355328) (h : val1 zs = some (c, r)) (hm : r.length = m) :
    Calls Tryz.prog 118 #[.slice ao n cap] w fun e w' => ∃ a2 c2, e = .returned (.tuple #[.complex .f64 c.1 c.2, .slice a2 m c2, .int .i64 0]) ∧ OwnI w' w.heap.size 5 .u8 a2 c2 r ∧ Below w.heap.size w w' := by
  unfold val1 at h
  split at h
  · rename_i hc
    obtain ⟨h1, h2, h3⟩ := hc
    simp only [Option.some.injEq, Prod.mk.injEq] at h
    obtain ⟨rfl, rfl⟩ := h
    have : n - 16 = m := by simp at hm; omega
    subst this
    exact take_long ao cap n zs w hrd hn hb (by omega) hlen h2 h3
  · cases h

theorem take_none (ao : Option Addr) (cap n : Nat) (zs : List Int) (w : World) (hrd : RdI w .u8 ao cap zs) (hn : zs.length = n) (hb : ∀ z ∈ zs, 0 ≤ z ∧ z < 256) (hlen : n ≤ 140737488355328) (h : val1 zs = none) :
    Calls Tryz.prog 118 #[.slice ao n cap] w fun e w' => e = .returned (.tuple #[.complex .f64 0 0, .slice none 0 0, .int .i64 21]) ∧ Below w.heap.size w w' := by
  unfold val1 at h
  split at h
  · cases h
  · rename_i hc
    by_cases h1 : 16 ≤ zs.length
    · refine take_odd ao cap n zs w hrd hn hb (by omega) hlen ?_
      by_cases h2 : formN (rdW (zs.take 8)) = rdW (zs.take 8)
      · exact .inr fun h3 => hc ⟨h1, h2, h3⟩
      · exact .inl h2
    · exact (take_short ao cap n w (by omega)).mono fun e w' he => ⟨he.1, by rw [he.2]; exact Below.refl _ _⟩

def put1 (zs : List Int) : Option (PutG × List Int) :=
  if 6 ≤ zs.length then match val1 (zs.drop 6) with
    | some (c, r) => some (⟨(rdN (zs.take 3)).toNat, (rdN ((zs.drop 3).take 3)).toNat, c⟩, r)
    | none => none
  else none

theorem get2 (zs : List Int) : getN zs 2 = [rdN (zs.take 3), rdN ((zs.drop 3).take 3)] := by simp [getN, List.range_succ]

theorem put1_some {zs : List Int} {p : PutG} {r : List Int} (hb : ∀ z ∈ zs, 0 ≤ z ∧ z < 256) (h : put1 zs = some (p, r)) : zs = putZ p ++ r ∧ wordB p.c ∧ (p.pg : Int) = rdN (zs.take 3) ∧ (p.ob : Int) = rdN ((zs.drop 3).take 3) ∧ val1 (zs.drop 6) = some (p.c, r) ∧ 6 ≤ zs.length := by
  unfold put1 at h
  split at h
  · rename_i h6
    cases hv : val1 (zs.drop 6) with
    | none => rw [hv] at h; cases h
    | some x =>
      obtain ⟨c, r'⟩ := x
      rw [hv] at h
      simp only [Option.some.injEq, Prod.mk.injEq] at h
      obtain ⟨rfl, rfl⟩ := h
      have h1 := val1_some (fun z hz => hb z (List.mem_of_mem_drop hz)) hv
      have b0 := (part3_bd zs 0 hb).1
      have b1 := (part3_bd zs 3 hb).1
      simp only [List.drop_zero] at b0
      have e0 : ((rdN (zs.take 3)).toNat : Int) = rdN (zs.take 3) := by omega
      have e1 : ((rdN ((zs.drop 3).take 3)).toNat : Int) = rdN ((zs.drop 3).take 3) := by omega
      refine ⟨?_, h1.2, e0, e1, rfl, h6⟩
      simp only [putZ]
      rw [e0, e1, ← get2, forms_get zs 2 hb (by omega), List.append_assoc, ← h1.1, List.take_append_drop]
  · cases h

def takeP : Nat → List Int → Option (List PutG × List Int)
  | 0, zs => some ([], zs)
  | k + 1, zs => match takeP k zs with
    | some (ps, r) => match put1 r with
      | some (p, s) => some (ps ++ [p], s)
      | none => none
    | none => none

theorem takeP_more {k : Nat} {zs : List Int} (h : takeP k zs = none) : ∀ m, k ≤ m → takeP m zs = none := by
  intro m hm
  induction m with
  | zero => rwa [show k = 0 by omega] at h
  | succ m ih =>
    by_cases e : k = m + 1
    · rw [← e]; exact h
    · simp only [takeP, ih (by omega)]

theorem takeP_some : ∀ (k : Nat) {zs : List Int} {ps : List PutG} {r : List Int}, (∀ z ∈ zs, 0 ≤ z ∧ z < 256) → takeP k zs = some (ps, r) → zs = putsZ ps ++ r ∧ ps.length = k ∧ (∀ p ∈ ps, wordB p.c) ∧ (∀ z ∈ r, 0 ≤ z ∧ z < 256)
  | 0, zs, ps, r, hb, h => by
    simp only [takeP, Option.some.injEq, Prod.mk.injEq] at h
    obtain ⟨rfl, rfl⟩ := h
    exact ⟨rfl, rfl, by simp, hb⟩
  | k + 1, zs, ps, r, hb, h => by
    simp only [takeP] at h
    cases h1 : takeP k zs with
    | none => rw [h1] at h; cases h
    | some x =>
      obtain ⟨qs, s⟩ := x
      rw [h1] at h
      obtain ⟨e1, e2, e3, e4⟩ := takeP_some k hb h1
      simp only at h
      cases h2 : put1 s with
      | none => rw [h2] at h; cases h
      | some y =>
        obtain ⟨p, u⟩ := y
        rw [h2] at h
        simp only [Option.some.injEq, Prod.mk.injEq] at h
        obtain ⟨rfl, rfl⟩ := h
        obtain ⟨g1, g2, -⟩ := put1_some e4 h2
        refine ⟨?_, by simp [e2], ?_, ?_⟩
        · rw [putsZ_snoc, List.append_assoc, ← g1]; exact e1
        · intro q hq
          rcases List.mem_append.1 hq with hq | hq
          · exact e3 q hq
          · simp at hq; subst hq; exact g2
        · intro z hz
          exact e4 z (by rw [g1]; simp [hz])

def takeV : Nat → List Int → Option (List (Nat × Nat) × List Int)
  | 0, zs => some ([], zs)
  | k + 1, zs => match takeV k zs with
    | some (vs, r) => match val1 r with
      | some (c, s) => some (vs ++ [c], s)
      | none => none
    | none => none

/-! ### Rows of puts -/

def putC (p : PutG) : List Value := [.int .i64 (p.pg : Int), .int .i64 (p.ob : Int), .complex .f64 p.c.1 p.c.2]

def rowP (ps : List PutG) : List Value := ps.flatMap putC

theorem rowP_get (ps : List PutG) : ∀ i (h : i < ps.length) j, j < 3 → (rowP ps)[i * 3 + j]? = (putC ps[i])[j]? := by
  induction ps with
  | nil => intro i h; simp at h
  | cons r s ih =>
    intro i h j hj
    have e : rowP (r :: s) = putC r ++ rowP s := rfl
    have l3 : (putC r).length = 3 := rfl
    rw [e]
    cases i with
    | zero => rw [Nat.zero_mul, Nat.zero_add, List.getElem?_append_left (by omega)]; rfl
    | succ i =>
      rw [List.getElem?_append_right (by omega), l3, show (i + 1) * 3 + j - 3 = i * 3 + j by omega]
      simpa using ih i (by simpa using h) j hj

def OwnR (w : World) (base : Nat) (ao : Option Addr) (cap : Nat) (ps : List PutG) : Prop := w.ownsRow base 50 3 (.slice ao ps.length cap) ps.length (rowP ps)

theorem OwnR.nil (w : World) (base : Nat) : OwnR w base none 0 [] := World.ownsRow_nil w base 50 3

theorem OwnR.keep {w w' : World} {base : Nat} {ao : Option Addr} {cap : Nat} {ps : List PutG} (h : OwnR w base ao cap ps) (hb : ∀ a, ao = some a → w'.heap[a.block]? = w.heap[a.block]?) : OwnR w' base ao cap ps := by
  obtain ⟨h1, h2⟩ := h
  refine ⟨h1, ?_⟩
  rcases h2 with h2 | ⟨g, cp, cur, hv, hg, hh, r⟩
  · exact .inl h2
  · have hv2 := hv
    simp only [Value.slice.injEq] at hv2
    exact .inr ⟨g, cp, cur, hv, hg, by rw [hb ⟨g, 0, none⟩ hv2.1]; exact hh, r⟩

theorem OwnR.blk {w : World} {base : Nat} {ao : Option Addr} {cap : Nat} {ps : List PutG} (h : OwnR w base ao cap ps) : ∀ a, ao = some a → base ≤ a.block ∧ a.block < w.heap.size := by
  obtain ⟨h1, h2⟩ := h
  intro a ha
  rcases h2 with ⟨hv, _⟩ | ⟨g, cp, cur, hv, hg, hh, r⟩
  · rw [ha] at hv; cases hv
  · rw [ha] at hv
    simp only [Value.slice.injEq, Option.some.injEq] at hv
    obtain ⟨rfl, -, -⟩ := hv
    exact ⟨hg, (Array.getElem?_eq_some_iff.1 hh).1⟩

theorem OwnR.below {w w' : World} {base : Nat} {ao : Option Addr} {cap : Nat} {ps : List PutG} (h : OwnR w base ao cap ps) (hb : Below w.heap.size w w') : OwnR w' base ao cap ps := h.keep fun a ha => hb.block _ (h.blk a ha).2

theorem OwnR.rd {w : World} {base : Nat} {ao : Option Addr} {cap : Nat} {ps : List PutG} (h : OwnR w base ao cap ps) : RdP w ao ps.length cap ps := by
  refine ⟨rfl, fun t ht => ?_⟩
  have h0 := h
  obtain ⟨h1, h2⟩ := h
  rcases h2 with ⟨hv, hn⟩ | ⟨g, cp, cur, hv, hg, hh, r⟩
  · omega
  · simp only [Value.slice.injEq] at hv
    obtain ⟨rfl, -, rfl⟩ := hv
    have hc := fun j (hj : j < 3) => (World.ownsRow.cellAt h0 (t * 3 + j) (by omega)).trans (rowP_get ps t ht j hj)
    refine ⟨g, 0, rfl, (Array.getElem?_eq_some_iff.1 hh).1, ?_⟩
    simp only [Nat.zero_add]
    exact ⟨hc 0 (by omega), hc 1 (by omega), hc 2 (by omega)⟩

abbrev wputO (p : PutG) : Obj := .cells #[.int .i64 (p.pg : Int), .int .i64 (p.ob : Int), .complex .f64 p.c.1 p.c.2] 50

theorem info53 : (Tryz.prog.info? 50).map (fun i => (i.zero, i.size, i.bytes)) = some (some (.agg #[.int .i64 0, .int .i64 0, .complex .f64 0 0]), 3, 32) := by kernel_rfl

theorem wpList_append_put (w : World) {ops : Array Oper} {rest : List Oper} {o : Oper} {a : Act} {Q : Exit → Act → World → Prop} (hgd : o.guard = none) (s x : Operand)
    (ho : o.op = .call { callee := .builtin .append, args := #[s, x], argTypes := #[43, 43] })
    (base : Nat) (ao : Option Addr) (n cap : Nat) (ps : List PutG) (p : PutG) (W : World) (hw : w = W.alloc (wputO p)) (q : Nat) (hq : W.heap.size = q) (hs : a.eval s = .slice ao n cap) (hx : a.eval x = .slice (some ⟨q, 0, none⟩) 1 1) (hown : OwnR w base ao cap ps) (hn : ps.length = n) (hl : n ≤ 1000) (hb : base ≤ w.heap.size)
    (h : ∀ ao2 cap2 w', OwnR w' base ao2 cap2 (ps ++ [p]) → w.grownBy w' (Value.ownBlock (.slice ao n cap)) → wpList Tryz.prog ops Q rest (a.put o.dst (.slice ao2 (n + 1) cap2)) w') : wpList Tryz.prog ops Q (o :: rest) a w := by
  subst hn hq
  obtain ⟨i, hi, hz, hsz, hby⟩ := info_parts info53
  have hC := heap_alloc_new W (wputO p)
  refine wpList_append_own (P := Tryz.prog) w hgd s x 43 ho base 50 i _ 3 32 Tryz.underlying43 hi hz hsz hby rfl (by omega) _ ps.length (rowP ps) hs hown ⟨W.heap.size, 0, none⟩ 1 1 (putC p) hx rfl ?_ ?_ (by unfold maxLen; omega) (by omega) hb ?_
  · intro j u hj
    subst hw
    rw [Addr.add_lit, Nat.zero_add, cell_of_row _ _ _ _ _ _ hC]
    match j, hj with
    | 0, hj => cases hj; rfl
    | 1, hj => cases hj; rfl
    | 2, hj => cases hj; rfl
    | (j + 3), hj => simp [putC] at hj
  · intro u hu
    simp only [putC, List.mem_cons, List.not_mem_nil, or_false] at hu
    rcases hu with rfl | rfl | rfl
    all_goals rfl
  · intro v' w' h1 h2 _
    have e : rowP ps ++ putC p = rowP (ps ++ [p]) := by simp [rowP]
    rw [e] at h1
    have hl2 : (ps ++ [p]).length = ps.length + 1 := by simp
    rw [← hl2] at h1
    obtain ⟨k1, k2⟩ := h1
    rcases k2 with ⟨hv, hn⟩ | ⟨g, cp, cur, hv, r⟩
    · simp at hn
    · subst hv
      rw [hl2]
      exact h _ _ w' ⟨k1, .inr ⟨g, cp, cur, rfl, r⟩⟩ h2

theorem _root_.Go.Proofs.YtpofihiojhbfgaaGreatDoor.OwnI.keep {w w' : World} {base : Nat} {e : TypeId} {k : IntKind} {ao : Option Addr} {cap : Nat} {zs : List Int} (h : OwnI w base e k ao cap zs) (hb : ∀ a, ao = some a → w'.heap[a.block]? = w.heap[a.block]?) : OwnI w' base e k ao cap zs := by
  obtain ⟨h1, h2⟩ := h
  refine ⟨h1, ?_⟩
  rcases h2 with h2 | ⟨g, cp, cur, hv, hg, hh, r⟩
  · exact .inl h2
  · have hv2 := hv
    simp only [Value.slice.injEq] at hv2
    exact .inr ⟨g, cp, cur, hv, hg, by rw [hb ⟨g, 0, none⟩ hv2.1]; exact hh, r⟩

theorem grown_block {w w' : World} {ao : Option Addr} {n cap g : Nat} (hg : w.grownBy w' (Value.ownBlock (.slice ao n cap))) (hlt : g < w.heap.size) (hne : ∀ a, ao = some a → a.block ≠ g) : w'.heap[g]? = w.heap[g]? := by
  refine hg.block g hlt ?_
  cases ao with
  | none => simp [Value.ownBlock]
  | some a => have := hne a rfl; simp [Value.ownBlock]; omega

theorem grown_cell {w w' : World} {ao : Option Addr} {n cap g j : Nat} {v : Value} (hg : w.grownBy w' (Value.ownBlock (.slice ao n cap))) (hc : w.cell? ⟨g, j, none⟩ = some v) (hne : ∀ a, ao = some a → a.block ≠ g) : w'.cell? ⟨g, j, none⟩ = some v := by
  refine hg.cell hc ?_
  cases ao with
  | none => simp [Value.ownBlock]
  | some a => have := hne a rfl; simp [Value.ownBlock]; omega

theorem grown_below {w w' : World} {ao : Option Addr} {n cap B : Nat} (hg : w.grownBy w' (Value.ownBlock (.slice ao n cap))) (hne : ∀ a, ao = some a → B ≤ a.block) (hB : B ≤ w.heap.size) : Below B w w' := by
  refine ⟨hg.os, hg.tape, hg.output, hg.size, fun k hk => hg.block k (by omega) ?_⟩
  cases ao with
  | none => simp [Value.ownBlock]
  | some a => have := hne a rfl; simp [Value.ownBlock]; omega

theorem nums_at (W : World) (g m q : Nat) (hg : W.heap.size = g) (xs : Array Value) (zs : List Int) (hx : xs.toList = zs.map (Value.int .i64)) (hm : zs.length = m) (hq : q = 3 * m) (hz : ∀ z ∈ zs, 0 ≤ z ∧ z ≤ 16777215) (hs : m ≤ 1000) :
    Calls Tryz.prog 77 #[.slice (some ⟨g, 0, none⟩) m m] (W.alloc (.cells xs 3)) fun e w' => ∃ ao cap, e = .returned (.tuple #[.slice ao q cap, .int .i64 0]) ∧
      OwnI w' W.heap.size 5 .u8 ao cap (formsN zs) ∧ Below W.heap.size W w' := by
  subst hg hq
  have hr := RdI.built W 3 .i64 xs m zs hx hm (by unfold maxLen; omega)
  refine (nums_good _ m m zs _ hr hm (by omega) hz).mono ?_
  rintro e w2 ⟨ao2, cap2, rfl, ho2, hb2⟩
  have hs3 : (W.alloc (.cells xs 3)).heap.size = W.heap.size + 1 := by simp
  rw [hs3] at ho2 hb2
  exact ⟨_, _, rfl, ho2.mono (by omega), (below_box W _).trans (hb2.mono (by omega))⟩

end Go.Proofs.YtpofihiojhbfgaaGreatDoor.Msg

namespace Go.Proofs.YtpofihiojhbfgaaGreatDoor.Msg
open Go.RowKit
set_option linter.unusedVariables false
set_option maxRecDepth 8000

set_option maxRecDepth 100000 in
theorem idx4 (a b c d : Nat × Nat) (W : World) :
    (Instr.index 45 (v4V a b c d) (.int .i64 0)).run Tryz.prog W = .ok (.complex .f64 a.1 a.2) W ∧
    (Instr.index 45 (v4V a b c d) (.int .i64 1)).run Tryz.prog W = .ok (.complex .f64 b.1 b.2) W ∧
    (Instr.index 45 (v4V a b c d) (.int .i64 2)).run Tryz.prog W = .ok (.complex .f64 c.1 c.2) W ∧
    (Instr.index 45 (v4V a b c d) (.int .i64 3)).run Tryz.prog W = .ok (.complex .f64 d.1 d.2) W := by
  refine ⟨?_, ?_, ?_, ?_⟩
  all_goals rfl

def partZ (M : Mg) (k : Nat) : List Int := headZ M ++ putsZ (M.ps.take k)

theorem partZ_length (M : Mg) (k : Nat) (h : k ≤ M.ps.length) : (partZ M k).length = 24 + 22 * k := by
  rw [partZ, List.length_append, headZ_length, putsZ_length, List.length_take, Nat.min_eq_left h]

theorem partZ_snoc (M : Mg) (k : Nat) (h : k < M.ps.length) : partZ M k ++ formsN [(M.ps[k].pg : Int), (M.ps[k].ob : Int)] ++ valN M.ps[k].c.1 M.ps[k].c.2 = partZ M (k + 1) := by
  rw [partZ, partZ, List.take_succ_eq_append_getElem h, putsZ_snoc, putZ]
  simp only [List.append_assoc]

set_option maxHeartbeats 1600000 in
theorem bytes_ok (M : Mg) (ao : Option Addr) (n cap : Nat) (w : World) (h : RdP w ao n cap M.ps) (hr : rightB M = true) (hw : Wd M) :
    Calls Tryz.prog 105 #[msV M ao n cap] w fun x w' => ∃ a2 c2, x = .returned (.tuple #[.slice a2 (msgZ M).length c2, .int .i64 0]) ∧ OwnI w' w.heap.size 5 .u8 a2 c2 (msgZ M) ∧ Below w.heap.size w w' := by
  have hbd := bd_of_right hr
  have hpm := putsB_mem hbd.ps
  have hln := h.len
  have hn : n ≤ 24 := by omega
  have h2 := h.below (below_box w (msO M ao n cap))
  have HR : Hid (RdP w ao n cap M.ps) := h
  have HW : Hid (Wd M) := hw
  have HPM : Hid (M.ps.length ≤ 24 ∧ ∀ p ∈ M.ps, p.pg ≤ 5 ∧ p.ob ≤ 3) := hpm
  have HZ : Hid (∀ z ∈ [M.k, M.p, M.o, M.t, M.c, M.n, flgI M.wr, (n : Int)], 0 ≤ z ∧ z ≤ 16777215) := by
    intro z hz
    obtain ⟨b1, b2, b3, b4, b5, b6, -⟩ := hbd
    have := flgI_bd M.wr
    simp only [List.mem_cons, List.not_mem_nil, or_false] at hz
    omega
  have HH : Hid (formsN [M.k, M.p, M.o, M.t, M.c, M.n, flgI M.wr, (n : Int)] = partZ M 0) := by
    rw [Hid, partZ, headZ, hln]; simp [putsZ]
  have HL : Hid (M.ps.length = n) := hln
  clear h hw hpm hbd hln
  have hst := fun (ad : Addr) (re im : Nat) (W : World) => run_store Tryz.prog W ad (.complex .f64 re im) .plain rfl
  go_enter Tryz.func105, Tryz.ntmps105
  go_upto_region 3 with (first
    | (go_at_call 86; refine (right_any M ao n cap _ h2 (by omega)).mono ?_; rw [hr]; rintro x w1 ⟨rfl, hb⟩; have HB1 : Hid (Below w.heap.size w w1) := below_alloc (hb.mono (by simp)); have hM := (MgAt.new w M ao n cap).below hb; have HM : Hid (∀ W, Below w1.heap.size w1 W → MgAt W w.heap.size M ao n cap) := fun W hW => hM.below hW; clear hb h2)
    | (fail))
  have HS : Hid (∀ W, Below w1.heap.size w1 W → (W.cell? ⟨w.heap.size, 0, none⟩ = some (.int .i64 M.k) ∧ W.cell? ⟨w.heap.size, 1, none⟩ = some (.int .i64 M.p) ∧ W.cell? ⟨w.heap.size, 2, none⟩ = some (.int .i64 M.o) ∧ W.cell? ⟨w.heap.size, 3, none⟩ = some (.int .i64 M.t) ∧ W.cell? ⟨w.heap.size, 4, none⟩ = some (.int .i64 M.c) ∧ W.cell? ⟨w.heap.size, 5, none⟩ = some (.int .i64 M.n) ∧ W.cell? ⟨w.heap.size, 6, none⟩ = some (.bool M.wr) ∧ W.cell? ⟨w.heap.size, 7, none⟩ = some (.slice ao n cap))) := fun W hW => by
    have t := HM.out W hW
    exact ⟨t.c0, t.c1, t.c2, t.c3, t.c4, t.c5, t.c6, t.c7⟩
  clear hM
  first
    | go_region_held (fun W => (W.cell? ⟨w.heap.size, 0, none⟩ = some (.int .i64 M.k) ∧ W.cell? ⟨w.heap.size, 1, none⟩ = some (.int .i64 M.p) ∧ W.cell? ⟨w.heap.size, 2, none⟩ = some (.int .i64 M.o) ∧ W.cell? ⟨w.heap.size, 3, none⟩ = some (.int .i64 M.t) ∧ W.cell? ⟨w.heap.size, 4, none⟩ = some (.int .i64 M.c) ∧ W.cell? ⟨w.heap.size, 5, none⟩ = some (.int .i64 M.n) ∧ W.cell? ⟨w.heap.size, 6, none⟩ = some (.bool M.wr) ∧ W.cell? ⟨w.heap.size, 7, none⟩ = some (.slice ao n cap)))
      (first | exact HS.out _ (Below.refl _ _) | exact HS.out _ (Below.refl _ _).drew | exact HS.out _ ((Below.refl _ _).drew.alloc (Nat.le_refl _) _) | exact HS.out _ hb2 | fail)
      (first
        | (go_at_call 78; refine (flag_any _ _).mono ?_; rintro x w0 ⟨rfl, hw⟩; subst w0)
        | (go_at_call 77; refine (nums_at w1.drew _ 8 24 rfl _ [M.k, M.p, M.o, M.t, M.c, M.n, flgI M.wr, (n : Int)] rfl rfl rfl HZ.out (by omega)).mono ?_; rintro x w2 ⟨ao2, cap2, rfl, ho2, hb2'⟩; have hb2 : Below w1.heap.size w1 w2 := ⟨hb2'.os, hb2'.tape, hb2'.output, hb2'.size, hb2'.block⟩; clear hb2'))
    | fail
  have ho2' : OwnI w2 w1.heap.size 5 .u8 ao2 cap2 (partZ M 0) := by rw [← HH.out]; exact ho2
  have t7 := (HS.out w2 hb2).2.2.2.2.2.2.2
  clear ho2 HH HZ
  go_wp2
  go_loopw [4, 41] (fun s i wr => ∃ (k : Nat) (a : Option Addr) (cc : Nat), k ≤ n ∧ i = .int .i64 k ∧ s = .slice a (24 + 22 * k) cc ∧ OwnI wr w1.heap.size 5 .u8 a cc (partZ M k) ∧ Below w1.heap.size w1 wr) (fun _ i _ => n - (intOf i).toNat)
  case atStart => exact ⟨0, _, _, Nat.zero_le _, rfl, rfl, ho2', hb2⟩
  case round =>
    obtain ⟨k, a, cc, hk, rfl, rfl, ho, hbel⟩ := hrel
    clear ho2' hb2 t7
    have hsz := hbel.size
    by_cases hlt : k < n
    · have hkl : k < M.ps.length := by have := HL.out; omega
      obtain ⟨b, off, rfl, hb, q0, q1, q2⟩ := ((HR.out.below HB1.out).below hbel).cell k hkl
      obtain ⟨hp1, hp2⟩ := HPM.out.2 M.ps[k] (List.getElem_mem _)
      have hp3 := HW.out.ps M.ps[k] (List.getElem_mem _)
      have HSn : Hid (partZ M k ++ formsN [(M.ps[k].pg : Int), (M.ps[k].ob : Int)] ++ valN M.ps[k].c.1 M.ps[k].c.2 = partZ M (k + 1)) := partZ_snoc M k hkl
      have HLn : Hid ((partZ M k).length = 24 + 22 * k) := partZ_length M k (by omega)
      generalize M.ps[k] = p at *
      obtain ⟨pg, ob, x1, x2⟩ := p
      simp only at hp1 hp2 hp3 q0 q1 q2 HSn
      have HF : Hid (formN x1 < 18446744073709551616 ∧ formN x2 < 18446744073709551616) := ⟨formN_lt x1 hp3.1, formN_lt x2 hp3.2⟩
      clear hp3
      have HBL : Hid (∀ y, a = some y → w1.heap.size ≤ y.block ∧ y.block < wr.heap.size) := ho.blk
      go_wp2_with (first
        | (at_builtin; refine wpList_append_at _ rfl (.tmp 57) (.tmp 60) 31 rfl w1.heap.size 5 .u8 (.int .u8 0) 1 Tryz.underlying31 info5 rfl rfl rfl (ho4.below hb5) ho5.rd (by rw [List.length_append, HLn.out, formsN_length]; rfl) (valN_length _ _) (by omega) (by unfold maxLen; omega) hB5.size ?_; intro ao6 cap6 w6 ho6 hg6 _; have hB6 : Below w1.heap.size w1 w6 := hB5.trans (grown_below hg6 (fun y hy => ((ho4.below hb5).blk y hy).1) hB5.size))
        | (go_at_call 135; refine (value_any _ _ _ HF.out.1 HF.out.2).mono ?_; rintro x w5 ⟨ao5, cap5, rfl, ho5, hb5⟩; have hB5 : Below w1.heap.size w1 w5 := below_step hB4 hb5)
        | (at_builtin; refine wpList_append_at _ rfl (.tmp 54) (.tmp 55) 31 rfl w1.heap.size 5 .u8 (.int .u8 0) 1 Tryz.underlying31 info5 rfl rfl rfl ho3 ho3'.rd HLn.out rfl (by omega) (by unfold maxLen; omega) hB3.size ?_; intro ao4 cap4 w4 ho4 hg4 _; have hB4 : Below w1.heap.size w1 w4 := hB3.trans (grown_below hg4 (fun y hy => (HBL.out y hy).1) hB3.size); have v4 := grown_cell hg4 v3 (fun y hy => by have := (HBL.out y hy).2; omega))
        | (go_at_call 77; refine (nums_at (wr.alloc (wputO ⟨pg, ob, x1, x2⟩)) _ 2 6 (by simp) _ [(pg : Int), ob] rfl rfl rfl ?_ (by omega)).mono ?_; (intro z hz; simp only [List.mem_cons, List.not_mem_nil, or_false] at hz; omega); rintro x w3 ⟨ao3, cap3, rfl, ho3', hb3⟩; have hB3 : Below w1.heap.size w1 w3 := (hbel.alloc hbel.size _).trans (hb3.mono (by simp; omega)); have hw3 : Below wr.heap.size wr w3 := (below_box wr _).trans (hb3.mono (by simp)); have ho3 := ho.below hw3; have v3 : w3.cell? ⟨wr.heap.size, 2, none⟩ = some (.complex .f64 x1 x2) := (hb3.cell (p := ⟨wr.heap.size, 2, none⟩) (by simp)).trans (by rw [cell_of_row _ _ _ _ _ _ (heap_alloc_new wr (wputO ⟨pg, ob, x1, x2⟩))]; rfl))
        | (fail))
      rw [HSn.out] at ho6
      go_roundw
      case rel => exact ⟨k + 1, ao6, cap6, by omega, by go_num, by rw [show 24 + 22 * (k + 1) = 24 + 22 * k + 6 + 16 by omega], ho6, hB6⟩
      case measure => simp [intOf]; omega
    · obtain rfl : k = n := by omega
      have t0 := (HS.out wr hbel).1
      have tM := HM.out wr hbel
      have HPk : Hid (partZ M k = headZ M ++ putsZ M.ps) := by have := HL.out; simp only [Hid, partZ]; rw [List.take_of_length_le (by omega)]
      have HLn : Hid ((partZ M k).length = 24 + 22 * k) := partZ_length M k (by have := HL.out; omega)
      by_cases h5 : M.k = 5
      · have HZ5 : Hid (msgZ M = partZ M k ++ objsZ M.vs) := by rw [Hid, HPk.out, msgZ, if_pos h5]
        have q8 := tM.c8
        have q9 := tM.c9
        have qA := tM.cA
        have qB := tM.cB
        have i0 := fun W => (idx4 M.v0 M.v1 M.v2 M.v3 W).1
        have i1 := fun W => (idx4 M.v0 M.v1 M.v2 M.v3 W).2.1
        have i2 := fun W => (idx4 M.v0 M.v1 M.v2 M.v3 W).2.2.1
        have i3 := fun W => (idx4 M.v0 M.v1 M.v2 M.v3 W).2.2.2
        have HF : Hid (∀ x, wordB x → formN x.1 < 18446744073709551616 ∧ formN x.2 < 18446744073709551616) := fun x hx => ⟨formN_lt _ hx.1, formN_lt _ hx.2⟩
        have hk5 : (M.k == 5) = true := by simp [h5]
        clear tM h5
        go_wp2
        go_loopw [4, 68] (fun s i wq => ∃ (j : Nat) (a' : Option Addr) (cc' : Nat), j ≤ 4 ∧ i = .int .i64 j ∧ s = .slice a' (24 + 22 * k + 16 * j) cc' ∧ OwnI wq w1.heap.size 5 .u8 a' cc' (partZ M k ++ objsZ (M.vs.take j)) ∧ Below w1.heap.size w1 wq) (fun _ i _ => 4 - (intOf i).toNat)
        case atStart => exact ⟨0, a, cc, Nat.zero_le _, rfl, rfl, by simpa [objsZ] using ho, hbel⟩
        case round =>
          rename World => wq
          obtain ⟨j, a', c', hj, rfl, rfl, ho', hbq⟩ := hrel
          have hsq := hbq.size
          by_cases hj4 : j < 4
          · obtain rfl | rfl | rfl | rfl : j = 0 ∨ j = 1 ∨ j = 2 ∨ j = 3 := by omega
            · have e5 : (partZ M k ++ objsZ (M.vs.take 0)) ++ valN M.v0.1 M.v0.2 = partZ M k ++ objsZ (M.vs.take 1) := by simp [objsZ, Mg.vs]
              have HE : Hid _ := e5
              have HLj : Hid ((partZ M k ++ objsZ (M.vs.take 0)).length = 24 + 22 * k + 16 * 0) := by rw [Hid, List.length_append, HLn.out, objsZ_length]; simp [Mg.vs]
              clear e5
              go_wp2_with (first
                | (at_builtin; refine wpList_append_rdI _ rfl (.tmp 71) (.tmp 73) 31 rfl w1.heap.size 5 .u8 (.int .u8 0) 1 Tryz.underlying31 info5 rfl rfl rfl (ho'.below hb5) ho5.rd HLj.out (valN_length _ _) (by omega) (by unfold maxLen; omega) hB5.size ?_; intro ao6 cap6 w6 ho6 hb6)
                | (go_at_call 135; refine (value_any _ _ _ (HF.out _ HW.out.v0).1 (HF.out _ HW.out.v0).2).mono ?_; rintro x w5 ⟨ao5, cap5, rfl, ho5, hb5⟩; have hB5 : Below w1.heap.size w1 w5 := below_step hbq hb5)
                | (fail))
              rw [HE.out] at ho6
              go_roundw
              case rel => exact ⟨1, ao6, cap6, by omega, by go_num, rfl, ho6, hB5.trans hb6⟩
              case measure => simp [intOf]
            · have e5 : (partZ M k ++ objsZ (M.vs.take 1)) ++ valN M.v1.1 M.v1.2 = partZ M k ++ objsZ (M.vs.take 2) := by simp [objsZ, Mg.vs]
              have HE : Hid _ := e5
              have HLj : Hid ((partZ M k ++ objsZ (M.vs.take 1)).length = 24 + 22 * k + 16 * 1) := by rw [Hid, List.length_append, HLn.out, objsZ_length]; simp [Mg.vs]
              clear e5
              go_wp2_with (first
                | (at_builtin; refine wpList_append_rdI _ rfl (.tmp 71) (.tmp 73) 31 rfl w1.heap.size 5 .u8 (.int .u8 0) 1 Tryz.underlying31 info5 rfl rfl rfl (ho'.below hb5) ho5.rd HLj.out (valN_length _ _) (by omega) (by unfold maxLen; omega) hB5.size ?_; intro ao6 cap6 w6 ho6 hb6)
                | (go_at_call 135; refine (value_any _ _ _ (HF.out _ HW.out.v1).1 (HF.out _ HW.out.v1).2).mono ?_; rintro x w5 ⟨ao5, cap5, rfl, ho5, hb5⟩; have hB5 : Below w1.heap.size w1 w5 := below_step hbq hb5)
                | (fail))
              rw [HE.out] at ho6
              go_roundw
              case rel => exact ⟨2, ao6, cap6, by omega, by go_num, rfl, ho6, hB5.trans hb6⟩
              case measure => simp [intOf]
            · have e5 : (partZ M k ++ objsZ (M.vs.take 2)) ++ valN M.v2.1 M.v2.2 = partZ M k ++ objsZ (M.vs.take 3) := by simp [objsZ, Mg.vs]
              have HE : Hid _ := e5
              have HLj : Hid ((partZ M k ++ objsZ (M.vs.take 2)).length = 24 + 22 * k + 16 * 2) := by rw [Hid, List.length_append, HLn.out, objsZ_length]; simp [Mg.vs]
              clear e5
              go_wp2_with (first
                | (at_builtin; refine wpList_append_rdI _ rfl (.tmp 71) (.tmp 73) 31 rfl w1.heap.size 5 .u8 (.int .u8 0) 1 Tryz.underlying31 info5 rfl rfl rfl (ho'.below hb5) ho5.rd HLj.out (valN_length _ _) (by omega) (by unfold maxLen; omega) hB5.size ?_; intro ao6 cap6 w6 ho6 hb6)
                | (go_at_call 135; refine (value_any _ _ _ (HF.out _ HW.out.v2).1 (HF.out _ HW.out.v2).2).mono ?_; rintro x w5 ⟨ao5, cap5, rfl, ho5, hb5⟩; have hB5 : Below w1.heap.size w1 w5 := below_step hbq hb5)
                | (fail))
              rw [HE.out] at ho6
              go_roundw
              case rel => exact ⟨3, ao6, cap6, by omega, by go_num, rfl, ho6, hB5.trans hb6⟩
              case measure => simp [intOf]
            · have e5 : (partZ M k ++ objsZ (M.vs.take 3)) ++ valN M.v3.1 M.v3.2 = partZ M k ++ objsZ (M.vs.take 4) := by simp [objsZ, Mg.vs]
              have HE : Hid _ := e5
              have HLj : Hid ((partZ M k ++ objsZ (M.vs.take 3)).length = 24 + 22 * k + 16 * 3) := by rw [Hid, List.length_append, HLn.out, objsZ_length]; simp [Mg.vs]
              clear e5
              go_wp2_with (first
                | (at_builtin; refine wpList_append_rdI _ rfl (.tmp 71) (.tmp 73) 31 rfl w1.heap.size 5 .u8 (.int .u8 0) 1 Tryz.underlying31 info5 rfl rfl rfl (ho'.below hb5) ho5.rd HLj.out (valN_length _ _) (by omega) (by unfold maxLen; omega) hB5.size ?_; intro ao6 cap6 w6 ho6 hb6)
                | (go_at_call 135; refine (value_any _ _ _ (HF.out _ HW.out.v3).1 (HF.out _ HW.out.v3).2).mono ?_; rintro x w5 ⟨ao5, cap5, rfl, ho5, hb5⟩; have hB5 : Below w1.heap.size w1 w5 := below_step hbq hb5)
                | (fail))
              rw [HE.out] at ho6
              go_roundw
              case rel => exact ⟨4, ao6, cap6, by omega, by go_num, rfl, ho6, hB5.trans hb6⟩
              case measure => simp [intOf]
          · obtain rfl : j = 4 := by omega
            go_wp2
            go_ret2
            refine ⟨a', c', ?_, ?_, below_step HB1.out hbq⟩
            · rw [HZ5.out, List.length_append, HLn.out, objsZ_length]; rfl
            · rw [HZ5.out]; exact ho'.mono HB1.out.size
      · have HZ5 : Hid (msgZ M = partZ M k) := by rw [Hid, HPk.out, msgZ, if_neg h5]; simp
        clear tM
        go_wp2
        go_ret2
        refine ⟨a, cc, ?_, ?_, below_step HB1.out hbel⟩
        · rw [HZ5.out, HLn.out]; rfl
        · rw [HZ5.out]; exact ho.mono HB1.out.size

end Go.Proofs.YtpofihiojhbfgaaGreatDoor.Msg

namespace Go.Proofs.YtpofihiojhbfgaaGreatDoor.Msg
open Go.RowKit
set_option linter.unusedVariables false
set_option maxRecDepth 8000

theorem get_two (ao : Option Addr) (cap n m pg ob : Nat) (zs : List Int) (w : World) (hrd : RdI w .u8 ao cap zs) (hn : zs.length = n) (hb : ∀ z ∈ zs, 0 ≤ z ∧ z < 256) (h6 : 6 ≤ n) (hm : n - 6 = m) (hlen : n ≤ 140737488355328) (hp : (pg : Int) = rdN (zs.take 3)) (ho : (ob : Int) = rdN ((zs.drop 3).take 3)) :
    Calls Tryz.prog 82 #[.slice ao n cap, .int .i64 2] w fun e w' => ∃ a1 c1 a2 c2, e = .returned (.tuple #[.slice a1 2 c1, .slice a2 m c2, .int .i64 0]) ∧
      OwnI w' w.heap.size 3 .i64 a1 c1 [(pg : Int), (ob : Int)] ∧ OwnI w' w.heap.size 5 .u8 a2 c2 (zs.drop 6) ∧ Below w.heap.size w w' := by
  subst hm
  refine (get_good ao cap n 2 zs w hrd hn hb (by omega) (by omega) hlen).mono ?_
  rintro e w' ⟨a1, c1, a2, c2, rfl, h1, h2, h3⟩
  rw [get2, ← hp, ← ho] at h1
  exact ⟨a1, c1, a2, c2, rfl, h1, h2, h3⟩

abbrev ptZ : Obj := .cells #[.int .i64 0, .int .i64 0, .complex .f64 0 0] 50

structure PtAt (w : World) (g : Nat) (a b : Int) (x : Nat × Nat) : Prop where
  c0 : w.cell? ⟨g, 0, none⟩ = some (.int .i64 a)
  c1 : w.cell? ⟨g, 1, none⟩ = some (.int .i64 b)
  c2 : w.cell? ⟨g, 2, none⟩ = some (.complex .f64 x.1 x.2)
  fz : ∀ j, w.frozen? ⟨g, j, none⟩ = false
  lt : g < w.heap.size

theorem PtAt.new (w : World) (p : PutG) : PtAt (w.alloc (wputO p)) w.heap.size p.pg p.ob p.c := by
  have h := heap_alloc_new w (wputO p)
  refine ⟨?_, ?_, ?_, fun j => frozen_of_row _ _ _ _ _ h, by simp⟩
  all_goals rw [cell_of_row _ _ _ _ _ _ h]; rfl

theorem PtAt.below {w w' : World} {g : Nat} {a b : Int} {x : Nat × Nat} (h : PtAt w g a b x) (hb : Below w.heap.size w w') : PtAt w' g a b x := by
  have hg := hb.block g h.lt
  exact ⟨(World.cell?_of_block (w := w) hg).trans h.c0, (World.cell?_of_block (w := w) hg).trans h.c1, (World.cell?_of_block (w := w) hg).trans h.c2, fun j => (World.frozen?_of_block (w := w) hg).trans (h.fz j), Nat.lt_of_lt_of_le h.lt hb.size⟩

def Src (w : World) (ao a2 : Option Addr) : Prop := a2 = ao ∨ ∀ y, a2 = some y → w.heap.size ≤ y.block

def PutsR (m : Nat) (zs : List Int) (ao : Option Addr) (w : World) (x : Ending) (w' : World) : Prop :=
  (takeP m zs = none ∧ x = .returned (.tuple #[.slice none 0 0, .slice none 0 0, .int .i64 21]) ∧ Below w.heap.size w w') ∨
  (∃ ps r a c a2 c2, takeP m zs = some (ps, r) ∧ x = .returned (.tuple #[.slice a m c, .slice a2 r.length c2, .int .i64 0]) ∧ OwnR w' w.heap.size a c ps ∧ RdI w' .u8 a2 c2 r ∧ Src w ao a2 ∧ Below w.heap.size w w')

set_option maxHeartbeats 800000 in
theorem takePuts_any (ao : Option Addr) (cap n m : Nat) (zs : List Int) (w : World) (hrd : RdI w .u8 ao cap zs) (hn : zs.length = n) (hb : ∀ z ∈ zs, 0 ≤ z ∧ z < 256) (hm : m ≤ 24) (hlen : n ≤ 140737488355328) :
    Calls Tryz.prog 84 #[.slice ao n cap, .int .i64 m] w (PutsR m zs ao w) := by
  have hst := fun (ad : Addr) (re im : Nat) (W : World) => run_store Tryz.prog W ad (.complex .f64 re im) .plain rfl
  go_enter Tryz.func84, Tryz.ntmps84
  go_wp2
  go_loopw [0, 7, 13] (fun l t i wr => ∃ (k : Nat) (ps : List PutG) (r : List Int) (a a2 : Option Addr) (c c2 : Nat), k ≤ m ∧ i = .int .i64 k ∧ l = .slice a2 r.length c2 ∧ t = .slice a k c ∧ takeP k zs = some (ps, r) ∧ OwnR wr w.heap.size a c ps ∧ RdI wr .u8 a2 c2 r ∧ Src w ao a2 ∧ Below w.heap.size w wr) (fun _ _ i _ => m - (intOf i).toNat)
  case atStart => exact ⟨0, [], zs, none, ao, 0, cap, Nat.zero_le _, rfl, by rw [hn], rfl, rfl, OwnR.nil _ _, hrd, .inl rfl, Below.refl _ _⟩
  case round =>
    obtain ⟨k, ps, r, a, a2, c, c2, hk, rfl, rfl, rfl, htp, ho, hr, hsrc, hbel⟩ := hrel
    have HSRC : Hid (Src w ao a2) := hsrc
    clear hsrc
    obtain ⟨t1, t2, t3, t4⟩ := takeP_some k hb htp
    have hrl : r.length ≤ n := by
      have := congrArg List.length t1
      rw [List.length_append] at this
      omega
    have HT : Hid (takeP k zs = some (ps, r)) := htp
    have HB : Hid (∀ z ∈ r, 0 ≤ z ∧ z < 256) := t4
    have HL : Hid (ps.length = k) := t2
    clear t1 t3 t4 htp hrd t2
    by_cases hlt : k < m
    · by_cases h6 : 6 ≤ r.length
      · obtain ⟨pg, ob, hpg, hob⟩ : ∃ pg ob : Nat, (pg : Int) = rdN (r.take 3) ∧ (ob : Int) = rdN ((r.drop 3).take 3) := by
          have q0 := (part3_bd r 0 HB.out).1
          have q1 := (part3_bd r 3 HB.out).1
          simp only [List.drop_zero] at q0
          exact ⟨(rdN (r.take 3)).toNat, (rdN ((r.drop 3).take 3)).toNat, by omega, by omega⟩
        have HP : Hid ((pg : Int) = rdN (r.take 3) ∧ (ob : Int) = rdN ((r.drop 3).take 3)) := ⟨hpg, hob⟩
        have HPN : Hid ((rdN (r.take 3)).toNat = pg ∧ (rdN ((r.drop 3).take 3)).toNat = ob) := ⟨by omega, by omega⟩
        have HD : Hid (∀ z ∈ r.drop 6, 0 ≤ z ∧ z < 256) := fun z hz => HB.out z (List.mem_of_mem_drop hz)
        have HDL : Hid ((r.drop 6).length = r.length - 6) := by simp [Hid]
        clear hpg hob
        cases hv : val1 (r.drop 6) with
        | none =>
          have HN : Hid (takeP m zs = none) := by
            refine takeP_more (k := k + 1) ?_ m (by omega)
            simp only [takeP, HT.out, put1, if_pos h6, hv]
          have HV : Hid (val1 (r.drop 6) = none) := hv
          clear hv
          go_upto_region 7 with (first
            | (go_at_call 82; refine (get_two _ _ _ (r.length - 6) pg ob r _ hr rfl HB.out h6 rfl (by omega) HP.out.1 HP.out.2).mono ?_; rintro x w1 ⟨a1, c1, a3, c3, rfl, ho1, ho3, hb1⟩; obtain ⟨b1, f1, rfl, hlt1, hc⟩ := ho1.rd.at (t := 0) (by simp); have p0 := hc 0 (by simp); have p1 := hc 1 (by simp); simp only [List.getElem_cons_zero, List.getElem_cons_succ, Nat.add_zero] at p0 p1; have p2 := ((below_box w1 ptZ).cell (p := ⟨b1, f1, none⟩) hlt1).trans p0; have p3 := ((below_box w1 ptZ).cell (p := ⟨b1, f1 + 1, none⟩) hlt1).trans p1; clear hc ho1 hlt1)
            | (fail))
          go_region
          go_wp2_with (first
            | (go_at_call 118; refine (take_none _ _ _ (r.drop 6) _ ((ho3.rd.alloc (wputO ⟨pg, ob, (0, 0)⟩)).drew) HDL.out HD.out (by omega) HV.out).mono ?_; rintro x w2 ⟨rfl, hb2⟩; have hb3 : Below (w1.alloc (wputO ⟨pg, ob, (0, 0)⟩)).heap.size (w1.alloc (wputO ⟨pg, ob, (0, 0)⟩)) w2 := ⟨hb2.os, hb2.tape, hb2.output, hb2.size, hb2.block⟩; have hq := (PtAt.new w1 ⟨pg, ob, (0, 0)⟩).below hb3; have z2 := hq.c2; have y2 := hq.fz 2; clear hq hb2)
            | (fail))
          go_ret3
          exact .inl ⟨HN.out, rfl, (below_step (below_step hbel hb1) (below_alloc (hb3.mono (by simp)))).setCell (show w.heap.size ≤ w1.heap.size by have := hbel.size; have := hb1.size; omega) _⟩
        | some y =>
          obtain ⟨cc, s⟩ := y
          have HV : Hid (val1 (r.drop 6) = some (cc, s)) := hv
          have HS : Hid (takeP (k + 1) zs = some (ps ++ [⟨pg, ob, cc⟩], s)) := by
            have e := HPN.out
            simp only [Hid, takeP, HT.out, put1, if_pos h6, hv, e.1, e.2]
          have HSL : Hid (s.length ≤ r.length) := by
            have := congrArg List.length (val1_some HD.out hv).1
            rw [List.length_append, List.length_drop] at this
            show s.length ≤ r.length
            omega
          clear hv
          have HBL : Hid (∀ y, a = some y → w.heap.size ≤ y.block ∧ y.block < wr.heap.size) := ho.blk
          go_upto_region 7 with (first
            | (go_at_call 82; refine (get_two _ _ _ (r.length - 6) pg ob r _ hr rfl HB.out h6 rfl (by omega) HP.out.1 HP.out.2).mono ?_; rintro x w1 ⟨a1, c1, a3, c3, rfl, ho1, ho3, hb1⟩; obtain ⟨b1, f1, rfl, hlt1, hc⟩ := ho1.rd.at (t := 0) (by simp); have p0 := hc 0 (by simp); have p1 := hc 1 (by simp); simp only [List.getElem_cons_zero, List.getElem_cons_succ, Nat.add_zero] at p0 p1; have p2 := ((below_box w1 ptZ).cell (p := ⟨b1, f1, none⟩) hlt1).trans p0; have p3 := ((below_box w1 ptZ).cell (p := ⟨b1, f1 + 1, none⟩) hlt1).trans p1; clear hc ho1 hlt1)
            | (fail))
          go_region
          go_wp2_with (first
            | (at_builtin; refine wpList_append_put _ rfl _ _ rfl w.heap.size a k c ps ⟨pg, ob, cc⟩ (w2.setCell ⟨w1.heap.size, 2, none⟩ (.complex .f64 cc.1 cc.2)) rfl w2.heap.size (by simp [World.setCell]) rfl rfl ho4 HL.out (by omega) hs4 ?_; intro ao5 cap5 w5 ho5 hg5)
            | (go_at_call 118; refine (take_some _ _ _ s.length (r.drop 6) s cc _ ((ho3.rd.alloc (wputO ⟨pg, ob, (0, 0)⟩)).drew) HDL.out HD.out (by omega) HV.out rfl).mono ?_; rintro x w2 ⟨a4, c4, rfl, hs2, hb2⟩; have hb3 : Below (w1.alloc (wputO ⟨pg, ob, (0, 0)⟩)).heap.size (w1.alloc (wputO ⟨pg, ob, (0, 0)⟩)) w2 := ⟨hb2.os, hb2.tape, hb2.output, hb2.size, hb2.block⟩; have hq := (PtAt.new w1 ⟨pg, ob, (0, 0)⟩).below hb3; have z0 := hq.c0; have z1 := hq.c1; have z2 := hq.c2; have y2 := hq.fz 2; have hW3 : Below wr.heap.size wr (w2.setCell ⟨w1.heap.size, 2, none⟩ (.complex .f64 cc.1 cc.2)) := (below_step hb1 (below_alloc (hb3.mono (by simp)))).setCell (show wr.heap.size ≤ w1.heap.size from hb1.size) _; have ho4 := (ho.below hW3).below (below_box _ (wputO ⟨pg, ob, cc⟩)); have hB4 : Below w.heap.size w ((w2.setCell ⟨w1.heap.size, 2, none⟩ (.complex .f64 cc.1 cc.2)).alloc (wputO ⟨pg, ob, cc⟩)) := below_step (below_step hbel hW3) (below_box _ _); have hs4 := hB4.size; have hs3 := (hs2.other ⟨w1.heap.size, 2, none⟩ (.complex .f64 cc.1 cc.2) (by simp)).alloc (wputO ⟨pg, ob, cc⟩); clear hq hb2 hs2)
            | (fail))
          have hs5 := hs3.keep fun y hy => grown_block hg5 (hs3.blk y hy).2 fun z hz => by
            have h1 := (HBL.out z hz).2
            have h2 := (hs3.blk y hy).1
            have h3 := hb1.size
            simp at h2
            omega
          have hB5 := hB4.trans (grown_below hg5 (fun y hy => (HBL.out y hy).1) hs4)
          go_roundw
          case rel => exact ⟨k + 1, _, s, ao5, a4, cap5, c4, by omega, by go_num, rfl, rfl, HS.out, ho5, hs5.rd, .inr fun y hy => (by have h1 := (hs5.blk y hy).1; have h2 := hb1.size; have h3 := hbel.size; simp at h1; omega), hB5⟩
          case measure => simp [intOf]; omega
      · have HN : Hid (takeP m zs = none) := by
          refine takeP_more (k := k + 1) ?_ m (by omega)
          simp only [takeP, HT.out, put1, if_neg h6]
        go_wp2_with (first
          | (go_at_call 82; refine (get_bad _ _ _ _ _ (by omega) (by omega)).mono ?_; rintro x w1 ⟨rfl, hw⟩; subst w1))
        go_ret3
        exact .inl ⟨HN.out, rfl, hbel⟩
    · obtain rfl : k = m := by omega
      go_wp2
      go_ret3
      exact .inr ⟨ps, r, a, c, a2, c2, HT.out, rfl, ho, hr, HSRC.out, hbel⟩

end Go.Proofs.YtpofihiojhbfgaaGreatDoor.Msg

namespace Go.Proofs.YtpofihiojhbfgaaGreatDoor.Msg
open Go.RowKit
set_option linter.unusedVariables false
set_option maxRecDepth 8000

def nAt (zs : List Int) (i : Nat) : Int := rdN ((zs.drop (3 * i)).take 3)

theorem get8 (zs : List Int) : getN zs 8 = [nAt zs 0, nAt zs 1, nAt zs 2, nAt zs 3, nAt zs 4, nAt zs 5, nAt zs 6, nAt zs 7] := by simp [getN, List.range_succ, nAt]

def fin (M : Mg) (r : List Int) : Option Mg := if r.length = 0 ∧ rightB M = true then some M else none

def mg0 (zs : List Int) (ps : List PutG) : Mg := ⟨nAt zs 0, nAt zs 1, nAt zs 2, nAt zs 3, nAt zs 4, nAt zs 5, nAt zs 6 == 1, ps, z2, z2, z2, z2⟩

def withV (M : Mg) (v : List (Nat × Nat)) : Mg := ⟨M.k, M.p, M.o, M.t, M.c, M.n, M.wr, M.ps, v.getD 0 z2, v.getD 1 z2, v.getD 2 z2, v.getD 3 z2⟩

def parse (zs : List Int) : Option Mg :=
  if zs.length < 24 then none
  else if isFlg (nAt zs 6) = false then none
  else if 24 < nAt zs 7 then none
  else match takeP (nAt zs 7).toNat (zs.drop 24) with
    | none => none
    | some (ps, r) =>
      if nAt zs 0 = 5 then match takeV 4 r with
        | none => none
        | some (v, s) => fin (withV (mg0 zs ps) v) s
      else fin (mg0 zs ps) r

abbrev mgZ : Mg := ⟨0, 0, 0, 0, 0, 0, false, [], z2, z2, z2, z2⟩

theorem get_eight (ao : Option Addr) (cap n m : Nat) (zs : List Int) (w : World) (hrd : RdI w .u8 ao cap zs) (hn : zs.length = n) (hb : ∀ z ∈ zs, 0 ≤ z ∧ z < 256) (h6 : 24 ≤ n) (hm : n - 24 = m) (hlen : n ≤ 140737488355328) :
    Calls Tryz.prog 82 #[.slice ao n cap, .int .i64 8] w fun e w' => ∃ b f c1 a2 c2, e = .returned (.tuple #[.slice (some ⟨b, f, none⟩) 8 c1, .slice a2 m c2, .int .i64 0]) ∧
      (w.heap.size ≤ b ∧ b < w'.heap.size) ∧ w'.cell? ⟨b, f, none⟩ = some (.int .i64 (nAt zs 0)) ∧ w'.cell? ⟨b, f + 1, none⟩ = some (.int .i64 (nAt zs 1)) ∧ w'.cell? ⟨b, f + 2, none⟩ = some (.int .i64 (nAt zs 2)) ∧ w'.cell? ⟨b, f + 3, none⟩ = some (.int .i64 (nAt zs 3)) ∧ w'.cell? ⟨b, f + 4, none⟩ = some (.int .i64 (nAt zs 4)) ∧ w'.cell? ⟨b, f + 5, none⟩ = some (.int .i64 (nAt zs 5)) ∧ w'.cell? ⟨b, f + 6, none⟩ = some (.int .i64 (nAt zs 6)) ∧ w'.cell? ⟨b, f + 7, none⟩ = some (.int .i64 (nAt zs 7)) ∧
      OwnI w' w.heap.size 5 .u8 a2 c2 (zs.drop 24) ∧ Below w.heap.size w w' := by
  subst hm
  refine (get_good ao cap n 8 zs w hrd hn hb (by omega) (by omega) hlen).mono ?_
  rintro e w' ⟨a1, c1, a2, c2, rfl, h1, h2, h3⟩
  rw [get8] at h1
  obtain ⟨b, f, rfl, hlt, hc⟩ := h1.rd.at (t := 0) (by simp)
  exact ⟨b, f, c1, a2, c2, rfl, ⟨(h1.blk _ rfl).1, hlt⟩, hc 0 (by simp), hc 1 (by simp), hc 2 (by simp), hc 3 (by simp), hc 4 (by simp), hc 5 (by simp), hc 6 (by simp), hc 7 (by simp), h2, h3⟩

end Go.Proofs.YtpofihiojhbfgaaGreatDoor.Msg

namespace Go.Proofs.YtpofihiojhbfgaaGreatDoor.Msg
open Go.RowKit
set_option linter.unusedVariables false
set_option maxRecDepth 8000

theorem MgAt.put7 {w : World} {g : Nat} {M : Mg} {ao : Option Addr} {n cap : Nat} (h : MgAt w g M ao n cap) (a' : Option Addr) (n' c' : Nat) (ps : List PutG) : MgAt (w.setCell ⟨g, 7, none⟩ (.slice a' n' c')) g ⟨M.k, M.p, M.o, M.t, M.c, M.n, M.wr, ps, M.v0, M.v1, M.v2, M.v3⟩ a' n' c' := by
  refine ⟨?_, ?_, ?_, ?_, ?_, ?_, ?_, ?_, ?_, ?_, ?_, ?_, fun j => by simp only [World.frozen?_setCell]; exact h.fz j, by simpa [World.setCell] using h.lt⟩
  case refine_8 => exact World.cell?_setCell_same _ _ _ h.c7
  all_goals rw [put_other _ _ _ _ _ (by decide)]
  all_goals first | exact h.c0 | exact h.c1 | exact h.c2 | exact h.c3 | exact h.c4 | exact h.c5 | exact h.c6 | exact h.c8 | exact h.c9 | exact h.cA | exact h.cB

theorem MgAt.other {w : World} {g : Nat} {M : Mg} {ao : Option Addr} {n cap : Nat} (h : MgAt w g M ao n cap) (p : Addr) (v : Value) (hne : g ≠ p.block) : MgAt (w.setCell p v) g M ao n cap :=
  h.keep (Below.heap_setCell _ _ _ _ hne) (by simp [World.setCell])

theorem OwnR.off {w w' : World} {base : Nat} {ao : Option Addr} {cap : Nat} {ps : List PutG} (h : OwnR w base ao cap ps) (hb : ∀ g, base ≤ g → w'.heap[g]? = w.heap[g]?) : OwnR w' base ao cap ps := h.keep fun a ha => hb _ (h.blk a ha).1

theorem OwnR.rdn {w : World} {base : Nat} {ao : Option Addr} {cap n : Nat} {ps : List PutG} (h : OwnR w base ao cap ps) (hn : ps.length = n) : RdP w ao n cap ps := by subst hn; exact h.rd

end Go.Proofs.YtpofihiojhbfgaaGreatDoor.Msg

namespace Go.Proofs.YtpofihiojhbfgaaGreatDoor.Msg
open Go.RowKit
set_option linter.unusedVariables false
set_option maxRecDepth 8000

end Go.Proofs.YtpofihiojhbfgaaGreatDoor.Msg

namespace Go.Proofs.YtpofihiojhbfgaaGreatDoor.Msg
open Go.RowKit
set_option linter.unusedVariables false
set_option maxRecDepth 8000

def ReadN (zs : List Int) (ps : List PutG) (q : Nat) (w : World) (x : Ending) (w' : World) : Prop :=
  ∃ a' c', x = .returned (.tuple #[msV (mg0 zs ps) a' q c', .int .i64 0]) ∧ RdP w' a' q c' ps ∧ (∀ y, a' = some y → w.heap.size ≤ y.block) ∧ Below w.heap.size w w'

set_option maxHeartbeats 1600000 in
set_option maxRecDepth 100000 in
theorem read_new (ao : Option Addr) (cap n q : Nat) (zs : List Int) (w : World) (hrd : RdI w .u8 ao cap zs) (hn : zs.length = n) (hb : ∀ z ∈ zs, 0 ≤ z ∧ z < 256) (h24 : 24 ≤ n) (hlen : n ≤ 140737488355328) (hf : isFlg (nAt zs 6) = true) (hq : nAt zs 7 = (q : Int)) (h7 : (q : Int) ≤ 24) (ps : List PutG) (r : List Int) (hT : takeP q (zs.drop 24) = some (ps, r)) (hk : ¬ nAt zs 0 = 5) (hr : r.length = 0) (hR : rightB (mg0 zs ps) = true) :
    Calls Tryz.prog 48 #[.slice ao n cap] w (ReadN zs ps q w) := by
  have hst := fun (ad : Addr) (re im : Nat) (W : World) => run_store Tryz.prog W ad (.complex .f64 re im) .plain rfl
  have hr0 := hrd.alloc (msO mgZ none 0 0)
  have hM0 := MgAt.new w mgZ none 0 0
  have HB : Hid (∀ z ∈ zs, 0 ≤ z ∧ z < 256) := hb
  have HBD : Hid (∀ z ∈ zs.drop 24, 0 ≤ z ∧ z < 256) := fun z hz => hb z (List.mem_of_mem_drop hz)
  have HDL : Hid ((zs.drop 24).length = n - 24) := by simp [Hid, hn]
  have HQ : Hid (nAt zs 7 = (q : Int)) := hq
  have HPa : Hid (parse zs = match takeP q (zs.drop 24) with
    | none => none
    | some (ps, r) =>
      if nAt zs 0 = 5 then match takeV 4 r with
        | none => none
        | some (v, s) => fin (withV (mg0 zs ps) v) s
      else fin (mg0 zs ps) r) := by
    have e7 : ¬ 24 < nAt zs 7 := by omega
    rw [Hid, parse, if_neg (by omega), if_neg (by rw [hf]; simp), if_neg e7, hq]; rfl
  clear hb hrd hq
  have HT : Hid (takeP q (zs.drop 24) = some (ps, r)) := hT
  have HPL : Hid (ps.length = q) := (takeP_some q HBD.out hT).2.1
  rw [hT] at HPa
  have HPb : Hid (parse zs = fin (mg0 zs ps) r) := by rw [Hid, HPa.out]; simp only [if_neg hk]
  have hk5 : (nAt zs 0 == 5) = false := by simpa using hk
  clear hT hk HPa
  have HPn : Hid (parse zs = some (mg0 zs ps)) := by rw [Hid, HPb.out, fin, if_pos ⟨hr, hR⟩]
  go_enter Tryz.func48, Tryz.ntmps48
  go_upto_region 4 with (first
    | (go_at_call 82; refine (get_eight _ _ _ (n - 24) zs _ hr0 hn HB.out h24 rfl hlen).mono ?_; rintro x w1 ⟨b, f, c1, a2, c2, rfl, hbl, p0, p1, p2, p3, p4, p5, p6, p7, ho, hb1⟩; rw [HQ.out] at p7; have s7 : (w1.alloc (.cells #[.int .i64 (nAt zs 0), .int .i64 (nAt zs 1), .int .i64 (nAt zs 2), .int .i64 (nAt zs 3), .int .i64 (nAt zs 4), .int .i64 (nAt zs 5), .bool (nAt zs 6 == 1), .slice none 0 0, .complex .f64 0 0, .complex .f64 0 0, .complex .f64 0 0, .complex .f64 0 0] 47)).drew.cell? ⟨b, f + 7, none⟩ = some (.int .i64 (q : Int)) := ((below_box w1 (.cells #[.int .i64 (nAt zs 0), .int .i64 (nAt zs 1), .int .i64 (nAt zs 2), .int .i64 (nAt zs 3), .int .i64 (nAt zs 4), .int .i64 (nAt zs 5), .bool (nAt zs 6 == 1), .slice none 0 0, .complex .f64 0 0, .complex .f64 0 0, .complex .f64 0 0, .complex .f64 0 0] 47)).cell (p := ⟨b, f + 7, none⟩) hbl.2).trans p7; have HMZ : Hid (MgAt (w1.alloc (.cells #[.int .i64 (nAt zs 0), .int .i64 (nAt zs 1), .int .i64 (nAt zs 2), .int .i64 (nAt zs 3), .int .i64 (nAt zs 4), .int .i64 (nAt zs 5), .bool (nAt zs 6 == 1), .slice none 0 0, .complex .f64 0 0, .complex .f64 0 0, .complex .f64 0 0, .complex .f64 0 0] 47)).drew w.heap.size mgZ none 0 0) := ((hM0.below hb1).below (below_box w1 (.cells #[.int .i64 (nAt zs 0), .int .i64 (nAt zs 1), .int .i64 (nAt zs 2), .int .i64 (nAt zs 3), .int .i64 (nAt zs 4), .int .i64 (nAt zs 5), .bool (nAt zs 6 == 1), .slice none 0 0, .complex .f64 0 0, .complex .f64 0 0, .complex .f64 0 0, .complex .f64 0 0] 47))).below (Below.refl _ _).drew; have HM : Hid (MgAt (w1.alloc (.cells #[.int .i64 (nAt zs 0), .int .i64 (nAt zs 1), .int .i64 (nAt zs 2), .int .i64 (nAt zs 3), .int .i64 (nAt zs 4), .int .i64 (nAt zs 5), .bool (nAt zs 6 == 1), .slice none 0 0, .complex .f64 0 0, .complex .f64 0 0, .complex .f64 0 0, .complex .f64 0 0] 47)).drew w1.heap.size (mg0 zs []) none 0 0) := (MgAt.new w1 (mg0 zs []) none 0 0).below (Below.refl _ _).drew; have HB1 : Hid (Below w.heap.size w (w1.alloc (.cells #[.int .i64 (nAt zs 0), .int .i64 (nAt zs 1), .int .i64 (nAt zs 2), .int .i64 (nAt zs 3), .int .i64 (nAt zs 4), .int .i64 (nAt zs 5), .bool (nAt zs 6 == 1), .slice none 0 0, .complex .f64 0 0, .complex .f64 0 0, .complex .f64 0 0, .complex .f64 0 0] 47)).drew) := (below_step (below_alloc (hb1.mono (by simp))) (below_box _ _)).drew; have HG : Hid (w.heap.size < w1.heap.size) := (hM0.below hb1).lt; have HO : Hid (RdI (w1.alloc (.cells #[.int .i64 (nAt zs 0), .int .i64 (nAt zs 1), .int .i64 (nAt zs 2), .int .i64 (nAt zs 3), .int .i64 (nAt zs 4), .int .i64 (nAt zs 5), .bool (nAt zs 6 == 1), .slice none 0 0, .complex .f64 0 0, .complex .f64 0 0, .complex .f64 0 0, .complex .f64 0 0] 47)).drew .u8 a2 c2 (zs.drop 24)) := (ho.rd.alloc _).drew; have HOB : Hid (∀ y, a2 = some y → y.block < w1.heap.size) := fun y hy => (ho.blk y hy).2; clear hb1 ho)
    | (go_at_call 83; refine (isFlag_any _ _).mono ?_; rw [hf]; rintro x w0 ⟨rfl, hw⟩; subst w0)
    | (fail))
  have HS : Hid (∀ W, Below w1.heap.size w1 W → (W.cell? ⟨b, f, none⟩ = some (.int .i64 (nAt zs 0)) ∧ W.cell? ⟨b, f + 1, none⟩ = some (.int .i64 (nAt zs 1)) ∧ W.cell? ⟨b, f + 2, none⟩ = some (.int .i64 (nAt zs 2)) ∧ W.cell? ⟨b, f + 3, none⟩ = some (.int .i64 (nAt zs 3)) ∧ W.cell? ⟨b, f + 4, none⟩ = some (.int .i64 (nAt zs 4)) ∧ W.cell? ⟨b, f + 5, none⟩ = some (.int .i64 (nAt zs 5)) ∧ W.cell? ⟨b, f + 6, none⟩ = some (.int .i64 (nAt zs 6)))) := fun W hW => ⟨(hW.cell (p := ⟨b, f, none⟩) hbl.2).trans p0, (hW.cell (p := ⟨b, f + 1, none⟩) hbl.2).trans p1, (hW.cell (p := ⟨b, f + 2, none⟩) hbl.2).trans p2, (hW.cell (p := ⟨b, f + 3, none⟩) hbl.2).trans p3, (hW.cell (p := ⟨b, f + 4, none⟩) hbl.2).trans p4, (hW.cell (p := ⟨b, f + 5, none⟩) hbl.2).trans p5, (hW.cell (p := ⟨b, f + 6, none⟩) hbl.2).trans p6⟩
  clear p0 p1 p2 p3 p4 p5 p6 p7
  first
    | go_region_held (fun W => W.cell? ⟨b, f, none⟩ = some (.int .i64 (nAt zs 0)) ∧ W.cell? ⟨b, f + 1, none⟩ = some (.int .i64 (nAt zs 1)) ∧ W.cell? ⟨b, f + 2, none⟩ = some (.int .i64 (nAt zs 2)) ∧ W.cell? ⟨b, f + 3, none⟩ = some (.int .i64 (nAt zs 3)) ∧ W.cell? ⟨b, f + 4, none⟩ = some (.int .i64 (nAt zs 4)) ∧ W.cell? ⟨b, f + 5, none⟩ = some (.int .i64 (nAt zs 5)) ∧ W.cell? ⟨b, f + 6, none⟩ = some (.int .i64 (nAt zs 6)))
      (first | exact HS.out _ (Below.refl _ _) | exact HS.out _ (Below.refl _ _).drew | exact HS.out _ ((Below.refl _ _).drew.alloc (Nat.le_refl _) _) | exact HS.out _ ((Below.refl _ _).alloc (Nat.le_refl _) _).drew | fail)
      (fail)
    | fail
  clear HS hbl
  generalize (w1.alloc (.cells #[.int .i64 (nAt zs 0), .int .i64 (nAt zs 1), .int .i64 (nAt zs 2), .int .i64 (nAt zs 3), .int .i64 (nAt zs 4), .int .i64 (nAt zs 5), .bool (nAt zs 6 == 1), .slice none 0 0, .complex .f64 0 0, .complex .f64 0 0, .complex .f64 0 0, .complex .f64 0 0] 47)).drew = W1 at *
  generalize w1.heap.size = g at *
  have hgW : g < W1.heap.size := HM.out.lt
  go_wp2_with (first
    | (go_at_call 86; refine (right_any (mg0 zs ps) a q c _ HRP.out (by omega)).mono ?_; rw [hR]; rintro x w4 ⟨rfl, hb4⟩; have tM4 := TM3.out.below hb4; have tZ4 := TZ3.out.below hb4; clear q0 q1 q2 q3 q4 q5 q6 q7 q8 q9 q10 q11 z0 z1 z2 z3 z4 z5 z6 z7 z8 z9 z10 z11 y yz; have q0 : w4.cell? ⟨g, 0, none⟩ = some (.int .i64 (nAt zs 0)) := tM4.c0; have q1 : w4.cell? ⟨g, 1, none⟩ = some (.int .i64 (nAt zs 1)) := tM4.c1; have q2 : w4.cell? ⟨g, 2, none⟩ = some (.int .i64 (nAt zs 2)) := tM4.c2; have q3 : w4.cell? ⟨g, 3, none⟩ = some (.int .i64 (nAt zs 3)) := tM4.c3; have q4 : w4.cell? ⟨g, 4, none⟩ = some (.int .i64 (nAt zs 4)) := tM4.c4; have q5 : w4.cell? ⟨g, 5, none⟩ = some (.int .i64 (nAt zs 5)) := tM4.c5; have q6 : w4.cell? ⟨g, 6, none⟩ = some (.bool (nAt zs 6 == 1)) := tM4.c6; have q7 : w4.cell? ⟨g, 7, none⟩ = some (.slice a q c) := tM4.c7; have q8 : w4.cell? ⟨g, 8, none⟩ = some (.complex .f64 0 0) := tM4.c8; have q9 : w4.cell? ⟨g, 9, none⟩ = some (.complex .f64 0 0) := tM4.c9; have q10 : w4.cell? ⟨g, 10, none⟩ = some (.complex .f64 0 0) := tM4.cA; have q11 : w4.cell? ⟨g, 11, none⟩ = some (.complex .f64 0 0) := tM4.cB; have y := tM4.fz; have z0 : w4.cell? ⟨w.heap.size, 0, none⟩ = some (.int .i64 0) := tZ4.c0; have z1 : w4.cell? ⟨w.heap.size, 1, none⟩ = some (.int .i64 0) := tZ4.c1; have z2 : w4.cell? ⟨w.heap.size, 2, none⟩ = some (.int .i64 0) := tZ4.c2; have z3 : w4.cell? ⟨w.heap.size, 3, none⟩ = some (.int .i64 0) := tZ4.c3; have z4 : w4.cell? ⟨w.heap.size, 4, none⟩ = some (.int .i64 0) := tZ4.c4; have z5 : w4.cell? ⟨w.heap.size, 5, none⟩ = some (.int .i64 0) := tZ4.c5; have z6 : w4.cell? ⟨w.heap.size, 6, none⟩ = some (.bool false) := tZ4.c6; have z7 : w4.cell? ⟨w.heap.size, 7, none⟩ = some (.slice none 0 0) := tZ4.c7; have z8 : w4.cell? ⟨w.heap.size, 8, none⟩ = some (.complex .f64 0 0) := tZ4.c8; have z9 : w4.cell? ⟨w.heap.size, 9, none⟩ = some (.complex .f64 0 0) := tZ4.c9; have z10 : w4.cell? ⟨w.heap.size, 10, none⟩ = some (.complex .f64 0 0) := tZ4.cA; have z11 : w4.cell? ⟨w.heap.size, 11, none⟩ = some (.complex .f64 0 0) := tZ4.cB; have yz := tZ4.fz; have hB4 : Below w.heap.size w w4 := below_step HB3.out hb4; clear tM4 tZ4)
    | (go_at_call 84; refine (takePuts_any a2 c2 (n - 24) q (zs.drop 24) W1 HO.out HDL.out HBD.out (by omega) (by omega)).mono ?_; intro x w2 hP; have hP2 : ∃ a c a3 c3, x = .returned (.tuple #[.slice a q c, .slice a3 r.length c3, .int .i64 0]) ∧ OwnR w2 W1.heap.size a c ps ∧ RdI w2 .u8 a3 c3 r ∧ Src W1 a2 a3 ∧ Below W1.heap.size W1 w2 := (by rcases hP with ⟨e, -⟩ | ⟨ps', r', a, c, a3, c3, e, h1, h2, h3, h4, h5⟩; (rw [HT.out] at e; cases e); (rw [HT.out] at e; cases e; exact ⟨a, c, a3, c3, h1, h2, h3, h4, h5⟩)); obtain ⟨a, c, a3, c3, rfl, hoP, hrL, hsrc, hb2⟩ := hP2; have tM := HM.out.below hb2; have tZ := HMZ.out.below hb2; have q0 : w2.cell? ⟨g, 0, none⟩ = some (.int .i64 (nAt zs 0)) := tM.c0; have q1 : w2.cell? ⟨g, 1, none⟩ = some (.int .i64 (nAt zs 1)) := tM.c1; have q2 : w2.cell? ⟨g, 2, none⟩ = some (.int .i64 (nAt zs 2)) := tM.c2; have q3 : w2.cell? ⟨g, 3, none⟩ = some (.int .i64 (nAt zs 3)) := tM.c3; have q4 : w2.cell? ⟨g, 4, none⟩ = some (.int .i64 (nAt zs 4)) := tM.c4; have q5 : w2.cell? ⟨g, 5, none⟩ = some (.int .i64 (nAt zs 5)) := tM.c5; have q6 : w2.cell? ⟨g, 6, none⟩ = some (.bool (nAt zs 6 == 1)) := tM.c6; have q7 : w2.cell? ⟨g, 7, none⟩ = some (.slice none 0 0) := tM.c7; have q8 : w2.cell? ⟨g, 8, none⟩ = some (.complex .f64 0 0) := tM.c8; have q9 : w2.cell? ⟨g, 9, none⟩ = some (.complex .f64 0 0) := tM.c9; have q10 : w2.cell? ⟨g, 10, none⟩ = some (.complex .f64 0 0) := tM.cA; have q11 : w2.cell? ⟨g, 11, none⟩ = some (.complex .f64 0 0) := tM.cB; have y := tM.fz; have z0 : w2.cell? ⟨w.heap.size, 0, none⟩ = some (.int .i64 0) := tZ.c0; have z1 : w2.cell? ⟨w.heap.size, 1, none⟩ = some (.int .i64 0) := tZ.c1; have z2 : w2.cell? ⟨w.heap.size, 2, none⟩ = some (.int .i64 0) := tZ.c2; have z3 : w2.cell? ⟨w.heap.size, 3, none⟩ = some (.int .i64 0) := tZ.c3; have z4 : w2.cell? ⟨w.heap.size, 4, none⟩ = some (.int .i64 0) := tZ.c4; have z5 : w2.cell? ⟨w.heap.size, 5, none⟩ = some (.int .i64 0) := tZ.c5; have z6 : w2.cell? ⟨w.heap.size, 6, none⟩ = some (.bool false) := tZ.c6; have z7 : w2.cell? ⟨w.heap.size, 7, none⟩ = some (.slice none 0 0) := tZ.c7; have z8 : w2.cell? ⟨w.heap.size, 8, none⟩ = some (.complex .f64 0 0) := tZ.c8; have z9 : w2.cell? ⟨w.heap.size, 9, none⟩ = some (.complex .f64 0 0) := tZ.c9; have z10 : w2.cell? ⟨w.heap.size, 10, none⟩ = some (.complex .f64 0 0) := tZ.cA; have z11 : w2.cell? ⟨w.heap.size, 11, none⟩ = some (.complex .f64 0 0) := tZ.cB; have yz := tZ.fz; have hB2 : Below w.heap.size w w2 := below_step HB1.out hb2; have hgn : g ≠ w.heap.size := (by have := HG.out; omega); have HTM : Hid (MgAt w2 g (mg0 zs []) none 0 0) := tM; have HTZ : Hid (MgAt w2 w.heap.size mgZ none 0 0) := tZ; have HRL : Hid (RdI w2 .u8 a3 c3 r) := hrL; have HSR : Hid (Src W1 a2 a3) := hsrc; have HOP : Hid (OwnR w2 W1.heap.size a c ps) := hoP; clear tM tZ hP hrL hsrc hoP; have HRP : Hid (RdP (w2.setCell ⟨g, 7, none⟩ (.slice a q c)) a q c ps) := (HOP.out.off (fun j hj => Below.heap_setCell _ _ _ _ (show j ≠ g by omega))).rdn HPL.out; have HOP3 : Hid (OwnR (w2.setCell ⟨g, 7, none⟩ (.slice a q c)) W1.heap.size a c ps) := HOP.out.off (fun j hj => Below.heap_setCell _ _ _ _ (show j ≠ g by omega)); have TM3 : Hid (MgAt (w2.setCell ⟨g, 7, none⟩ (.slice a q c)) g (mg0 zs ps) a q c) := HTM.out.put7 a q c ps; have TZ3 : Hid (MgAt (w2.setCell ⟨g, 7, none⟩ (.slice a q c)) w.heap.size mgZ none 0 0) := HTZ.out.other _ _ (by simp; omega); have HB3 : Hid (Below w.heap.size w (w2.setCell ⟨g, 7, none⟩ (.slice a q c))) := hB2.setCell (Nat.le_of_lt HG.out) _)
    | (fail))
  refine bodyPost_ret (by simp [results, Tryz.results48, go_sem, z0, z1, z2, z3, z4, z5, z6, z7, z8, z9, z10, z11]; try rfl) rfl ?_
  have le := Nat.le_refl w.heap.size
  refine ⟨a, c, rfl, ?_, fun y hy => ?_, ((((((((((((hB4.setCell le _).setCell le _).setCell le _).setCell le _).setCell le _).setCell le _).setCell le _).setCell le _).setCell le _).setCell le _).setCell le _).setCell le _)⟩
  · exact ((HOP3.out.below hb4).off (fun j hj => by
      have hne : j ≠ w.heap.size := by have := HG.out; omega
      simp only [Below.heap_setCell _ _ _ _ (show j ≠ (⟨w.heap.size, _, none⟩ : Addr).block from hne)])).rdn HPL.out
  · have h1 := (HOP3.out.blk y hy).1
    have h2 := HG.out
    omega

end Go.Proofs.YtpofihiojhbfgaaGreatDoor.Msg
