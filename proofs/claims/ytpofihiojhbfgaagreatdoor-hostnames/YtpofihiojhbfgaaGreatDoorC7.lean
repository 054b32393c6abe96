/- The calls as a list and as a map: which list goes with which map. Of no walk. A desk: what is sent, what it does as mathematics, and how it lies in memory. Each call of its table and of its queue as one contract. New, has, holdersFor, othersWait, Wants of package desk, walked. -/
import Derived.Test.YtpofihiojhbfgaaGreatDoorC4
import Derived.Test.YtpofihiojhbfgaaGreatDoorC5
import Derived.Test.YtpofihiojhbfgaaGreatDoorC6
namespace Go.Proofs.YtpofihiojhbfgaaGreatDoor.Dsk
open Go.RowKit Go.Maps
set_option linter.unusedVariables false
set_option maxRecDepth 8000

structure Ck where
  k : Wt
  u : Bool

def rtB (x : Wt) : Bool := cliB x.c && objB x.p x.o

def keB (a b : Wt) : Bool := a.c == b.c && (a.p == b.p && (a.o == b.o && a.wr == b.wr))

theorem keB_true {a b : Wt} : keB a b = true ↔ a = b := by
  unfold keB
  simp only [Bool.and_eq_true, beq_iff_eq]
  exact wt_eq

def fdN (K : List Ck) (k : Wt) : Nat := K.findIdx (fun y => keB y.k k)

def fdZ (K : List Ck) (k : Wt) : Int := if fdN K k < K.length then (fdN K k : Int) else -1

def routB (K : List Ck) (h p : Int) : Bool := K.any (fun y => y.k.c == h && (y.k.p == p && !y.u))

def calB (K : List Ck) (x : Wt) : Bool := rtB x && decide (fdZ K x < 0)

def calK (K : List Ck) (x : Wt) : List Ck := if calB K x then K ++ [⟨x, false⟩] else K

theorem fdZ_ge {K : List Ck} {x : Wt} (h : 0 ≤ fdZ K x) : ∃ (i : Nat) (hi : i < K.length), fdZ K x = (i : Int) ∧ fdN K x = i ∧ K[i].k = x := by
  unfold fdZ at h ⊢
  by_cases e : fdN K x < K.length
  · rw [if_pos e]
    refine ⟨fdN K x, e, rfl, rfl, ?_⟩
    have h1 := List.findIdx_getElem (w := e)
    exact keB_true.1 h1
  · rw [if_neg e] at h
    exact absurd h (by decide)

def busB (K : List Ck) (x : Wt) : Bool := decide (0 ≤ fdZ K x)

def busK (K : List Ck) (x : Wt) : List Ck := if busB K x then K.set (fdN K x) ⟨x, true⟩ else K

def ansK (K : List Ck) (x : Wt) : List Ck := K.eraseIdx (fdN K x)

def wasB (K : List Ck) (x : Wt) : Bool := if h : fdN K x < K.length then K[fdN K x].u else false

structure KC (K : List Ck) (C : Cl) : Prop where
  ap : K.Pairwise (fun a b => a.k ≠ b.k)
  mem : ∀ k u, C k = some u ↔ (⟨k, u⟩ : Ck) ∈ K

theorem KC.nil : KC [] (fun _ => none) := ⟨List.Pairwise.nil, fun k u => by simp⟩

theorem KC.one {K : List Ck} {C : Cl} (h : KC K C) {y : Ck} (hy : y ∈ K) : C y.k = some y.u := (h.mem y.k y.u).2 hy

theorem KC.no {K : List Ck} {C : Cl} (h : KC K C) {k : Wt} (hk : ∀ y ∈ K, y.k ≠ k) : C k = none := by
  cases e : C k with
  | none => rfl
  | some u => exact absurd rfl (hk _ ((h.mem k u).1 e))

theorem fdZ_lt {K : List Ck} {k : Wt} (h : ¬ 0 ≤ fdZ K k) : ∀ y ∈ K, y.k ≠ k := by
  intro y hy e
  apply h
  unfold fdZ
  have : fdN K k < K.length := List.findIdx_lt_length_of_exists ⟨y, hy, keB_true.2 e⟩
  rw [if_pos this]
  omega

theorem KC.there {K : List Ck} {C : Cl} (h : KC K C) (k : Wt) : (C k).isSome = busB K k ∧ decide (C k = some true) = wasB K k := by
  by_cases e : 0 ≤ fdZ K k
  · obtain ⟨i, hi, h1, h2, h3⟩ := fdZ_ge e
    have h4 := h.one (List.getElem_mem hi)
    rw [h3] at h4
    constructor
    · rw [h4]
      unfold busB
      rw [decide_eq_true e]
      rfl
    · rw [h4]
      unfold wasB
      rw [dif_pos (by rw [h2]; exact hi)]
      simp only [h2]
      cases K[i].u <;> rfl
  · have h4 := h.no (fdZ_lt e)
    constructor
    · rw [h4]
      unfold busB
      rw [decide_eq_false e]
      rfl
    · rw [h4]
      unfold wasB
      rw [dif_neg]
      · rfl
      · intro hlt
        apply e
        unfold fdZ
        rw [if_pos hlt]
        omega

theorem KC.callB {K : List Ck} {C : Cl} (h : KC K C) (g : Int) (x : Wt) : callB C g x = calB K (kyOf g x) := by
  unfold Go.Proofs.YtpofihiojhbfgaaGreatDoor.Dsk.callB calB rtB
  rw [(h.there (kyOf g x)).1]
  have e : (!busB K (kyOf g x)) = decide (fdZ K (kyOf g x) < 0) := by
    unfold busB
    rw [← decide_not]
    congr 1
    simp
  rw [e]
  cases cliB g <;> rfl

theorem KC.call {K : List Ck} {C : Cl} (h : KC K C) (g : Int) (x : Wt) : KC (calK K (kyOf g x)) (callC C g x) := by
  unfold callC calK
  rw [h.callB g x]
  cases e : calB K (kyOf g x)
  · exact h
  · have hn : ∀ y ∈ K, y.k ≠ kyOf g x := by
      refine fdZ_lt ?_
      unfold calB at e
      simp at e
      omega
    simp only [if_true]
    refine ⟨?_, fun k u => ?_⟩
    · rw [List.pairwise_append]
      refine ⟨h.ap, by simp, fun a ha b hb => ?_⟩
      simp at hb
      subst hb
      exact hn a ha
    · by_cases ek : k = kyOf g x
      · subst ek
        rw [Cl.set_self]
        simp only [List.mem_append, List.mem_singleton]
        constructor
        · intro hu
          cases hu
          exact .inr rfl
        · rintro (hu | hu)
          · exact absurd rfl (hn _ hu)
          · cases hu
            rfl
      · rw [Cl.set_other _ _ ek, h.mem]
        simp only [List.mem_append, List.mem_singleton]
        constructor
        · exact .inl
        · rintro (hu | hu)
          · exact hu
          · cases hu
            exact absurd rfl ek

theorem ap_other {K : List Ck} (h : K.Pairwise (fun a b => a.k ≠ b.k)) {i : Nat} (hi : i < K.length) {j : Nat} (hj : j < K.length) (e : K[j].k = K[i].k) : j = i := by
  rcases Nat.lt_trichotomy j i with l | l | l
  · exact absurd e (List.pairwise_iff_getElem.1 h j i hj hi l)
  · exact l
  · exact absurd e.symm (List.pairwise_iff_getElem.1 h i j hi hj l)

theorem KC.busy {K : List Ck} {C : Cl} (h : KC K C) (g : Int) (x : Wt) : KC (busK K (kyOf g x)) (busyC C g x) := by
  unfold busyC busK
  rw [(h.there (kyOf g x)).1]
  cases e : busB K (kyOf g x)
  · exact h
  · have e' : 0 ≤ fdZ K (kyOf g x) := by
      unfold busB at e
      simpa using e
    obtain ⟨i, hi, h1, h2, h3⟩ := fdZ_ge e'
    simp only [if_true]
    rw [h2]
    refine ⟨?_, fun k u => ?_⟩
    · refine List.pairwise_iff_getElem.2 fun a b ha hb hab => ?_
      have hp := List.pairwise_iff_getElem.1 h.ap a b (by simpa using ha) (by simpa using hb) hab
      rw [List.getElem_set, List.getElem_set]
      split
      · rename_i ea
        subst ea
        split
        · omega
        · simpa [h3] using hp
      · split
        · rename_i eb
          subst eb
          simpa [h3] using hp
        · exact hp
    · by_cases ek : k = kyOf g x
      · subst ek
        rw [Cl.set_self]
        constructor
        · intro hu
          cases hu
          exact List.mem_iff_getElem.2 ⟨i, by simpa using hi, by simp⟩
        · intro hu
          obtain ⟨j, hj, ej⟩ := List.mem_iff_getElem.1 hu
          rw [List.getElem_set] at ej
          split at ej
          · cases ej
            rfl
          · rename_i ne
            exact absurd (ap_other h.ap hi (by simpa using hj) (by rw [ej, h3])).symm ne
      · rw [Cl.set_other _ _ ek, h.mem]
        constructor
        · intro hu
          obtain ⟨j, hj, ej⟩ := List.mem_iff_getElem.1 hu
          refine List.mem_iff_getElem.2 ⟨j, by simpa using hj, ?_⟩
          rw [List.getElem_set, if_neg]
          · exact ej
          · intro eij
            subst eij
            rw [ej] at h3
            exact ek h3
        · intro hu
          obtain ⟨j, hj, ej⟩ := List.mem_iff_getElem.1 hu
          rw [List.getElem_set] at ej
          split at ej
          · cases ej
            exact absurd rfl ek
          · exact List.mem_iff_getElem.2 ⟨j, by simpa using hj, ej⟩

theorem KC.answer {K : List Ck} {C : Cl} (h : KC K C) (q : Wt) : KC (ansK K q) (C.set q none) := by
  unfold ansK
  by_cases e : 0 ≤ fdZ K q
  · obtain ⟨i, hi, h1, h2, h3⟩ := fdZ_ge e
    rw [h2]
    refine ⟨h.ap.sublist (List.eraseIdx_sublist _ _), fun k u => ?_⟩
    by_cases ek : k = q
    · subst ek
      rw [Cl.set_self]
      constructor
      · intro hu
        cases hu
      · intro hu
        obtain ⟨j, hj, hne, ej⟩ := List.mem_eraseIdx_iff_getElem.1 hu
        exact absurd (ap_other h.ap hi hj (by rw [ej, h3])) hne
    · rw [Cl.set_other _ _ ek, h.mem]
      constructor
      · intro hu
        obtain ⟨j, hj, ej⟩ := List.mem_iff_getElem.1 hu
        refine List.mem_eraseIdx_iff_getElem.2 ⟨j, hj, ?_, ej⟩
        intro eij
        subst eij
        rw [ej] at h3
        exact ek h3
      · intro hu
        exact List.mem_of_mem_eraseIdx hu
  · have hn := fdZ_lt e
    have e2 : K.eraseIdx (fdN K q) = K := by
      refine List.eraseIdx_of_length_le ?_
      unfold fdZ at e
      by_cases e3 : fdN K q < K.length
      · rw [if_pos e3] at e; omega
      · omega
    rw [e2]
    refine ⟨h.ap, fun k u => ?_⟩
    by_cases ek : k = q
    · subst ek
      rw [Cl.set_self]
      constructor
      · intro hu
        cases hu
      · intro hu
        exact absurd rfl (hn _ hu)
    · rw [Cl.set_other _ _ ek, h.mem]

theorem KC.out {K : List Ck} {C : Cl} (h : KC K C) (g p : Int) : outB C g p = routB K g p := by
  cases e : routB K g p
  · refine outB_false ?_
    rintro ⟨k, h3, h1, h2⟩
    have h4 := List.any_eq_false.1 e _ ((h.mem k false).1 h3)
    simp [h1, h2] at h4
  · refine outB_true ?_
    obtain ⟨y, hy, ey⟩ := List.any_eq_true.1 e
    have h1 := h.one hy
    simp at ey
    obtain ⟨e1, e2, e3⟩ := ey
    rw [e3] at h1
    exact ⟨y.k, h1, e1, e2⟩

end Go.Proofs.YtpofihiojhbfgaaGreatDoor.Dsk

namespace Go.Proofs.YtpofihiojhbfgaaGreatDoor.Dsk
open Go.RowKit Go.Maps
set_option linter.unusedVariables false
set_option maxRecDepth 8000

structure Sa where
  c : Int
  k : Int
  p : Int
  o : Int
  cp : Int
  ow : Int
  wr : Bool

def saC (x : Sa) : List Value := [.int .i64 x.c, .int .i64 x.k, .int .i64 x.p, .int .i64 x.o, .int .i64 0, .int .i64 x.cp, .int .i64 x.ow, .bool x.wr, .slice none 0 0, .complex .f64 0 0, .complex .f64 0 0, .complex .f64 0 0, .complex .f64 0 0]
abbrev saV (x : Sa) : Value := .agg #[.int .i64 x.c, .int .i64 x.k, .int .i64 x.p, .int .i64 x.o, .int .i64 0, .int .i64 x.cp, .int .i64 x.ow, .bool x.wr, .slice none 0 0, .complex .f64 0 0, .complex .f64 0 0, .complex .f64 0 0, .complex .f64 0 0]
abbrev saO (x : Sa) : Obj := .cells #[.int .i64 x.c, .int .i64 x.k, .int .i64 x.p, .int .i64 x.o, .int .i64 0, .int .i64 x.cp, .int .i64 x.ow, .bool x.wr, .slice none 0 0, .complex .f64 0 0, .complex .f64 0 0, .complex .f64 0 0, .complex .f64 0 0] 151
theorem saE : Enc saC 13 := ⟨fun _ => rfl, fun x u hu => by
  simp only [saC, List.mem_cons, List.not_mem_nil, or_false] at hu
  rcases hu with rfl | rfl | rfl | rfl | rfl | rfl | rfl | rfl | rfl | rfl | rfl | rfl | rfl <;> rfl, by decide⟩
theorem info34 : (Tryz.prog.info? 151).map (fun i => (i.zero, i.size, i.bytes)) = some (some (saV ⟨0, 0, 0, 0, 0, 0, false⟩), 13, 152) := by kernel_rfl

/-! ### What a desk does -/

structure St where
  T : Nat → Nat
  L : List Wt
  K : List Ck

def hoS (S : St) (x : Wt) : List Int := Tab.hoI S.T x.c x.p x.o x.wr
def othB (L : List Wt) (x : Wt) : Bool := L.any (fun y => !(y.c == x.c) && y.p == x.p)
def dueA (T : Nat → Nat) (L : List Wt) (x : Wt) : Bool := x.wr && (Tab.alI T x.c x.p && !othB L x)
def cps (T : Nat → Nat) (L : List Wt) (x : Wt) : Nat := Tab.sub (Tab.frI T x.c x.p) (resN x.c x.p L) ||| 2 ^ x.o.toNat
def dueC (T : Nat → Nat) (L : List Wt) (x : Wt) : Nat := if dueA T L x then 15 else cps T L x
def dueO (T : Nat → Nat) (L : List Wt) (x : Wt) : Nat := if dueA T L x then 15 else if x.wr then 2 ^ x.o.toNat else 0
def givS (S : St) (x : Wt) : St := ⟨Tab.gT S.T x.c x.p (dueC S.T (rmL S.L x.c) x) (dueO S.T (rmL S.L x.c) x), rmL S.L x.c, S.K⟩
def givA (S : St) (x : Wt) : Sa := ⟨x.c, 5, x.p, 0, (Tab.cpI (givS S x).T x.c x.p : Nat), (Tab.owI (givS S x).T x.c x.p : Nat), false⟩
def calA (h : Int) (x : Wt) : Sa := ⟨h, 6, x.p, x.o, 0, 0, x.wr⟩
def faiA (c : Int) : Sa := ⟨c, 8, 0, 0, 151, 0, false⟩
def cals (x : Wt) : List Int → List Ck × List Sa → List Ck × List Sa
  | [], s => s
  | h :: hs, s => cals x hs (calK s.1 (kyOf h x), if calB s.1 (kyOf h x) then s.2 ++ [calA h x] else s.2)
def skipB (S : St) (K : List Ck) (x : Wt) : Bool := decide (0 < (ahead S.L x).length) || routB K x.c x.p
def pass (S : St) : List Wt → List Ck × List Sa → (List Ck × List Sa) × Option Wt
  | [], s => (s, none)
  | x :: M, s => if skipB S s.1 x then pass S M s else if (hoS S x).length = 0 then (s, some x) else pass S M ((cals x (hoS S x) (s.1, [])).1, s.2 ++ (cals x (hoS S x) (s.1, [])).2)
def pasR (S : St) : (List Ck × List Sa) × Option Wt → St × List Sa × Bool
  | (s, none) => (⟨S.T, S.L, s.1⟩, s.2, false)
  | (s, some x) => (givS ⟨S.T, S.L, s.1⟩ x, s.2 ++ [givA ⟨S.T, S.L, s.1⟩ x], true)
def pas (S : St) : St × List Sa × Bool := pasR S (pass S S.L (S.K, []))
def serv : Nat → St → St × List Sa
  | 0, S => (S, [])
  | n + 1, S => if (pas S).2.2 then ((serv n (pas S).1).1, (pas S).2.1 ++ (serv n (pas S).1).2) else ((pas S).1, (pas S).2.1)
def hEd (S : St) (x : Wt) (hs : List Int) : List (Int × Int) := (hs.filter fun h => wasB S.K (kyOf h x)).map fun h => (x.c, h)
def aEd (x : Wt) (l : List Int) : List (Int × Int) := l.map fun c => (x.c, c)
def edgL (S : St) : List Wt → List (Int × Int)
  | [] => []
  | x :: M => hEd S x (hoS S x) ++ (aEd x (ahead S.L x) ++ edgL S M)
def edg (S : St) : List (Int × Int) := edgL S S.L
def outS (S : St) (c : Int) : St := ⟨S.T, rmL S.L c, S.K⟩
def brk : Nat → St → St × List Sa
  | 0, S => (S, [])
  | n + 1, S => if Wai.vcB (edg S) then
      ((brk n (serv ((outS S (Wai.vcI (edg S))).L.length + 1) (outS S (Wai.vcI (edg S)))).1).1,
        faiA (Wai.vcI (edg S)) :: ((serv ((outS S (Wai.vcI (edg S))).L.length + 1) (outS S (Wai.vcI (edg S)))).2 ++ (brk n (serv ((outS S (Wai.vcI (edg S))).L.length + 1) (outS S (Wai.vcI (edg S)))).1).2))
    else (S, [])
def setl (S : St) : St × List Sa := ((brk ((serv (S.L.length + 1) S).1.L.length + 1) (serv (S.L.length + 1) S).1).1, (serv (S.L.length + 1) S).2 ++ (brk ((serv (S.L.length + 1) S).1.L.length + 1) (serv (S.L.length + 1) S).1).2)

/-! ### In memory -/

abbrev dp (d : Nat) : Value := .pointer (some ⟨d, 0, none⟩)

structure Dk (B : Nat) (V : Nat → Prop) (W : World) (d g q : Nat) (S : St) (n : Nat) : Prop where
  blk : W.heap[d]? = some (.cells #[Tab.tp g, qp q] 96 (0, 0))
  tb : Tab.Tb W g S.T
  qk : ∃ C, Qx B (fun k => V k ∨ k = d ∨ k = g) W q S.L C n ∧ KC S.K C
  dg : d ≠ g
  bd : B ≤ d
  bg : B ≤ g
  vd : ¬ V d
  vg : ¬ V g
  nice : Nice S.L

structure Dx (B : Nat) (V : Nat → Prop) (W W' : World) (d g q : Nat) (S : St) (n : Nat) : Prop where
  dk : Dk B V W' d g q S n
  keep : ∀ k, V k → W'.heap[k]? = W.heap[k]?
  bel : Below B W W'

section
variable {B : Nat} {V : Nat → Prop} {W W' : World} {d g q : Nat} {S : St} {n : Nat}
theorem Dk.lt (h : Dk B V W d g q S n) : d < W.heap.size := (Array.getElem?_eq_some_iff.1 h.blk).1
theorem Dk.hB (h : Dk B V W d g q S n) : B ≤ W.heap.size := Nat.le_trans h.bd (Nat.le_of_lt h.lt)
theorem Dk.c0 (h : Dk B V W d g q S n) : W.cell? ⟨d, 0, none⟩ = some (Tab.tp g) := by rw [cell_of_row _ _ _ _ _ _ h.blk]; rfl
theorem Dk.c1 (h : Dk B V W d g q S n) : W.cell? ⟨d, 1, none⟩ = some (qp q) := by rw [cell_of_row _ _ _ _ _ _ h.blk]; rfl
theorem Dk.len (h : Dk B V W d g q S n) : S.L.length ≤ 4 := h.nice.le4
theorem Dk.le {m : Nat} (h : Dk B V W d g q S n) (hm : n ≤ m) : Dk B V W d g q S m := by
  obtain ⟨C, h1, h2⟩ := h.qk
  exact ⟨h.blk, h.tb, ⟨C, h1.le hm, h2⟩, h.dg, h.bd, h.bg, h.vd, h.vg, h.nice⟩
theorem Dk.move {V2 : Nat → Prop} (h : Dk B V W d g q S n) (hs : W.heap.size ≤ W'.heap.size) (hk : ∀ k, k < W.heap.size → ¬ V k → W'.heap[k]? = W.heap[k]?) (hV : ∀ k, V2 k → V k ∨ W.heap.size ≤ k) : Dk B V2 W' d g q S n := by
  obtain ⟨C, h1, h2⟩ := h.qk
  refine ⟨(hk d h.lt h.vd).trans h.blk, h.tb.keep hs (hk g h.tb.lt h.vg), ⟨C, ?_, h2⟩, h.dg, h.bd, h.bg, ?_, ?_, h.nice⟩
  · have h3 : Qw W' (fun k => (B ≤ k ∧ k < W.heap.size ∧ ¬ (V k ∨ k = d ∨ k = g))) q S.L C n := Qw.keep h1 fun k ha hl => hk k hl fun h' => ha.2.2 (.inl h')
    refine h3.mono fun k hl ha => ⟨ha.1, hl, ?_⟩
    rintro (h' | h')
    · rcases hV k h' with h4 | h4
      · exact ha.2.2 (.inl h4)
      · have := ha.2.1; omega
    · exact ha.2.2 (.inr h')
  · intro h'
    rcases hV d h' with h4 | h4
    · exact h.vd h4
    · have := h.lt; omega
  · intro h'
    rcases hV g h' with h4 | h4
    · exact h.vg h4
    · have := h.tb.lt; omega
theorem Dk.below (h : Dk B V W d g q S n) (hb : Below W.heap.size W W') : Dk B V W' d g q S n := h.move hb.size (fun k hk _ => hb.block k hk) fun k hk => .inl hk
theorem Dk.more {V2 : Nat → Prop} (h : Dk B V W d g q S n) (hb : Below W.heap.size W W') (hV : ∀ k, V2 k → V k ∨ W.heap.size ≤ k) : Dk B V2 W' d g q S n := h.move hb.size (fun k hk _ => hb.block k hk) hV
theorem Dk.less {V2 : Nat → Prop} (h : Dk B V W d g q S n) (hV : ∀ k, V2 k → V k) : Dk B V2 W d g q S n := h.move (Nat.le_refl _) (fun _ _ _ => rfl) fun k hk => .inl (hV k hk)
theorem Dk.qw (h : Dk B V W d g q S n) : ∃ C, Qw W (fun k => B ≤ k ∧ k < W.heap.size ∧ ¬ (V k ∨ k = d ∨ k = g)) q S.L C n ∧ KC S.K C := h.qk

theorem Dk.dx (h : Dk B V W d g q S n) (hb : Below W.heap.size W W') (hV : ∀ k, V k → k < W.heap.size) : Dx B V W W' d g q S n := ⟨h.below hb, fun k hk => hb.block k (hV k hk), hb.mono h.hB⟩
theorem Dx.trans {W2 : World} {S2 : St} {n2 : Nat} {S0 : St} {n0 : Nat} (h : Dx B V W W' d g q S0 n0) (h2 : Dx B V W' W2 d g q S2 n2) : Dx B V W W2 d g q S2 n2 :=
  ⟨h2.dk, fun k hk => (h2.keep k hk).trans (h.keep k hk), h.bel.trans h2.bel⟩
theorem Dx.less {V2 : Nat → Prop} (h : Dx B V W W' d g q S n) (hV : ∀ k, V2 k → V k) : Dx B V2 W W' d g q S n := ⟨h.dk.less hV, fun k hk => h.keep k (hV k hk), h.bel⟩
theorem Dx.size (h : Dx B V W W' d g q S n) : W.heap.size ≤ W'.heap.size := h.bel.size

theorem Dk.table {T : Nat → Nat} (h : Dk B V W d g q S n) (hV : ∀ k, V k → k < W.heap.size) (ht : Tab.Tb W' g T) (ho : Tab.Off g W W') : Dx B V W W' d g q ⟨T, S.L, S.K⟩ n := by
  obtain ⟨C, h1, h2⟩ := h.qk
  refine ⟨⟨(ho.block d h.lt h.dg).trans h.blk, ht, ⟨C, ?_, h2⟩, h.dg, h.bd, h.bg, h.vd, h.vg, h.nice⟩, fun k hk => ho.block k (hV k hk) fun e => h.vg (e ▸ hk), ho.below h.bg h.hB⟩
  have h3 : Qw W' (fun k => (B ≤ k ∧ k < W.heap.size ∧ ¬ (V k ∨ k = d ∨ k = g))) q S.L C n := Qw.keep h1 fun k ha hl => ho.block k hl fun e => ha.2.2 (.inr (.inr e))
  exact h3.mono fun k hl ha => ⟨ha.1, hl, ha.2.2⟩
theorem Dk.queue {L : List Wt} {K : List Ck} {C : Cl} {m : Nat} (h : Dk B V W d g q S n) (hs : Sx B (fun k => V k ∨ k = d ∨ k = g) W W' q L C m) (hK : KC K C) (hL : Nice L) : Dx B V W W' d g q ⟨S.T, L, K⟩ m :=
  ⟨⟨(hs.keep d (.inr (.inl rfl))).trans h.blk, h.tb.keep hs.size (hs.keep g (.inr (.inr rfl))), ⟨C, hs.qx, hK⟩, h.dg, h.bd, h.bg, h.vd, h.vg, hL⟩, fun k hk => hs.keep k (.inl hk), hs.bel⟩
theorem Dk.oth (h : Dk B V W d g q S n) (hV : ∀ k, V k → k < W.heap.size) : ∀ k, (V k ∨ k = d ∨ k = g) → k < W.heap.size := by
  rintro k (h' | rfl | rfl)
  · exact hV k h'
  · exact h.lt
  · exact h.tb.lt

theorem addK (h : Dk B V W d g q S n) (hV : ∀ k, V k → k < W.heap.size) (x : Wt) : Calls Tryz.prog 123 #[qp q, wtV x] W fun e w' => e = .returned (.bool (addB S.L x)) ∧ Dx B V W w' d g q ⟨S.T, addL S.L x, S.K⟩ n := by
  obtain ⟨C, h1, h2⟩ := h.qk
  refine (addX h1 (h.oth hV) h.hB (by have := h.len; omega) x).mono ?_
  rintro e w' ⟨rfl, hs⟩
  exact ⟨rfl, h.queue hs h2 (h.nice.add x)⟩
theorem removeK (h : Dk B V W d g q S n) (hV : ∀ k, V k → k < W.heap.size) (c : Int) : Calls Tryz.prog 109 #[qp q, .int .i64 c] W fun e w' => e = .returned (.bool (hasB S.L c)) ∧ Dx B V W w' d g q (outS S c) n := by
  obtain ⟨C, h1, h2⟩ := h.qk
  refine (removeX h1 (h.oth hV) h.hB (by have := h.len; omega) c).mono ?_
  rintro e w' ⟨rfl, hs⟩
  exact ⟨rfl, h.queue hs h2 (h.nice.rm c)⟩
theorem callK (h : Dk B V W d g q S n) (hV : ∀ k, V k → k < W.heap.size) (hn : n ≤ 1000000) (y : Int) (x : Wt) : Calls Tryz.prog 192 #[qp q, .int .i64 y, wtV x] W fun e w' => e = .returned (.bool (calB S.K (kyOf y x))) ∧ Dx B V W w' d g q ⟨S.T, S.L, calK S.K (kyOf y x)⟩ (n + 1) := by
  obtain ⟨C, h1, h2⟩ := h.qk
  refine (callX h1 (h.oth hV) h.hB hn y x).mono ?_
  rintro e w' ⟨rfl, hs⟩
  exact ⟨by rw [h2.callB y x], h.queue hs (h2.call y x) h.nice⟩
theorem busyK (h : Dk B V W d g q S n) (hV : ∀ k, V k → k < W.heap.size) (hn : n ≤ 1000000) (y : Int) (x : Wt) (hk : (kyOf y x).ok) : Calls Tryz.prog 126 #[qp q, .int .i64 y, wtV x] W fun e w' => e = .returned (.bool (busB S.K (kyOf y x))) ∧ Dx B V W w' d g q ⟨S.T, S.L, busK S.K (kyOf y x)⟩ (n + 1) := by
  obtain ⟨C, h1, h2⟩ := h.qk
  refine (busyX h1 (h.oth hV) h.hB hn y x hk).mono ?_
  rintro e w' ⟨rfl, hs⟩
  exact ⟨by rw [(h2.there _).1], h.queue hs (h2.busy y x) h.nice⟩
theorem answerK (h : Dk B V W d g q S n) (hV : ∀ k, V k → k < W.heap.size) (k : Wt) (hk : k.ok) : Calls Tryz.prog 160 #[qp q, .int .i64 k.c, .int .i64 k.p, .int .i64 k.o, .bool k.wr] W fun e w' => e = .returned (.tuple #[]) ∧ Dx B V W w' d g q ⟨S.T, S.L, ansK S.K k⟩ n := by
  obtain ⟨C, h1, h2⟩ := h.qk
  refine (answerX h1 (h.oth hV) h.hB k hk).mono ?_
  rintro e w' ⟨rfl, hs⟩
  exact ⟨rfl, h.queue hs (h2.answer k) h.nice⟩
theorem calledK (h : Dk B V W d g q S n) (y : Int) (x : Wt) (hk : (kyOf y x).ok) : Calls Tryz.prog 146 #[qp q, .int .i64 y, wtV x] W fun e w' => e = .returned (.tuple #[.bool (busB S.K (kyOf y x)), .bool (wasB S.K (kyOf y x))]) ∧ Below W.heap.size W w' := by
  obtain ⟨C, h1, h2⟩ := h.qw
  refine (called_any W _ q S.L C n h1 y x hk).mono ?_
  rintro e w' ⟨rfl, hs⟩
  exact ⟨by rw [(h2.there _).1, (h2.there _).2], hs⟩
theorem outK (h : Dk B V W d g q S n) (c p : Int) : Calls Tryz.prog 173 #[qp q, .int .i64 c, .int .i64 p] W fun e w' => e = .returned (.bool (routB S.K c p)) ∧ Below W.heap.size W w' := by
  obtain ⟨C, h1, h2⟩ := h.qw
  refine (out_any W _ q S.L C n h1 c p).mono ?_
  rintro e w' ⟨rfl, hs⟩
  exact ⟨by rw [h2.out c p], hs⟩
theorem allK (h : Dk B V W d g q S n) : Calls Tryz.prog 144 #[qp q] W fun e w' => ∃ a c, e = .returned (.slice a S.L.length c) ∧ OwR wtC 4 208 w' a c S.L ∧ (∀ x, a = some x → x.block = W.heap.size) ∧ Below W.heap.size W w' := by
  obtain ⟨C, h1, h2⟩ := h.qw
  exact all_any W _ q S.L C n h1 (by have := h.len; omega)
theorem aheadK (h : Dk B V W d g q S n) (x : Wt) : Calls Tryz.prog 147 #[qp q, wtV x] W fun e w' => ∃ a c, e = .returned (.slice a (ahead S.L x).length c) ∧ OwnI w' W.heap.size 3 .i64 a c (ahead S.L x) ∧ Below W.heap.size W w' := by
  obtain ⟨C, h1, h2⟩ := h.qw
  exact ahead_any W _ q S.L C n h1 (by have := h.len; omega) x
theorem reservedK (h : Dk B V W d g q S n) (c p : Int) : Calls Tryz.prog 204 #[qp q, .int .i64 c, .int .i64 p] W fun e w' => e = .returned (.int .i64 ((resN c p S.L : Nat) : Int)) ∧ Below W.heap.size W w' := by
  obtain ⟨C, h1, h2⟩ := h.qw
  exact reserved_any W _ q S.L C n h1 (by have := h.len; omega) h.nice.rt c p
theorem grantK (h : Dk B V W d g q S n) (hV : ∀ k, V k → k < W.heap.size) (c p a b : Int) (u : Bool) (hu : Tab.gOk S.T c p a b = u) : Calls Tryz.prog 191 #[Tab.tp g, .int .i64 c, .int .i64 p, .int .i64 a, .int .i64 b] W fun e w' => e = .returned (.bool u) ∧ Dx B V W w' d g q ⟨Tab.gT S.T c p a b, S.L, S.K⟩ n := by
  refine (Tab.grant_any W g S.T h.tb c p a b u hu).mono ?_
  rintro e w' ⟨rfl, h1, h2⟩
  exact ⟨rfl, h.table hV h1 h2⟩
theorem dropK (h : Dk B V W d g q S n) (hV : ∀ k, V k → k < W.heap.size) (c p a b : Int) : Calls Tryz.prog 124 #[Tab.tp g, .int .i64 c, .int .i64 p, .int .i64 a, .int .i64 b] W fun e w' => e = .returned (.tuple #[]) ∧ Dx B V W w' d g q ⟨Tab.dT S.T c p a b, S.L, S.K⟩ n := by
  refine (Tab.drop_any W g S.T h.tb c p a b).mono ?_
  rintro e w' ⟨rfl, h1, h2⟩
  exact ⟨rfl, h.table hV h1 h2⟩
end

end Go.Proofs.YtpofihiojhbfgaaGreatDoor.Dsk

namespace Go.Proofs.YtpofihiojhbfgaaGreatDoor.Dsk
open Go.RowKit Go.Maps
set_option linter.unusedVariables false
set_option maxRecDepth 8000

section
variable {P : Program} {ops : Array Oper} {Q : Exit → Act → World → Prop} {md : Region.Mode} {S : World → Prop}
theorem held_skip {i : Nat} {oi : Oper} (d : Nat) {fuel : Nat} {listed : Array Bool} {a : Act} {w : World} (hi : ops[i]? = some oi) (hd : oi.dst = some d) (hs : Region.noSelect ops = true) (hf : Region.free md ops listed i = true) (hr : (Region.ready md ops listed).contains i = true)
    (hw : Region.wanted oi (yielded ops a.tmps) = false) (hQ : ∀ c a w, Q (.panic c) (a.put oi.dst undef) w → Q (.panic c) a w) (hS : S w) (h : wpAnyH P md ops Q S fuel (listed.setIfInBounds i true) (a.put (some d) undef) w) : wpAnyH P md ops Q S (fuel + 1) listed a w :=
  wpAnyH_take hi hs hf hr hQ (.inr ⟨hw, rfl⟩) hS (hd ▸ h)
end

theorem box_cells (w : World) (x : Wt) {U : World} (hU : Below (w.alloc (wtO x)).heap.size (w.alloc (wtO x)) U) : U.cell? ⟨w.heap.size, 0, none⟩ = some (.int .i64 x.c) ∧ U.cell? ⟨w.heap.size, 1, none⟩ = some (.int .i64 x.p) ∧ U.cell? ⟨w.heap.size, 2, none⟩ = some (.int .i64 x.o) ∧ U.cell? ⟨w.heap.size, 3, none⟩ = some (.bool x.wr) :=
  wt_cells (heap_alloc_new w (wtO x)) hU

theorem new_desk (w : World) : Calls Tryz.prog 32 #[] w fun e w' => ∃ d g q, e = .returned (dp d) ∧ Dk w.heap.size (fun _ => False) w' d g q ⟨fun _ => 0, [], []⟩ 0 ∧ Below w.heap.size w w' := by
  go_enter Tryz.func32, Tryz.ntmps32
  go_wp2_with (first
    | (go_at_call 58; refine (Tab.new_any _).mono ?_; rintro e w1 ⟨rfl, ht1, hb1⟩)
    | (go_at_call 59; refine (newX _).mono ?_; rintro e w2 ⟨q, rfl, hq2, hb2⟩)
    | fail)
  go_ret
  have h1 : w.heap.size < w1.heap.size := ht1.lt
  have hb3 : Below w2.heap.size w2 (w2.alloc (.cells #[Tab.tp w.heap.size, qp q] 96)) := (Below.refl _ _).alloc (Nat.le_refl _) _
  refine ⟨w2.heap.size, w.heap.size, q, rfl, ⟨heap_alloc_new w2 _, (ht1.below hb2).below hb3, ⟨_, ?_, KC.nil⟩, ?_, ?_, Nat.le_refl _, fun h => h, fun h => h, Nice.nil⟩, ?_⟩
  · have h4 : Qw (w2.alloc (.cells #[Tab.tp w.heap.size, qp q] 96)) (fun k => w1.heap.size ≤ k ∧ k < w2.heap.size) q [] (fun _ => none) 0 := Qw.below (w := w2) (Qw.mono hq2 fun k hk ha => ⟨ha.1, hk⟩) hb3
    refine h4.mono fun k hk ha => ⟨by have := ha.1; omega, hk, ?_⟩
    rintro (h | h | h)
    · exact h
    · have := ha.2; omega
    · have := ha.1; omega
  · have := hb2.size; omega
  · have := hb2.size; omega
  · exact below_step (below_step hb1 hb2) hb3

theorem shr16 : ∀ m < 16, ∀ o < 4, (bits .and .i64 (((m : Nat) : Int) / 2 ^ o) 1 == 1) = m.testBit o := by decide +kernel
theorem has_nat (m o : Nat) (hm : m < 16) (ho : o < 4) (w : World) : Calls Tryz.prog 159 #[.int .i64 (m : Int), .int .i64 (o : Int)] w fun e w' => e = .returned (.bool (m.testBit o)) ∧ w' = w := by
  go_enter Tryz.func159, Tryz.ntmps159
  go_wp2
  go_ret
  exact ⟨ret_bool (shr16 m hm o ho), rfl⟩

set_option maxHeartbeats 1600000 in
theorem holdersFor_any {B : Nat} {V : Nat → Prop} {w : World} {d g q : Nat} {S : St} {n : Nat} (H : Dk B V w d g q S n) (x : Wt) : Calls Tryz.prog 145 #[dp d, wtV x] w fun e w' => ∃ ao cap, e = .returned (.slice ao (hoS S x).length cap) ∧ OwnI w' w.heap.size 3 .i64 ao cap (hoS S x) ∧ Below w.heap.size w w' := by
  have hb0 : Below w.heap.size w (w.alloc (wtO x)) := (Below.refl _ _).alloc (Nat.le_refl _) _
  have HW : Hid (Dk B V (w.alloc (wtO x)) d g q S n) := H.below hb0
  have HB : Hid (Below w.heap.size w (w.alloc (wtO x))) := hb0
  have HX : Hid (∀ U : World, Below (w.alloc (wtO x)).heap.size (w.alloc (wtO x)) U → U.cell? ⟨d, 0, none⟩ = some (Tab.tp g) ∧ U.cell? ⟨w.heap.size, 0, none⟩ = some (.int .i64 x.c) ∧ U.cell? ⟨w.heap.size, 1, none⟩ = some (.int .i64 x.p) ∧ U.cell? ⟨w.heap.size, 2, none⟩ = some (.int .i64 x.o) ∧ U.cell? ⟨w.heap.size, 3, none⟩ = some (.bool x.wr)) :=
    fun U hU => ⟨(HW.out.below hU).c0, box_cells w x hU⟩
  clear H hb0
  go_enter Tryz.func145, Tryz.ntmps145
  go_upto_region 1 with fail
  obtain ⟨b, hb⟩ : ∃ b, w.heap.size = b := ⟨_, rfl⟩
  rw [hb] at HX ⊢
  show Code.wp _ _ _ _ (w.alloc (wtO x))
  generalize w.alloc (wtO x) = W at *
  have HH : Hid (∀ U : World, Below W.heap.size W U → Calls Tryz.prog 178 #[Tab.tp g, .int .i64 x.c, .int .i64 x.p, .int .i64 x.o, .bool x.wr] U fun e w' => ∃ ao cap, e = .returned (.slice ao (hoS S x).length cap) ∧ OwnI w' b 3 .i64 ao cap (hoS S x) ∧ Below W.heap.size W w') := fun U hU => by
    refine (Tab.holders_any U g S.T (HW.out.below hU).tb x.c x.p x.o x.wr).mono ?_
    rintro e w' ⟨ao, k, cap, rfl, h1, rfl, h2⟩
    have hsz : b ≤ U.heap.size := hb ▸ Nat.le_trans HB.out.size hU.size
    exact ⟨ao, cap, rfl, h1.mono hsz, below_step hU h2⟩
  refine wp_region_held (S := fun U => Below W.heap.size W U) (by kernel_rfl) ?_
  have hS : Below W.heap.size W W.drew := bel0 W
  refine held_val (i := 0) ?_ 5 rfl rfl (by kernel_rfl) (by kernel_rfl) (by kernel_rfl) (by rfl) (fun _ _ _ h => h) hS ?_ ?_
  rotate_left
  · (intro w hSw; go_simp; first | done | with_reducible rfl)
  simp only [Act.put, List.setIfInBounds_toArray, List.set_cons_zero, List.set_cons_succ]
  refine held_val (i := 1) ?_ 6 rfl rfl (by kernel_rfl) (by kernel_rfl) (by kernel_rfl) (by rfl) (fun _ _ _ h => h) hS ?_ ?_
  rotate_left
  · (intro w hSw; go_simp; first | done | with_reducible rfl)
  simp only [Act.put, List.setIfInBounds_toArray, List.set_cons_zero, List.set_cons_succ]
  refine held_val (i := 2) ?_ 7 rfl rfl (by kernel_rfl) (by kernel_rfl) (by kernel_rfl) (by rfl) (fun _ _ _ h => h) hS ?_ ?_
  rotate_left
  · (intro w hSw; go_simp; first | done | with_reducible rfl)
  simp only [Act.put, List.setIfInBounds_toArray, List.set_cons_zero, List.set_cons_succ]
  refine held_val (i := 3) ?_ 8 rfl rfl (by kernel_rfl) (by kernel_rfl) (by kernel_rfl) (by rfl) (fun _ _ _ h => h) hS ?_ ?_
  rotate_left
  · (intro w hSw; obtain ⟨k0, k1, k2, k3, k4⟩ := HX.out w hSw; go_simp; first | done | with_reducible rfl)
  simp only [Act.put, List.setIfInBounds_toArray, List.set_cons_zero, List.set_cons_succ]
  refine held_val (i := 4) ?_ 9 rfl rfl (by kernel_rfl) (by kernel_rfl) (by kernel_rfl) (by rfl) (fun _ _ _ h => h) hS ?_ ?_
  rotate_left
  · (intro w hSw; go_simp; first | done | with_reducible rfl)
  simp only [Act.put, List.setIfInBounds_toArray, List.set_cons_zero, List.set_cons_succ]
  refine held_val (i := 5) ?_ 10 rfl rfl (by kernel_rfl) (by kernel_rfl) (by kernel_rfl) (by rfl) (fun _ _ _ h => h) hS ?_ ?_
  rotate_left
  · (intro w hSw; obtain ⟨k0, k1, k2, k3, k4⟩ := HX.out w hSw; go_simp; first | done | with_reducible rfl)
  simp only [Act.put, List.setIfInBounds_toArray, List.set_cons_zero, List.set_cons_succ]
  refine held_val (i := 6) ?_ 11 rfl rfl (by kernel_rfl) (by kernel_rfl) (by kernel_rfl) (by rfl) (fun _ _ _ h => h) hS ?_ ?_
  rotate_left
  · (intro w hSw; go_simp; first | done | with_reducible rfl)
  simp only [Act.put, List.setIfInBounds_toArray, List.set_cons_zero, List.set_cons_succ]
  refine held_val (i := 7) ?_ 12 rfl rfl (by kernel_rfl) (by kernel_rfl) (by kernel_rfl) (by rfl) (fun _ _ _ h => h) hS ?_ ?_
  rotate_left
  · (intro w hSw; obtain ⟨k0, k1, k2, k3, k4⟩ := HX.out w hSw; go_simp; first | done | with_reducible rfl)
  simp only [Act.put, List.setIfInBounds_toArray, List.set_cons_zero, List.set_cons_succ]
  refine held_val (i := 8) ?_ 13 rfl rfl (by kernel_rfl) (by kernel_rfl) (by kernel_rfl) (by rfl) (fun _ _ _ h => h) hS ?_ ?_
  rotate_left
  · (intro w hSw; go_simp; first | done | with_reducible rfl)
  simp only [Act.put, List.setIfInBounds_toArray, List.set_cons_zero, List.set_cons_succ]
  refine held_val (i := 9) ?_ 14 rfl rfl (by kernel_rfl) (by kernel_rfl) (by kernel_rfl) (by rfl) (fun _ _ _ h => h) hS ?_ ?_
  rotate_left
  · (intro w hSw; obtain ⟨k0, k1, k2, k3, k4⟩ := HX.out w hSw; go_simp; first | done | with_reducible rfl)
  simp only [Act.put, List.setIfInBounds_toArray, List.set_cons_zero, List.set_cons_succ]
  refine held_val (i := 10) ?_ 15 rfl rfl (by kernel_rfl) (by kernel_rfl) (by kernel_rfl) (by rfl) (fun _ _ _ h => h) hS ?_ ?_
  rotate_left
  · (intro w hSw; go_simp; first | done | with_reducible rfl)
  simp only [Act.put, List.setIfInBounds_toArray, List.set_cons_zero, List.set_cons_succ]
  refine held_val (i := 11) ?_ 16 rfl rfl (by kernel_rfl) (by kernel_rfl) (by kernel_rfl) (by rfl) (fun _ _ _ h => h) hS ?_ ?_
  rotate_left
  · (intro w hSw; obtain ⟨k0, k1, k2, k3, k4⟩ := HX.out w hSw; go_simp; first | done | with_reducible rfl)
  simp only [Act.put, List.setIfInBounds_toArray, List.set_cons_zero, List.set_cons_succ]
  refine held_call (i := 12) 17 178 #[Tab.tp g, .int .i64 x.c, .int .i64 x.p, .int .i64 x.o, .bool x.wr] rfl rfl (by kernel_rfl) (by rfl) (by simp [go_sem]) (HH.out _ hS) ?_
  rintro e w12 ⟨ao, cap, rfl, ho, hS12⟩
  refine ⟨_, rfl, hS12, ?_⟩
  have hS12 := hS12
  simp only [Act.put, List.setIfInBounds_toArray, List.set_cons_zero, List.set_cons_succ]
  refine held_val (i := 13) ?_ 4 rfl rfl (by kernel_rfl) (by kernel_rfl) (by kernel_rfl) (by rfl) (fun _ _ _ h => h) hS12 ?_ ?_
  rotate_left
  · (intro w hSw; go_simp; first | done | with_reducible rfl)
  simp only [Act.put, List.setIfInBounds_toArray, List.set_cons_zero, List.set_cons_succ]
  refine wpAnyH_done (by kernel_rfl) ?_ _
  go_wp2
  go_ret
  exact ⟨ao, cap, rfl, hb ▸ ho, hb ▸ below_step HB.out hS12⟩

/-! ### Does another one wait for the page? -/
set_option maxHeartbeats 1600000 in
theorem oth1_any (y x : Wt) (b : Nat) (w : World) (h0 : w.cell? ⟨b, 0, none⟩ = some (.int .i64 x.c)) (h1 : w.cell? ⟨b, 1, none⟩ = some (.int .i64 x.p)) : Calls Tryz.prog 209 #[wtV y, .pointer (some ⟨b, 0, none⟩)] w fun e w' => e = .returned (.bool (!(y.c == x.c) && y.p == x.p)) ∧ Below w.heap.size w w' := by
  have hg := World.block_lt_of_cell? w _ h0
  have hbl : Below w.heap.size w (w.alloc (wtO y)) := (Below.refl _ _).alloc (Nat.le_refl _) _
  have h0' : (w.alloc (wtO y)).cell? ⟨b, 0, none⟩ = some (.int .i64 x.c) := (hbl.cell hg).trans h0
  have h1' : (w.alloc (wtO y)).cell? ⟨b, 1, none⟩ = some (.int .i64 x.p) := (hbl.cell (p := ⟨b, 1, none⟩) hg).trans h1
  clear h0 h1 hbl
  cases e1 : (y.c == x.c)
  · have e2 : (y.c != x.c) = true := by simp at e1; simp [e1]
    go_enter Tryz.func209, Tryz.ntmps209
    go_wp2
    go_ret
    exact ⟨ret_bool (by simp), by go_grown⟩
  · have e2 : (y.c != x.c) = false := by simp at e1; simp [e1]
    go_enter Tryz.func209, Tryz.ntmps209
    go_wp2
    go_ret
    exact ⟨ret_bool (by simp), by go_grown⟩

def ot1 (y x : Wt) : Bool := !(y.c == x.c) && y.p == x.p
def otN (L : List Wt) (x : Wt) : Nat := L.findIdx (fun y => ot1 y x)
def otZ (L : List Wt) (x : Wt) : Int := if otN L x < L.length then (otN L x : Int) else -1
theorem otZ_iff (L : List Wt) (x : Wt) : decide (0 ≤ otZ L x) = othB L x := by
  unfold otZ othB
  by_cases h : otN L x < L.length
  · rw [if_pos h]
    have h1 := List.findIdx_getElem (w := h)
    have h2 : L.any (fun y => !(y.c == x.c) && y.p == x.p) = true := List.any_eq_true.2 ⟨_, List.getElem_mem h, h1⟩
    rw [h2]
    simp
  · rw [if_neg h]
    have h2 : L.any (fun y => !(y.c == x.c) && y.p == x.p) = false := by
      rw [Bool.eq_false_iff]
      intro h3
      obtain ⟨y, hy, h4⟩ := List.any_eq_true.1 h3
      exact h (List.findIdx_lt_length_of_exists ⟨y, hy, h4⟩)
    rw [h2]
    rfl

set_option maxHeartbeats 1600000 in
theorem index2_any (ao : Option Addr) (n cap : Nat) (L : List Wt) (x0 : Wt) (g : Nat) (w : World) (hL : RdR wtC w ao cap L) (hn : L.length = n) (hl : n ≤ 1000000) (hc : w.cell? ⟨g, 0, none⟩ = some (.int .i64 x0.c) ∧ w.cell? ⟨g, 1, none⟩ = some (.int .i64 x0.p)) :
    Calls Tryz.prog 171 #[.slice ao n cap, .func (.func 209) #[] #[.pointer (some ⟨g, 0, none⟩)]] w fun e w' => e = .returned (.int .i64 (otZ L x0)) ∧ Below w.heap.size w w' := by
  have HL : Hid (RdR wtC w ao cap L ∧ L.length = n) := ⟨hL, hn⟩
  have HC : Hid (w.cell? ⟨g, 0, none⟩ = some (.int .i64 x0.c) ∧ w.cell? ⟨g, 1, none⟩ = some (.int .i64 x0.p)) := hc
  clear hL hn hc
  go_enter Tryz.func171, Tryz.ntmps171
  go_wp2
  go_loopw [8] (fun i wr => ∃ k : Nat, k ≤ n ∧ i = .int .i64 k ∧ Below w.heap.size w wr ∧ Hid (∀ t (h : t < L.length), t < k → ot1 L[t] x0 = false)) (fun i _ => n - (intOf i).toNat)
  case atStart => exact ⟨0, Nat.zero_le _, rfl, Below.refl _ _, fun _ _ h => absurd h (by omega)⟩
  case round =>
    obtain ⟨k, hk, rfl, hbel, HI⟩ := hrel
    rename World => wr
    by_cases hlt : k < n
    · have hkl : k < L.length := by have := HL.out.2; omega
      have hbl := HL.out.1.below hbel
      obtain ⟨bk, off, rfl, -, hcc⟩ := hbl.at wtE hkl
      obtain ⟨z0, z1, z2, z3⟩ := wtIn _ _ _ _ hcc
      have hcg := (hbel.cell (p := ⟨g, 0, none⟩) (World.block_lt_of_cell? w _ HC.out.1)).trans HC.out.1
      have hcg1 := (hbel.cell (p := ⟨g, 1, none⟩) (World.block_lt_of_cell? w _ HC.out.2)).trans HC.out.2
      have HQ : Hid ((∀ t (h : t < L.length), t < k → ot1 L[t] x0 = false) ∧ (ot1 L[k] x0 = true → otZ L x0 = k) ∧ (ot1 L[k] x0 = false → ∀ t (h : t < L.length), t < k + 1 → ot1 L[t] x0 = false)) := by
        refine ⟨HI.out, fun h => ?_, fun h t ht hk => ?_⟩
        · have e : otN L x0 = k := by
            unfold otN
            rw [List.findIdx_eq hkl]
            exact ⟨h, fun j hj => HI.out j (by omega) hj⟩
          unfold otZ
          rw [e, if_pos hkl]
        · by_cases e : t = k
          · subst e; exact h
          · exact HI.out t ht (by omega)
      clear hcc hbl HI
      generalize L[k] = x at *
      have e0' : decide ((k : Int) < n) = true := by simp; omega
      cases hx : ot1 x x0
      · go_wp2_with (first
          | (go_at_call 209; refine (oth1_any x x0 g _ hcg hcg1).mono ?_; rw [show (!(x.c == x0.c) && x.p == x0.p) = _ from hx]; rintro e w1 ⟨rfl, hb1⟩)
          | fail)
        go_roundw
        case rel => exact ⟨k + 1, by omega, by go_num, below_step hbel hb1, HQ.out.2.2 hx⟩
        case measure => simp [intOf]; omega
      · go_wp2_with (first
          | (go_at_call 209; refine (oth1_any x x0 g _ hcg hcg1).mono ?_; rw [show (!(x.c == x0.c) && x.p == x0.p) = _ from hx]; rintro e w1 ⟨rfl, hb1⟩)
          | fail)
        go_ret
        exact ⟨ret_int (HQ.out.2.1 hx).symm, below_step hbel hb1⟩
    · obtain rfl : k = n := by omega
      go_wp2
      go_ret
      refine ⟨ret_int (Eq.symm ?_), hbel⟩
      have e : ¬ otN L x0 < L.length := by
        intro h
        have h1 := List.findIdx_getElem (w := h)
        have h2 := HI.out (otN L x0) h (by have := HL.out.2; omega)
        unfold otN at h1 h2
        rw [h2] at h1
        cases h1
      unfold otZ
      rw [if_neg e]

set_option maxHeartbeats 1600000 in
theorem contains_any (ao : Option Addr) (n cap : Nat) (L : List Wt) (x : Wt) (g : Nat) (w : World) (hL : RdR wtC w ao cap L) (hn : L.length = n) (hl : n ≤ 1000000) (hc : w.cell? ⟨g, 0, none⟩ = some (.int .i64 x.c) ∧ w.cell? ⟨g, 1, none⟩ = some (.int .i64 x.p)) :
    Calls Tryz.prog 208 #[.slice ao n cap, .func (.func 209) #[] #[.pointer (some ⟨g, 0, none⟩)]] w fun e w' => e = .returned (.bool (othB L x)) ∧ Below w.heap.size w w' := by
  have HI : Hid (Calls Tryz.prog 171 #[.slice ao n cap, .func (.func 209) #[] #[.pointer (some ⟨g, 0, none⟩)]] w fun e w' => e = .returned (.int .i64 (otZ L x)) ∧ Below w.heap.size w w') := index2_any ao n cap L x g w hL hn hl hc
  clear hL hn hc
  rw [← otZ_iff]
  go_enter Tryz.func208, Tryz.ntmps208
  go_wp2_with (first
    | (go_at_call 171; refine HI.out.mono ?_; rintro e w1 ⟨rfl, hb1⟩)
    | fail)
  go_ret
  exact ⟨ret_bool (by simp), hb1⟩

set_option maxHeartbeats 1600000 in
theorem othersWait_any {B : Nat} {V : Nat → Prop} {w : World} {d g q : Nat} {S : St} {n : Nat} (H : Dk B V w d g q S n) (x : Wt) : Calls Tryz.prog 202 #[dp d, wtV x] w fun e w' => e = .returned (.bool (othB S.L x)) ∧ Below w.heap.size w w' := by
  have hmf : ∀ (fn : Fn) (first cap : Array Value) (w : World), (Instr.makeFunc fn first cap).run Tryz.prog w = .ok (.func fn first cap) w := fun _ _ _ _ => rfl
  have hb0 : Below w.heap.size w (w.alloc (wtO x)) := (Below.refl _ _).alloc (Nat.le_refl _) _
  have h1 := (H.below hb0).c1
  have HA : Hid (Calls Tryz.prog 144 #[qp q] (w.alloc (wtO x)) fun e w' => ∃ a c, e = .returned (.slice a S.L.length c) ∧ Below w.heap.size w w' ∧ Hid (Calls Tryz.prog 208 #[.slice a S.L.length c, .func (.func 209) #[] #[.pointer (some ⟨w.heap.size, 0, none⟩)]] w' fun e w2 => e = .returned (.bool (othB S.L x)) ∧ Below w.heap.size w w2)) := by
    refine (allK (H.below hb0)).mono ?_
    rintro e w' ⟨a, c, rfl, h2, h3, h4⟩
    refine ⟨a, c, rfl, below_step hb0 h4, ?_⟩
    obtain ⟨k0, k1, -, -⟩ := box_cells w x h4
    refine (contains_any a _ c S.L x w.heap.size w' h2.rd rfl (by have := H.len; omega) ⟨k0, k1⟩).mono ?_
    rintro e w2 ⟨rfl, h5⟩
    exact ⟨rfl, below_step (below_step hb0 h4) h5⟩
  clear H hb0
  go_enter Tryz.func202, Tryz.ntmps202
  go_wp2_with (first
    | (go_at_call 144; refine HA.out.mono ?_; rintro e w1 ⟨a, c, rfl, hb1, HC⟩)
    | (go_at_call 208; refine HC.out.mono ?_; rintro e w2 ⟨rfl, hb2⟩)
    | fail)
  go_ret
  exact ⟨rfl, hb2⟩

end Go.Proofs.YtpofihiojhbfgaaGreatDoor.Dsk
