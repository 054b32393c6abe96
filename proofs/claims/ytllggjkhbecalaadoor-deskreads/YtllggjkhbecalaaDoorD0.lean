/- A desk: what is sent, what it does as mathematics, and how it lies in memory. Each call of its table and of its queue as one contract. -/
import Derived.Test.YtllggjkhbecalaaDoorDm
import Derived.Test.YtllggjkhbecalaaDoorT3
import Derived.Test.YtllggjkhbecalaaDoorW3
namespace Go.Proofs.YtllggjkhbecalaaDoor
open Go.RowKit Go.Maps
set_option linter.unusedVariables false
set_option maxRecDepth 8000

/-- Something that is sent. -/
structure Sa where
  c : Int
  k : Int
  p : Int
  o : Int
  cp : Int
  ow : Int
  wr : Bool

def saC (x : Sa) : List Value := [.int .i64 x.c, .int .i64 x.k, .int .i64 x.p, .int .i64 x.o, .int .i64 0, .int .i64 x.cp, .int .i64 x.ow, .bool x.wr, .slice none 0 0, .complex .f64 0 0, .complex .f64 0 0, .complex .f64 0 0, .complex .f64 0 0]
abbrev saV (x : Sa) : Value := .agg #[.int .i64 x.c, .int .i64 x.k, .int .i64 x.p, .int .i64 x.o, .int .i64 0, .int .i64 x.cp, .int .i64 x.ow, .bool x.wr, .slice none 0 0, .complex .f64 0 0, .complex .f64 0 0, .complex .f64 0 0, .complex .f64 0 0]
abbrev saO (x : Sa) : Obj := .cells #[.int .i64 x.c, .int .i64 x.k, .int .i64 x.p, .int .i64 x.o, .int .i64 0, .int .i64 x.cp, .int .i64 x.ow, .bool x.wr, .slice none 0 0, .complex .f64 0 0, .complex .f64 0 0, .complex .f64 0 0, .complex .f64 0 0] 34
theorem saE : Enc saC 13 := ⟨fun _ => rfl, fun x u hu => by
  simp only [saC, List.mem_cons, List.not_mem_nil, or_false] at hu
  rcases hu with rfl | rfl | rfl | rfl | rfl | rfl | rfl | rfl | rfl | rfl | rfl | rfl | rfl <;> rfl, by decide⟩
theorem info34 : (Tryd.prog.info? 34).map (fun i => (i.zero, i.size, i.bytes)) = some (some (saV ⟨0, 0, 0, 0, 0, 0, false⟩), 13, 152) := by kernel_rfl

/-! ### What a desk does -/

/-- What clients have, what they wait for, the calls. -/
structure St where
  T : Nat → Nat
  L : List Wt
  K : List Ck

def hoS (S : St) (x : Wt) : List Int := Tab.hoI S.T x.c x.p x.o x.wr
def othB (L : List Wt) (x : Wt) : Bool := L.any (fun y => !(y.c == x.c) && y.p == x.p)
def dueA (T : Nat → Nat) (L : List Wt) (x : Wt) : Bool := x.wr && (Tab.alI T x.c x.p && !othB L x)
def cps (T : Nat → Nat) (L : List Wt) (x : Wt) : Nat := Tab.sub (Tab.frI T x.c x.p) (resN x.c x.p L) ||| 2 ^ x.o.toNat
def dueC (T : Nat → Nat) (L : List Wt) (x : Wt) : Nat := if dueA T L x then 15 else cps T L x
def dueO (T : Nat → Nat) (L : List Wt) (x : Wt) : Nat := if dueA T L x then 15 else if x.wr then 2 ^ x.o.toNat else 0
def givS (S : St) (x : Wt) : St := ⟨Tab.gT S.T x.c x.p (dueC S.T (rmL S.L x.c) x) (dueO S.T (rmL S.L x.c) x), rmL S.L x.c, S.K⟩
def givA (S : St) (x : Wt) : Sa := ⟨x.c, 5, x.p, 0, (Tab.cpI (givS S x).T x.c x.p : Nat), (Tab.owI (givS S x).T x.c x.p : Nat), false⟩
def calA (h : Int) (x : Wt) : Sa := ⟨h, 6, x.p, x.o, 0, 0, x.wr⟩
def faiA (c : Int) : Sa := ⟨c, 8, 0, 0, 151, 0, false⟩
/-- Some are called. -/
def cals (x : Wt) : List Int → List Ck × List Sa → List Ck × List Sa
  | [], s => s
  | h :: hs, s => cals x hs (calK s.1 (kyOf h x), if calB s.1 (kyOf h x) then s.2 ++ [calA h x] else s.2)
def skipB (S : St) (K : List Ck) (x : Wt) : Bool := decide (0 < (ahead S.L x).length) || routB K x.c x.p
/-- The wants are gone through up to the first that is granted. -/
def pass (S : St) : List Wt → List Ck × List Sa → (List Ck × List Sa) × Option Wt
  | [], s => (s, none)
  | x :: M, s => if skipB S s.1 x then pass S M s else if (hoS S x).length = 0 then (s, some x) else pass S M ((cals x (hoS S x) (s.1, [])).1, s.2 ++ (cals x (hoS S x) (s.1, [])).2)
def pasR (S : St) : (List Ck × List Sa) × Option Wt → St × List Sa × Bool
  | (s, none) => (⟨S.T, S.L, s.1⟩, s.2, false)
  | (s, some x) => (givS ⟨S.T, S.L, s.1⟩ x, s.2 ++ [givA ⟨S.T, S.L, s.1⟩ x], true)
def pas (S : St) : St × List Sa × Bool := pasR S (pass S S.L (S.K, []))
def serv : Nat → St → St × List Sa
  | 0, S => (S, [])
  | n + 1, S => if (pas S).2.2 then ((serv n (pas S).1).1, (pas S).2.1 ++ (serv n (pas S).1).2) else ((pas S).1, (pas S).2.1)
def hEd (S : St) (x : Wt) (hs : List Int) : List (Int × Int) := (hs.filter fun h => wasB S.K (kyOf h x)).map fun h => (x.c, h)
def aEd (x : Wt) (l : List Int) : List (Int × Int) := l.map fun c => (x.c, c)
def edgL (S : St) : List Wt → List (Int × Int)
  | [] => []
  | x :: M => hEd S x (hoS S x) ++ (aEd x (ahead S.L x) ++ edgL S M)
def edg (S : St) : List (Int × Int) := edgL S S.L
def outS (S : St) (c : Int) : St := ⟨S.T, rmL S.L c, S.K⟩
def brk : Nat → St → St × List Sa
  | 0, S => (S, [])
  | n + 1, S => if Wai.vcB (edg S) then
      ((brk n (serv ((outS S (Wai.vcI (edg S))).L.length + 1) (outS S (Wai.vcI (edg S)))).1).1,
        faiA (Wai.vcI (edg S)) :: ((serv ((outS S (Wai.vcI (edg S))).L.length + 1) (outS S (Wai.vcI (edg S)))).2 ++ (brk n (serv ((outS S (Wai.vcI (edg S))).L.length + 1) (outS S (Wai.vcI (edg S)))).1).2))
    else (S, [])
def setl (S : St) : St × List Sa := ((brk ((serv (S.L.length + 1) S).1.L.length + 1) (serv (S.L.length + 1) S).1).1, (serv (S.L.length + 1) S).2 ++ (brk ((serv (S.L.length + 1) S).1.L.length + 1) (serv (S.L.length + 1) S).1).2)

/-! ### In memory -/

abbrev dp (d : Nat) : Value := .pointer (some ⟨d, 0, none⟩)

/-- A desk: block d leads to its table (block g) and its queue (block q); V are blocks of others. -/
structure Dk (B : Nat) (V : Nat → Prop) (W : World) (d g q : Nat) (S : St) (n : Nat) : Prop where
  blk : W.heap[d]? = some (.cells #[Tab.tp g, qp q] 51 (0, 0))
  tb : Tab.Tb W g S.T
  qk : ∃ C, Qx B (fun k => V k ∨ k = d ∨ k = g) W q S.L C n ∧ KC S.K C
  dg : d ≠ g
  bd : B ≤ d
  bg : B ≤ g
  vd : ¬ V d
  vg : ¬ V g
  nice : Nice S.L

/-- Behind a step. -/
structure Dx (B : Nat) (V : Nat → Prop) (W W' : World) (d g q : Nat) (S : St) (n : Nat) : Prop where
  dk : Dk B V W' d g q S n
  keep : ∀ k, V k → W'.heap[k]? = W.heap[k]?
  bel : Below B W W'

section
variable {B : Nat} {V : Nat → Prop} {W W' : World} {d g q : Nat} {S : St} {n : Nat}
theorem Dk.lt (h : Dk B V W d g q S n) : d < W.heap.size := (Array.getElem?_eq_some_iff.1 h.blk).1
theorem Dk.hB (h : Dk B V W d g q S n) : B ≤ W.heap.size := Nat.le_trans h.bd (Nat.le_of_lt h.lt)
theorem Dk.c0 (h : Dk B V W d g q S n) : W.cell? ⟨d, 0, none⟩ = some (Tab.tp g) := by rw [cell_of_row _ _ _ _ _ _ h.blk]; rfl
theorem Dk.c1 (h : Dk B V W d g q S n) : W.cell? ⟨d, 1, none⟩ = some (qp q) := by rw [cell_of_row _ _ _ _ _ _ h.blk]; rfl
theorem Dk.len (h : Dk B V W d g q S n) : S.L.length ≤ 4 := h.nice.le4
theorem Dk.le {m : Nat} (h : Dk B V W d g q S n) (hm : n ≤ m) : Dk B V W d g q S m := by
  obtain ⟨C, h1, h2⟩ := h.qk
  exact ⟨h.blk, h.tb, ⟨C, h1.le hm, h2⟩, h.dg, h.bd, h.bg, h.vd, h.vg, h.nice⟩
/-- What is not of others stays: so does the desk; new blocks may become others'. -/
theorem Dk.move {V2 : Nat → Prop} (h : Dk B V W d g q S n) (hs : W.heap.size ≤ W'.heap.size) (hk : ∀ k, k < W.heap.size → ¬ V k → W'.heap[k]? = W.heap[k]?) (hV : ∀ k, V2 k → V k ∨ W.heap.size ≤ k) : Dk B V2 W' d g q S n := by
  obtain ⟨C, h1, h2⟩ := h.qk
  refine ⟨(hk d h.lt h.vd).trans h.blk, h.tb.keep hs (hk g h.tb.lt h.vg), ⟨C, ?_, h2⟩, h.dg, h.bd, h.bg, ?_, ?_, h.nice⟩
  · have h3 : Qw W' (fun k => (B ≤ k ∧ k < W.heap.size ∧ ¬ (V k ∨ k = d ∨ k = g))) q S.L C n := Qw.keep h1 fun k ha hl => hk k hl fun h' => ha.2.2 (.inl h')
    refine h3.mono fun k hl ha => ⟨ha.1, hl, ?_⟩
    rintro (h' | h')
    · rcases hV k h' with h4 | h4
      · exact ha.2.2 (.inl h4)
      · have := ha.2.1; omega
    · exact ha.2.2 (.inr h')
  · intro h'
    rcases hV d h' with h4 | h4
    · exact h.vd h4
    · have := h.lt; omega
  · intro h'
    rcases hV g h' with h4 | h4
    · exact h.vg h4
    · have := h.tb.lt; omega
theorem Dk.below (h : Dk B V W d g q S n) (hb : Below W.heap.size W W') : Dk B V W' d g q S n := h.move hb.size (fun k hk _ => hb.block k hk) fun k hk => .inl hk
theorem Dk.more {V2 : Nat → Prop} (h : Dk B V W d g q S n) (hb : Below W.heap.size W W') (hV : ∀ k, V2 k → V k ∨ W.heap.size ≤ k) : Dk B V2 W' d g q S n := h.move hb.size (fun k hk _ => hb.block k hk) hV
theorem Dk.less {V2 : Nat → Prop} (h : Dk B V W d g q S n) (hV : ∀ k, V2 k → V k) : Dk B V2 W d g q S n := h.move (Nat.le_refl _) (fun _ _ _ => rfl) fun k hk => .inl (hV k hk)
theorem Dk.qw (h : Dk B V W d g q S n) : ∃ C, Qw W (fun k => B ≤ k ∧ k < W.heap.size ∧ ¬ (V k ∨ k = d ∨ k = g)) q S.L C n ∧ KC S.K C := h.qk

theorem Dk.dx (h : Dk B V W d g q S n) (hb : Below W.heap.size W W') (hV : ∀ k, V k → k < W.heap.size) : Dx B V W W' d g q S n := ⟨h.below hb, fun k hk => hb.block k (hV k hk), hb.mono h.hB⟩
theorem Dx.trans {W2 : World} {S2 : St} {n2 : Nat} {S0 : St} {n0 : Nat} (h : Dx B V W W' d g q S0 n0) (h2 : Dx B V W' W2 d g q S2 n2) : Dx B V W W2 d g q S2 n2 :=
  ⟨h2.dk, fun k hk => (h2.keep k hk).trans (h.keep k hk), h.bel.trans h2.bel⟩
theorem Dx.less {V2 : Nat → Prop} (h : Dx B V W W' d g q S n) (hV : ∀ k, V2 k → V k) : Dx B V2 W W' d g q S n := ⟨h.dk.less hV, fun k hk => h.keep k (hV k hk), h.bel⟩
theorem Dx.le {m : Nat} (h : Dx B V W W' d g q S n) (hm : n ≤ m) : Dx B V W W' d g q S m := ⟨h.dk.le hm, h.keep, h.bel⟩
theorem Dx.size (h : Dx B V W W' d g q S n) : W.heap.size ≤ W'.heap.size := h.bel.size

/-- A step of the table. -/
theorem Dk.table {T : Nat → Nat} (h : Dk B V W d g q S n) (hV : ∀ k, V k → k < W.heap.size) (ht : Tab.Tb W' g T) (ho : Tab.Off g W W') : Dx B V W W' d g q ⟨T, S.L, S.K⟩ n := by
  obtain ⟨C, h1, h2⟩ := h.qk
  refine ⟨⟨(ho.block d h.lt h.dg).trans h.blk, ht, ⟨C, ?_, h2⟩, h.dg, h.bd, h.bg, h.vd, h.vg, h.nice⟩, fun k hk => ho.block k (hV k hk) fun e => h.vg (e ▸ hk), ho.below h.bg h.hB⟩
  have h3 : Qw W' (fun k => (B ≤ k ∧ k < W.heap.size ∧ ¬ (V k ∨ k = d ∨ k = g))) q S.L C n := Qw.keep h1 fun k ha hl => ho.block k hl fun e => ha.2.2 (.inr (.inr e))
  exact h3.mono fun k hl ha => ⟨ha.1, hl, ha.2.2⟩
/-- A step of the queue. -/
theorem Dk.queue {L : List Wt} {K : List Ck} {C : Cl} {m : Nat} (h : Dk B V W d g q S n) (hs : Sx B (fun k => V k ∨ k = d ∨ k = g) W W' q L C m) (hK : KC K C) (hL : Nice L) : Dx B V W W' d g q ⟨S.T, L, K⟩ m :=
  ⟨⟨(hs.keep d (.inr (.inl rfl))).trans h.blk, h.tb.keep hs.size (hs.keep g (.inr (.inr rfl))), ⟨C, hs.qx, hK⟩, h.dg, h.bd, h.bg, h.vd, h.vg, hL⟩, fun k hk => hs.keep k (.inl hk), hs.bel⟩
theorem Dk.oth (h : Dk B V W d g q S n) (hV : ∀ k, V k → k < W.heap.size) : ∀ k, (V k ∨ k = d ∨ k = g) → k < W.heap.size := by
  rintro k (h' | rfl | rfl)
  · exact hV k h'
  · exact h.lt
  · exact h.tb.lt

theorem addK (h : Dk B V W d g q S n) (hV : ∀ k, V k → k < W.heap.size) (x : Wt) : Calls Tryd.prog 15 #[qp q, wtV x] W fun e w' => e = .returned (.bool (addB S.L x)) ∧ Dx B V W w' d g q ⟨S.T, addL S.L x, S.K⟩ n := by
  obtain ⟨C, h1, h2⟩ := h.qk
  refine (addX h1 (h.oth hV) h.hB (by have := h.len; omega) x).mono ?_
  rintro e w' ⟨rfl, hs⟩
  exact ⟨rfl, h.queue hs h2 (h.nice.add x)⟩
theorem removeK (h : Dk B V W d g q S n) (hV : ∀ k, V k → k < W.heap.size) (c : Int) : Calls Tryd.prog 39 #[qp q, .int .i64 c] W fun e w' => e = .returned (.bool (hasB S.L c)) ∧ Dx B V W w' d g q (outS S c) n := by
  obtain ⟨C, h1, h2⟩ := h.qk
  refine (removeX h1 (h.oth hV) h.hB (by have := h.len; omega) c).mono ?_
  rintro e w' ⟨rfl, hs⟩
  exact ⟨rfl, h.queue hs h2 (h.nice.rm c)⟩
theorem callK (h : Dk B V W d g q S n) (hV : ∀ k, V k → k < W.heap.size) (hn : n ≤ 1000000) (y : Int) (x : Wt) : Calls Tryd.prog 61 #[qp q, .int .i64 y, wtV x] W fun e w' => e = .returned (.bool (calB S.K (kyOf y x))) ∧ Dx B V W w' d g q ⟨S.T, S.L, calK S.K (kyOf y x)⟩ (n + 1) := by
  obtain ⟨C, h1, h2⟩ := h.qk
  refine (callX h1 (h.oth hV) h.hB hn y x).mono ?_
  rintro e w' ⟨rfl, hs⟩
  exact ⟨by rw [h2.callB y x], h.queue hs (h2.call y x) h.nice⟩
theorem busyK (h : Dk B V W d g q S n) (hV : ∀ k, V k → k < W.heap.size) (hn : n ≤ 1000000) (y : Int) (x : Wt) (hk : (kyOf y x).ok) : Calls Tryd.prog 18 #[qp q, .int .i64 y, wtV x] W fun e w' => e = .returned (.bool (busB S.K (kyOf y x))) ∧ Dx B V W w' d g q ⟨S.T, S.L, busK S.K (kyOf y x)⟩ (n + 1) := by
  obtain ⟨C, h1, h2⟩ := h.qk
  refine (busyX h1 (h.oth hV) h.hB hn y x hk).mono ?_
  rintro e w' ⟨rfl, hs⟩
  exact ⟨by rw [(h2.there _).1], h.queue hs (h2.busy y x) h.nice⟩
theorem answerK (h : Dk B V W d g q S n) (hV : ∀ k, V k → k < W.heap.size) (k : Wt) (hk : k.ok) : Calls Tryd.prog 35 #[qp q, .int .i64 k.c, .int .i64 k.p, .int .i64 k.o, .bool k.wr] W fun e w' => e = .returned (.tuple #[]) ∧ Dx B V W w' d g q ⟨S.T, S.L, ansK S.K k⟩ n := by
  obtain ⟨C, h1, h2⟩ := h.qk
  refine (answerX h1 (h.oth hV) h.hB k hk).mono ?_
  rintro e w' ⟨rfl, hs⟩
  exact ⟨rfl, h.queue hs (h2.answer k) h.nice⟩
theorem calledK (h : Dk B V W d g q S n) (y : Int) (x : Wt) (hk : (kyOf y x).ok) : Calls Tryd.prog 25 #[qp q, .int .i64 y, wtV x] W fun e w' => e = .returned (.tuple #[.bool (busB S.K (kyOf y x)), .bool (wasB S.K (kyOf y x))]) ∧ Below W.heap.size W w' := by
  obtain ⟨C, h1, h2⟩ := h.qw
  refine (called_any W _ q S.L C n h1 y x hk).mono ?_
  rintro e w' ⟨rfl, hs⟩
  exact ⟨by rw [(h2.there _).1, (h2.there _).2], hs⟩
theorem outK (h : Dk B V W d g q S n) (c p : Int) : Calls Tryd.prog 52 #[qp q, .int .i64 c, .int .i64 p] W fun e w' => e = .returned (.bool (routB S.K c p)) ∧ Below W.heap.size W w' := by
  obtain ⟨C, h1, h2⟩ := h.qw
  refine (out_any W _ q S.L C n h1 c p).mono ?_
  rintro e w' ⟨rfl, hs⟩
  exact ⟨by rw [h2.out c p], hs⟩
theorem allK (h : Dk B V W d g q S n) : Calls Tryd.prog 23 #[qp q] W fun e w' => ∃ a c, e = .returned (.slice a S.L.length c) ∧ OwR wtC 4 43 w' a c S.L ∧ (∀ x, a = some x → x.block = W.heap.size) ∧ Below W.heap.size W w' := by
  obtain ⟨C, h1, h2⟩ := h.qw
  exact all_any W _ q S.L C n h1 (by have := h.len; omega)
theorem aheadK (h : Dk B V W d g q S n) (x : Wt) : Calls Tryd.prog 26 #[qp q, wtV x] W fun e w' => ∃ a c, e = .returned (.slice a (ahead S.L x).length c) ∧ OwnI w' W.heap.size 3 .i64 a c (ahead S.L x) ∧ Below W.heap.size W w' := by
  obtain ⟨C, h1, h2⟩ := h.qw
  exact ahead_any W _ q S.L C n h1 (by have := h.len; omega) x
theorem reservedK (h : Dk B V W d g q S n) (c p : Int) : Calls Tryd.prog 67 #[qp q, .int .i64 c, .int .i64 p] W fun e w' => e = .returned (.int .i64 ((resN c p S.L : Nat) : Int)) ∧ Below W.heap.size W w' := by
  obtain ⟨C, h1, h2⟩ := h.qw
  exact reserved_any W _ q S.L C n h1 (by have := h.len; omega) h.nice.rt c p
theorem grantK (h : Dk B V W d g q S n) (hV : ∀ k, V k → k < W.heap.size) (c p a b : Int) (u : Bool) (hu : Tab.gOk S.T c p a b = u) : Calls Tryd.prog 60 #[Tab.tp g, .int .i64 c, .int .i64 p, .int .i64 a, .int .i64 b] W fun e w' => e = .returned (.bool u) ∧ Dx B V W w' d g q ⟨Tab.gT S.T c p a b, S.L, S.K⟩ n := by
  refine (Tab.grant_any W g S.T h.tb c p a b u hu).mono ?_
  rintro e w' ⟨rfl, h1, h2⟩
  exact ⟨rfl, h.table hV h1 h2⟩
theorem dropK (h : Dk B V W d g q S n) (hV : ∀ k, V k → k < W.heap.size) (c p a b : Int) : Calls Tryd.prog 16 #[Tab.tp g, .int .i64 c, .int .i64 p, .int .i64 a, .int .i64 b] W fun e w' => e = .returned (.tuple #[]) ∧ Dx B V W w' d g q ⟨Tab.dT S.T c p a b, S.L, S.K⟩ n := by
  refine (Tab.drop_any W g S.T h.tb c p a b).mono ?_
  rintro e w' ⟨rfl, h1, h2⟩
  exact ⟨rfl, h.table hV h1 h2⟩
end

end Go.Proofs.YtllggjkhbecalaaDoor
