/- The reckoner: its definitions. No walk. -/
import Derived.RangeFuncIn
import Derived.OrdersIn
import Derived.Below
set_option linter.unusedVariables false
namespace Go.Proofs.YtemldmjpanmdbaaGreatDoor.Ev

/-! ### Trees -/
/-- A perfect tree of depth n over numbers below 2^n. -/
def Tr (α : Type) (n : Nat) : Type := Nat.rec (motive := fun _ => Type) (Option α) (fun _ t => t × t) n
namespace Tr
variable {α : Type}
def emp (n : Nat) : Tr α n := Nat.rec (motive := fun n => Tr α n) (none : Option α) (fun _ t => ((t, t) : Tr α _ × Tr α _)) n
def low (k n : Nat) : Bool := Nat.beq (Nat.land (Nat.shiftRight k n) 1) 0
def get (n : Nat) : Tr α n → Nat → Option α :=
  Nat.rec (motive := fun n => Tr α n → Nat → Option α) (fun t _ => t)
    (fun n g t k => cond (Nat.beq (Nat.land (Nat.shiftRight k n) 1) 0) (g (Prod.fst t) k) (g (Prod.snd t) k)) n
def set (n : Nat) : Tr α n → Nat → Option α → Tr α n :=
  Nat.rec (motive := fun n => Tr α n → Nat → Option α → Tr α n) (fun _ _ v => v)
    (fun n s t k v => cond (Nat.beq (Nat.land (Nat.shiftRight k n) 1) 0) (Prod.mk (s (Prod.fst t) k v) (Prod.snd t)) (Prod.mk (Prod.fst t) (s (Prod.snd t) k v))) n
/-- One level more. -/
def up {n : Nat} (t : Tr α n) : Tr α (n + 1) := ((t, emp n) : Tr α n × Tr α n)
end Tr

/-! ### Options -/
def ob {α β : Type} (x : Option α) (f : α → Option β) : Option β := Option.casesOn (motive := fun _ => Option β) x none f
/-- If so. -/
def iff' {β : Type} (b : Bool) (x : Option β) : Option β := cond b x none

/-! ### Values -/
/-- No address stands in it (to depth n). -/
def flatN : Nat → Value → Bool
  | _, .bool _ | _, .int .. | _, .float .. | _, .complex .. | _, .string _ | _, .pointer none | _, .slice none _ _ | _, .map none | _, .nilFunc | _, .nilIface => true
  | n + 1, .func (.func _) first captured => first.toList.all (flatN n) && captured.toList.all (flatN n)
  | n + 1, .iface _ v => flatN n v
  | n + 1, .agg cs | n + 1, .tuple cs => cs.toList.all (flatN n)
  | _, _ => false
abbrev flat : Value → Bool := flatN 8
/-- What a Sem comes to that touches no memory. -/
def pureOf {α : Type} (P : Program) : Sem α → Option α
  | .pure a => some a
  | .program k => pureOf P (k P)
  | .mark _ k => pureOf P k
  | _ => none

/-! ### The heap -/
/-- A row of variables. -/
structure Row where
  t : TypeId
  len : Nat
  d : Nat
  c : Tr Value d
abbrev AO : Type := Row ⊕ Obj
abbrev HD : Nat := 12
structure St where
  h : Tr AO HD
  nx : Nat
structure Dg where
  und : TypeDesc
  size : Nat
  zero : Option Value
  bytes : Nat
structure Env where
  P : Program
  ty : Tr Dg 9
  fn : Tr Func 9
/-- The tree of a list: what lies at k is its k-th. -/
def Tr.ofL {α : Type} (n : Nat) : List α → Tr α n :=
  Nat.rec (motive := fun n => List α → Tr α n) (fun l => (l.head? : Option α)) (fun n g l => ((g l, g (l.drop (Nat.pow 2 n))) : Tr α n × Tr α n)) n
/-- The tree of a function. -/
def Tr.ofF {α : Type} (f : Nat → Option α) (n : Nat) : Nat → Tr α n :=
  Nat.rec (motive := fun n => Nat → Tr α n) (fun k => (f k : Option α)) (fun n g k => ((g k, g (Nat.add k (Nat.pow 2 n))) : Tr α n × Tr α n)) n
def mkDg (inf : Tr TypeInfo 9) (t : TypeId) : Option Dg :=
  ob (Tr.get 9 inf t) fun i => ob (match i.desc with | .named _ u => cond (Nat.blt u 512) (ob (Tr.get 9 inf u) fun j => some j.desc) none | d => some d) fun d =>
    some { und := d, size := i.size, zero := (match i.zero with | some z => cond (flat z) (some z) none | none => none), bytes := i.bytes }
def mkTy (P : Program) : Tr Dg 9 := Tr.ofF (mkDg (Tr.ofL 9 P.types.toList)) 9 0
def mkFn (P : Program) : Tr Func 9 := Tr.ofL 9 P.funcs.toList
def Env.dg (E : Env) (t : TypeId) : Option Dg := cond (Nat.blt t 512) (Tr.get 9 E.ty t) none

def rdO (S : St) (r : Nat) : Option AO := cond (Nat.blt r 4096) (Tr.get HD S.h r) none
def rdR (S : St) (r : Nat) : Option Row := ob (rdO S r) fun o => Sum.casesOn (motive := fun _ => Option Row) o (fun row => some row) (fun _ => none)
def rdC (S : St) (r x : Nat) : Option Value := ob (rdR S r) fun row => iff' (Nat.blt x row.len) (Tr.get row.d row.c x)
/-- Whose number is a range: of some number from m % 65536 to m / 65536; else nothing is known. -/
def ivl : Option Nat → Option Nat
  | some (m + 1) => some m
  | _ => none
def oneCell : Value → Bool
  | .agg _ | .tuple _ => false
  | .chan c => (ivl c).isSome
  | _ => true
def putO (S : St) (r : Nat) (o : AO) : St := { S with h := Tr.set HD S.h r (some o) }
/-- The cells from x on. -/
def cellsFrom (row : Row) (x : Nat) : Nat → Option (List Value)
  | 0 => some []
  | n + 1 => ob (Tr.get row.d row.c x) fun v => ob (cellsFrom row (Nat.add x 1) n) fun l => some (v :: l)
def rdCs (S : St) (r x n : Nat) : Option (List Value) := ob (rdR S r) fun row => iff' (Nat.ble (Nat.add x n) row.len) (cellsFrom row x n)
def setCells {d : Nat} (c : Tr Value d) (x : Nat) : List Value → Option (Tr Value d)
  | [] => some c
  | v :: l => cond (oneCell v) (setCells (Tr.set d c x (some v)) (Nat.add x 1) l) none
def wrCs (E : Env) (S : St) (r x : Nat) (l : List Value) : Option St :=
  ob (rdR S r) fun row => iff' (Nat.ble (Nat.add x l.length) row.len )
    (ob (setCells row.c x l) fun c => some (putO S r (.inl { row with c })))
/-- A new thing. -/
def newO (S : St) (o : AO) : Option (Nat × St) :=
  iff' (Nat.blt S.nx 4096) (some (S.nx, { h := Tr.set HD S.h S.nx (some o), nx := Nat.add S.nx 1 }))
/-- How deep a tree of so many is. -/
def depth (n : Nat) : Nat := cond (Nat.ble n 1) 0 (Nat.add (Nat.log2 (Nat.sub n 1)) 1)
def rowOf (t : TypeId) (cs : List Value) : Option Row :=
  let d := depth cs.length
  iff' (Nat.ble cs.length (Nat.pow 2 d)) (ob (setCells (Tr.emp d) 0 cs) fun c => some { t, len := cs.length, d, c })
def newRow (S : St) (t : TypeId) (cs : List Value) : Option (Nat × St) := ob (rowOf t cs) fun row => newO S (.inl row)
def zeros (z : List Value) : Nat → List Value
  | 0 => []
  | n + 1 => z ++ zeros z n
/-- Nothing is known of it any more. -/
def dead : AO := .inr (.coro none)

/-! ### Operations -/
/-- Made ready: the kernel keeps what is inside. -/
structure Bx (α : Type) where
  f : α
abbrev Tmps := Nat → Option Value
abbrev Arg (α : Type) := Bx (Tmps → Option α)
abbrev CallF := FuncId → List Value → St → Option (Value × St)
abbrev Res := Option (Value × St)

def opd (E : Env) : Operand → Arg Value
  | .tmp t => ⟨fun ρ => ρ t⟩
  | .const v => cond (flat v) ⟨fun _ => some v⟩ ⟨fun _ => none⟩
  | .global _ => ⟨fun _ => none⟩
  | .func f => ⟨fun _ => some (.func (.func f) #[] #[])⟩
def opds (E : Env) : List Operand → Arg (List Value)
  | [] => ⟨fun _ => some []⟩
  | x :: l => ⟨fun ρ => ob ((opd E x).f ρ) fun v => ob ((opds E l).f ρ) fun vs => some (v :: vs)⟩
def known : Value → Bool
  | .chan c => (ivl c).isSome
  | _ => true
/-- A number that is only known to be from lo to hi. -/
def rng (lo hi : Nat) : Value := .chan (some (Nat.add (Nat.add lo (Nat.mul 65536 hi)) 1))
/-- A range held against a number. -/
def ivC (op : BinOp) (a b : Value) : Option Bool :=
  match a, b with
  | .chan c, .int .i64 (.ofNat n) => ob (ivl c) fun m => match op with
    | .lss => cond (Nat.blt (Nat.div m 65536) n) (some true) (cond (Nat.ble n (Nat.mod m 65536)) (some false) none)
    | .leq => cond (Nat.ble (Nat.div m 65536) n) (some true) (cond (Nat.blt n (Nat.mod m 65536)) (some false) none)
    | .gtr => cond (Nat.blt n (Nat.mod m 65536)) (some true) (cond (Nat.ble (Nat.div m 65536) n) (some false) none)
    | .geq => cond (Nat.ble n (Nat.mod m 65536)) (some true) (cond (Nat.blt (Nat.div m 65536) n) (some false) none)
    | _ => none
  | _, _ => none
/-- The greater and the lesser of a range and a number, where the range tells which. -/
def ivB (b : Builtin) (l : List Value) : Option Value :=
  match b, l with
  | .max, [.chan c, .int .i64 (.ofNat n)] => ob (ivl c) fun m => cond (Nat.ble n (Nat.mod m 65536)) (some (.chan c)) none
  | .min, [.chan c, .int .i64 (.ofNat n)] => ob (ivl c) fun m => cond (Nat.ble (Nat.div m 65536) n) (some (.chan c)) none
  | _, _ => none
def opdp (E : Env) : List (Nat × Operand) → Arg (List (Nat × Value))
  | [] => ⟨fun _ => some []⟩
  | x :: l => ⟨fun ρ => ob ((opd E x.2).f ρ) fun v => iff' (known v) <| ob ((opdp E l).f ρ) fun vs => some ((x.1, v) :: vs)⟩
def opdo (E : Env) : Option Operand → Arg (Option Value)
  | none => ⟨fun _ => some none⟩
  | some x => ⟨fun ρ => ob ((opd E x).f ρ) fun v => some (some v)⟩
def ptrOf : Value → Option Addr
  | .pointer (some ⟨r, off, none⟩) => some ⟨r, off, none⟩
  | _ => none
def isAggD : TypeDesc → Bool
  | .struct _ | .array .. => true
  | _ => false
def val (v : Option Value) (S : St) : Res := ob v fun v => some (v, S)

def cLoad (E : Env) (t : TypeId) (x : Arg Value) : Bx (Tmps → St → Res) :=
  match E.dg t with
  | none => Bx.mk fun _ _ => none
  | some d => cond (isAggD d.und)
      (Bx.mk fun ρ S => ob (x.f ρ) fun a => ob (ptrOf a) fun a => ob (rdCs S a.block a.off d.size) fun l => some (.agg l.toArray, S))
      (Bx.mk fun ρ S => ob (x.f ρ) fun a => ob (ptrOf a) fun a => ob (rdC S a.block a.off) fun v => some (v, S))
def cStore (E : Env) (t : TypeId) (x y : Arg Value) : Bx (Tmps → St → Res) :=
  match E.dg t with
  | none => Bx.mk fun _ _ => none
  | some d => Bx.mk fun ρ S => ob (x.f ρ) fun a => ob (ptrOf a) fun a => ob (y.f ρ) fun v => iff' (Nat.beq v.cells.size d.size)
      (ob (wrCs E S a.block a.off v.cells.toList) fun S => some (undef, S))
def places (E : Env) : List Field → Option (List (Nat × Nat))
  | [] => some []
  | f :: l => ob (E.dg f.type) fun d => ob (places E l) fun ps => some ((f.offset, d.size) :: ps)
def cBuild (E : Env) (t : TypeId) (parts : Arg (List (Nat × Value))) : Bx (Tmps → St → Res) :=
  match E.dg t with
  | some { und := .struct fs, zero := some z, .. } => (match places E fs.toList with
    | some ps => Bx.mk fun ρ S => ob (parts.f ρ) fun l => ob (Instr.fill (ps.toArray[·]?) z.cells l) fun cs => some (.agg cs, S)
    | none => Bx.mk fun _ _ => none)
  | some { und := .array _ elem, zero := some z, .. } => (match E.dg elem with
    | some e => Bx.mk fun ρ S => ob (parts.f ρ) fun l => ob (Instr.fill (fun i => some (i * e.size, e.size)) z.cells l) fun cs => some (.agg cs, S)
    | none => Bx.mk fun _ _ => none)
  | _ => Bx.mk fun _ _ => none
def cBuildSlice (E : Env) (t : TypeId) (len : Nat) (parts : Arg (List (Nat × Value))) : Bx (Tmps → St → Res) :=
  match E.dg t with
  | some { und := .slice elem, .. } => (match E.dg elem with
    | some { zero := some z, size, .. } => cond (Nat.beq z.cells.size size && Nat.blt 0 size && Nat.ble (Nat.mul len size) 16777216)
        (Bx.mk fun ρ S => ob (parts.f ρ) fun l => ob (Instr.fill (fun i => some (i * size, size)) (zeros z.cells.toList len).toArray l) fun cs => ob (newRow S elem cs.toList) fun p => some (.slice (some ⟨p.1, 0, none⟩) len len, p.2))
        (Bx.mk fun _ _ => none)
    | _ => Bx.mk fun _ _ => none)
  | _ => Bx.mk fun _ _ => none
/-- A part of an aggregate. -/
def part (d : Dg) (cs : Array Value) (off : Nat) : Option Value :=
  cond (isAggD d.und) (some (.agg (cs.extract off (off + d.size)))) cs[off]?
def toN : Value → Option Nat
  | .int _ (.ofNat n) => some n
  | _ => none
def bnd (d : Nat) : Option Value → Option Nat
  | none => some d
  | some v => toN v
/-- A slice of a slice: 'spot' none: the capacity is exact; 0: it is at least so much; 1: an empty one, somewhere. -/
def reslice (S : St) (elem size r off : Nat) (sp : Option Nat) (l h m : Nat) (mx : Bool) : Option Value :=
  match mx, sp with
  | false, some 0 => ob (rdR S r) fun row => iff' (Nat.beq row.t elem)
      (cond (Nat.blt l m || Nat.beq l 0) (some (.slice (some ⟨r, Nat.add off (Nat.mul l size), some 0⟩) (Nat.sub h l) (Nat.sub m l))) (some (.slice (some ⟨r, off, some 1⟩) 0 0)))
  | _, some (_ + 1) => some (.slice (some ⟨r, off, some 1⟩) 0 0)
  | _, _ => some (.slice (some ⟨r, cond (Nat.beq m l) off (Nat.add off (Nat.mul l size)), none⟩) (Nat.sub h l) (Nat.sub m l))
def cSlice (E : Env) (t : TypeId) (x : Arg Value) (lo hi mx : Arg (Option Value)) : Bx (Tmps → St → Res) :=
  match E.dg t with
  | some { und := .slice elem, .. } => (match E.dg elem with
    | some e => Bx.mk fun ρ S => ob (x.f ρ) fun x => ob (lo.f ρ) fun lo => ob (hi.f ρ) fun hi => ob (mx.f ρ) fun mx => iff' (hi.isSome || mx.isNone)
        (match x with
        | .slice a len cap => ob (bnd 0 lo) fun l => ob (bnd len hi) fun h => ob (bnd cap mx) fun m => iff' (Nat.ble l h && Nat.ble h m && Nat.ble m cap)
            (match a with
            | none => some (.slice none (Nat.sub h l) (Nat.sub m l), S)
            | some a => val (reslice S elem e.size a.block a.off a.spot l h m mx.isSome) S)
        | _ => none)
    | none => Bx.mk fun _ _ => none)
  | some { und := .array n elem, .. } => (match E.dg elem with
    | some e => Bx.mk fun ρ S => ob (x.f ρ) fun x => ob (lo.f ρ) fun lo => ob (hi.f ρ) fun hi => ob (mx.f ρ) fun mx => ob (ptrOf x) fun a => iff' (hi.isSome || mx.isNone)
        (ob (bnd 0 lo) fun l => ob (bnd n hi) fun h => ob (bnd n mx) fun m => iff' (Nat.ble l h && Nat.ble h m && Nat.ble m n)
          (some (.slice (some ⟨a.block, cond (Nat.beq m l) a.off (Nat.add a.off (Nat.mul l e.size)), none⟩) (Nat.sub h l) (Nat.sub m l), S)))
    | none => Bx.mk fun _ _ => none)
  | _ => Bx.mk fun _ _ => none
def aNil (d : TypeDesc) (x y : Value) : Option Bool :=
  match d, x, y with
  | .pointer _, .pointer (some _), .pointer none | .pointer _, .pointer none, .pointer (some _) | .slice _, .slice (some _) .., .slice none .. | .slice _, .slice none .., .slice (some _) ..
  | .map _ _, .map (some _), .map none | .map _ _, .map none, .map (some _) | .func _ _ _, .func .., .nilFunc | .func _ _ _, .nilFunc, .func .. => some false
  | _, _, _ => none
def lookKey (E : Env) (empty : Bool) (key : TypeId) (k : Value) (es : List MapEntry) : Option (Option (Nat × Value)) :=
  iff' (flat k) (ob (pureOf E.P (Instr.checkKey empty 10000 key k)) fun _ => ob (E.dg key) fun d => match Instr.findNow d.und k es 0 with
    | some f => some f
    | none => pureOf E.P (Instr.findAsking key k es 0))
def mapOf (S : St) (r : Nat) : Option (Array MapEntry × Nat) :=
  ob (rdO S r) fun o => match o with | .inr (.map es clock) => some (es, clock) | _ => none

def firstC (S : St) (size n : Nat) : Value → Option (List Value)
  | .slice (some ⟨r, off, _⟩) _ _ => rdCs S r off (Nat.mul n size)
  | .slice none _ _ => some []
  | .string s => some ((s.extract 0 n).data.toList.map fun b => .int .u8 b.toNat)
  | _ => none
def lenV : Value → Option Nat
  | .slice _ n _ => some n
  | .string s => some s.size
  | _ => none
/-- Deep enough for so many. -/
def grow (row : Row) : Nat → Row
  | 0 => row
  | n + 1 => grow { row with d := Nat.add row.d 1, c := Tr.up row.c } n
def appendRow (row : Row) (n : Nat) (l : List Value) : Option Row :=
  let row := grow row (Nat.sub (depth (Nat.add n l.length)) row.d)
  iff' (Nat.ble (Nat.add n l.length) (Nat.pow 2 row.d)) (ob (setCells row.c n l) fun c => some { row with len := Nat.add n l.length, c })
/-- The first m cells from off on, and others behind them. -/
def appRow (row : Row) (off m : Nat) (new : List Value) : Option Row :=
  cond (Nat.beq off 0) (appendRow row m new) (ob (cellsFrom row off m) fun old => rowOf row.t (old ++ new))
def aAppend (E : Env) (S : St) (elem : TypeId) (size bytes : Nat) (s x : Value) : Res :=
  match s with
  | .slice base sLen sCap => ob (lenV x) fun n => ob (firstC S size n x) fun new =>
    let need := Nat.add sLen n
    cond (Nat.ble need sCap)
      (match base with
      | none => some (.slice none need sCap, S)
      | some ⟨r, off, some (k + 1)⟩ => iff' new.isEmpty (some (.slice (some ⟨r, off, some (k + 1)⟩) need sCap, S))
      | some ⟨r, off, sp⟩ => ob (wrCs E S r (Nat.add off (Nat.mul sLen size)) new) fun S => some (.slice (some ⟨r, off, sp⟩) need sCap, S))
      (iff' (Nat.ble (Nat.mul need bytes) 140737488355328 && Nat.ble need 9223372036854775806 && Nat.beq new.length (Nat.mul n size)) (match base with
      | none => iff' (Nat.beq sLen 0) (ob (newRow S elem new) fun p => some (.slice (some ⟨p.1, 0, some 0⟩) need need, p.2))
      | some ⟨_, _, some (_ + 1)⟩ => none
      | some ⟨r, off, sp⟩ => ob (rdR S r) fun row => iff' (Nat.ble (Nat.add off (Nat.mul sLen size)) row.len && Nat.beq row.t elem)
          (ob (appRow row off (Nat.mul sLen size) new) fun row' => ob (newO (cond sp.isSome (putO S r dead) S) (.inl row')) fun p => some (.slice (some ⟨p.1, 0, some 0⟩) need need, p.2))))
  | _ => none
def aCopy (E : Env) (S : St) (size : Nat) (dst src : Value) : Res :=
  match dst with
  | .slice base dLen _ => ob (lenV src) fun sl =>
    let n := cond (Nat.ble sl dLen) sl dLen
    ob (firstC S size n src) fun cs => (match base with
      | some ⟨r, off, sp⟩ => (match sp with
        | some (_ + 1) => none
        | _ => ob (wrCs E S r off cs) fun S => some (goInt n, S))
      | none => some (goInt n, S))
  | _ => none
def okB : Builtin → Bool
  | .len | .cap | .max | .min | .real | .imag | .complex => true
  | _ => false
def undOf (E : Env) (ts : Array TypeId) (i : Nat) : Option TypeDesc := ob ts[i]? fun t => ob (E.dg t) fun d => some d.und
def isInt : TypeDesc → Bool
  | .int _ => true
  | _ => false
def cBuiltin (E : Env) (b : Builtin) (ts : Array TypeId) (type : TypeId) (consts : Array Bool) (args : Arg (List Value)) : Bx (Tmps → St → Res) :=
  match b, undOf E ts 0 with
  | .append, some (.slice elem) => (match E.dg elem, undOf E ts 1 with
    | some { zero := some z, size, bytes, .. }, some xt => cond (isInt xt || !(Nat.beq z.cells.size size)) (Bx.mk fun _ _ => none) <| Bx.mk fun ρ S => ob (args.f ρ) fun l => match l with | [s, x] => aAppend E S elem size bytes s x | _ => none
    | _, _ => Bx.mk fun _ _ => none)
  | .copy, some (.slice elem) => (match E.dg elem with
    | some e => Bx.mk fun ρ S => ob (args.f ρ) fun l => match l with | [d, s] => aCopy E S e.size d s | _ => none
    | none => Bx.mk fun _ _ => none)
  | .clear, some (.slice elem) => (match E.dg elem with
    | some { zero := some z, size, .. } => cond (Nat.beq z.cells.size size && Nat.blt 0 size) (Bx.mk fun ρ S => ob (args.f ρ) fun l => match l with
        | [.slice none _ _] => some (.tuple #[], S)
        | [.slice _ 0 _] => some (.tuple #[], S)
        | [.slice (some ⟨r, off, sp⟩) n _] => (match sp with
          | some (_ + 1) => none
          | _ => ob (wrCs E S r off (zeros z.cells.toList n)) fun S => some (.tuple #[], S))
        | _ => none) (Bx.mk fun _ _ => none)
    | _ => Bx.mk fun _ _ => none)
  | .len, some (.slice _) => Bx.mk fun ρ S => ob (args.f ρ) fun l => match l with
        | [.slice _ n _] => some (goInt n, S)
        | _ => none
  | .len, some (.map _ _) => Bx.mk fun ρ S => ob (args.f ρ) fun l => match l with
        | [.map (some r)] => ob (mapOf S r) fun m => some (goInt m.1.size, S)
        | [.map none] => some (goInt 0, S)
        | _ => none
  | b, _ => cond (okB b) (Bx.mk fun ρ S => ob (args.f ρ) fun l => cond (l.all flat) (ob (pureOf E.P (builtin b ts type consts l.toArray)) fun x => match x with | .value v => iff' (flat v) (some (v, S)) | _ => none) (val (ivB b l) S)) (Bx.mk fun _ _ => none)

/-- A call of a function, by its number. -/
def cFuncCall (E : Env) (f : FuncId) : Bx (CallF → List Value → St → Res) :=
  match (cond (Nat.blt f 512) (Tr.get 9 E.fn f) none) with
  | some fn => (match fn.body with
    | some _ => Bx.mk fun K args S => K f args S
    | none => Bx.mk fun _ args S => iff' (args.all flat) (ob (pureOf E.P (callFunc f args.toArray)) fun x => match x with | .value v => iff' (flat v) (some (v, S)) | _ => none))
  | none => Bx.mk fun _ _ _ => none
/-- What a yield does is told by Y. -/
abbrev YieldF := Nat → List Value → St → Option (Value × St)
def cCall (E : Env) (c : Call) (type : TypeId) : Bx (CallF → YieldF → Tmps → St → Res) :=
  let args := opds E c.args.toList
  match c.callee with
  | .builtin b => let g := cBuiltin E b c.argTypes type (c.args.map fun | .const _ => true | _ => false) args
      Bx.mk fun _ _ => g.f
  | .value (.func f) => let g := cFuncCall E f
      Bx.mk fun K _ ρ S => ob (args.f ρ) fun l => g.f K l S
  | .value x => Bx.mk fun K Y ρ S => ob ((opd E x).f ρ) fun v => ob (args.f ρ) fun l => match v with
      | .func (.func f) first captured => (cFuncCall E f).f K (first.toList ++ l ++ captured.toList) S
      | .func (.yield y) #[] #[] => Y y l S
      | _ => none
  | .invoke .. => Bx.mk fun _ _ _ _ => none
def okBin : BinOp → Bool
  | .eql | .neq => true
  | _ => false

/-- Numbers that are not negative, below which a kind's range ends. -/
def lim : IntKind → Nat
  | .i8 => 128 | .i16 => 32768 | .i32 => 2147483648 | .i64 => 9223372036854775808 | .u8 => 256 | .u16 => 65536 | .u32 => 4294967296 | .u64 => 18446744073709551616
def nn {β : Type} (v : Value) (f : IntKind → Nat → Option β) : Option β :=
  match v with
  | .int k (.ofNat n) => f k n
  | _ => none
def fit (k : IntKind) (n : Nat) : Option Value := cond (Nat.blt n (lim k)) (some (.int k (.ofNat n))) none
/-- What two numbers that are not negative come to, where it is within their kind. -/
def fast : BinOp → Value → Value → Option Value
  | .add => fun a b => nn a fun k x => nn b fun k' y => cond (k == k') (fit k (Nat.add x y)) none
  | .sub => fun a b => nn a fun k x => nn b fun k' y => cond (k == k' && Nat.ble y x) (fit k (Nat.sub x y)) none
  | .mul => fun a b => nn a fun k x => nn b fun k' y => cond (k == k') (fit k (Nat.mul x y)) none
  | .quo => fun a b => nn a fun k x => nn b fun k' y => cond (k == k' && Nat.blt 0 y) (fit k (Nat.div x y)) none
  | .rem => fun a b => nn a fun k x => nn b fun k' y => cond (k == k' && Nat.blt 0 y) (fit k (Nat.mod x y)) none
  | .and => fun a b => nn a fun k x => nn b fun k' y => cond (k == k' && Nat.blt x (lim k) && Nat.blt y (lim k)) (fit k (Nat.land x y)) none
  | .or => fun a b => nn a fun k x => nn b fun k' y => cond (k == k' && Nat.blt x (lim k) && Nat.blt y (lim k)) (fit k (Nat.lor x y)) none
  | .xor => fun a b => nn a fun k x => nn b fun k' y => cond (k == k' && Nat.blt x (lim k) && Nat.blt y (lim k)) (fit k (Nat.xor x y)) none
  | .shr => fun a b => nn a fun k x => nn b fun _ y => cond (Nat.ble y k.bits) (fit k (Nat.shiftRight x y)) none
  | .shl => fun a b => nn a fun k x => nn b fun _ y => cond (Nat.ble y k.bits) (fit k (Nat.shiftLeft x y)) none
  | .eql => fun a b => nn a fun k x => nn b fun k' y => cond (k == k') (some (.bool (Nat.beq x y))) none
  | .neq => fun a b => nn a fun k x => nn b fun k' y => cond (k == k') (some (.bool (!(Nat.beq x y)))) none
  | .lss => fun a b => nn a fun k x => nn b fun k' y => cond (k == k') (some (.bool (Nat.blt x y))) none
  | .leq => fun a b => nn a fun k x => nn b fun k' y => cond (k == k') (some (.bool (Nat.ble x y))) none
  | .gtr => fun a b => nn a fun k x => nn b fun k' y => cond (k == k') (some (.bool (Nat.blt y x))) none
  | .geq => fun a b => nn a fun k x => nn b fun k' y => cond (k == k') (some (.bool (Nat.ble y x))) none
  | _ => fun _ _ => none
def orElse {α : Type} (x : Option α) (y : Option α) : Option α := Option.casesOn (motive := fun _ => Option α) x y some
def cOper (E : Env) (o : Oper) : Bx (CallF → YieldF → Tmps → St → Res) :=
  match o.op with
  | .move x | .assign x => let x := opd E x; Bx.mk fun _ _ ρ S => val (x.f ρ) S
  | .pick c a b => let c := opd E c; let a := opd E a; let b := opd E b; Bx.mk fun _ _ ρ S => ob (c.f ρ) fun c => match c with | .bool t => cond t (val (a.f ρ) S) (val (b.f ρ) S) | _ => none
  | .alloc t => (match E.dg t with
    | some { zero := some z, .. } => Bx.mk fun _ _ _ S => ob (newRow S t z.cells.toList) fun p => some (.pointer (some ⟨p.1, 0, none⟩), p.2)
    | _ => Bx.mk fun _ _ _ _ => none)
  | .box t x => let x := opd E x; Bx.mk fun _ _ ρ S => ob (x.f ρ) fun z => ob (newRow S t z.cells.toList) fun p => some (.pointer (some ⟨p.1, 0, none⟩), p.2)
  | .build t ps => let g := cBuild E t (opdp E ps.toList); Bx.mk fun _ _ => g.f
  | .buildSlice t n ps => let g := cBuildSlice E t n (opdp E ps.toList); Bx.mk fun _ _ => g.f
  | .load t a => let g := cLoad E t (opd E a); Bx.mk fun _ _ => g.f
  | .store t a x => let g := cStore E t (opd E a) (opd E x); Bx.mk fun _ _ => g.f
  | .nilCheck x => let x := opd E x; Bx.mk fun _ _ ρ S => ob (x.f ρ) fun v => match v with
      | .pointer (some _) => some (v, S)
      | .func (.func _) _ _ => some (v, S)
      | .func (.yield _) _ _ => some (v, S)
      | _ => none
  | .binOp op t x y _ => let x' := opd E x; let y' := opd E y; let g := fast op; Bx.mk fun _ _ ρ S => ob (x'.f ρ) fun a => ob (y'.f ρ) fun b => ob (orElse (g a b) (cond (flat a && flat b)
      (ob (pureOf E.P (do eqGuard op t x y a b; binOp op t a b)) fun v => iff' (flat v) (some v))
      (match op with
      | .eql => ob (E.dg t) fun d => ob (aNil d.und a b) fun r => some (.bool r)
      | .neq => ob (E.dg t) fun d => ob (aNil d.und a b) fun r => some (.bool (!r))
      | op => ob (ivC op a b) fun r => some (.bool r)))) fun v => some (v, S)
  | .unOp op _ x => let x := opd E x; Bx.mk fun _ _ ρ S => ob (x.f ρ) fun a => iff' (flat a) (ob (pureOf E.P (Op.unary op a)) fun v => iff' (flat v) (some (v, S)))
  | .convert s d x => let x := opd E x; (match E.dg s, E.dg d with
      | some { und := .int _, .. }, some { und := .int k', .. } => Bx.mk fun _ _ ρ S => ob (x.f ρ) fun a => ob (orElse (nn a fun _ n => fit k' n) (match a with | .int _ n => ob (pureOf E.P (Conv.intToInt k' n)) fun v => iff' (flat v) (some v) | _ => none)) fun v => some (v, S)
      | _, _ => Bx.mk fun _ _ _ _ => none)
  | .makeFunc (.func f) first captured => let a := opds E first.toList; let b := opds E captured.toList; Bx.mk fun _ _ ρ S => ob (a.f ρ) fun a => ob (b.f ρ) fun b => some (.func (.func f) a.toArray b.toArray, S)
  | .makeMap _ none => Bx.mk fun _ _ _ S => ob (newO S (.inr (.map #[] 0))) fun p => some (.map (some p.1), p.2)
  | .makeSlice t l c => let l := opd E l; let c := opd E c; (match E.dg t with
    | some { und := .slice elem, .. } => (match E.dg elem with
      | some { zero := some z, size, bytes, .. } => cond (Nat.beq z.cells.size size && Nat.blt 0 size)
          (Bx.mk fun _ _ ρ S => ob (l.f ρ) fun l => ob (toN l) fun l => ob (c.f ρ) fun c => ob (toN c) fun c => iff' (Nat.ble l c && Nat.ble (Nat.mul c bytes) 16777216 && Nat.ble c 16777216)
            (ob (newRow S elem (zeros z.cells.toList c)) fun p => some (.slice (some ⟨p.1, 0, none⟩) l c, p.2)))
          (Bx.mk fun _ _ _ _ => none)
      | _ => Bx.mk fun _ _ _ _ => none)
    | _ => Bx.mk fun _ _ _ _ => none)
  | .slice t x lo hi mx => let g := cSlice E t (opd E x) (opdo E lo) (opdo E hi) (opdo E mx); Bx.mk fun _ _ => g.f
  | .fieldAddr s x f => let x := opd E x; (match E.dg s with
    | some { und := .struct fs, .. } => (match fs[f]? with
      | some f => (match E.dg f.type with
        | some d => cond (Nat.blt 0 d.size) (Bx.mk fun _ _ ρ S => ob (x.f ρ) fun a => ob (ptrOf a) fun a => some (.pointer (some ⟨a.block, Nat.add a.off f.offset, none⟩), S)) (Bx.mk fun _ _ _ _ => none)
        | none => Bx.mk fun _ _ _ _ => none)
      | none => Bx.mk fun _ _ _ _ => none)
    | _ => Bx.mk fun _ _ _ _ => none)
  | .field t x f => let x := opd E x; (match E.dg t with
    | some { und := .struct fs, .. } => (match fs[f]? with
      | some f => (match E.dg f.type with
        | some d => Bx.mk fun _ _ ρ S => ob (x.f ρ) fun a => match a with | .agg cs => val (part d cs f.offset) S | _ => none
        | none => Bx.mk fun _ _ _ _ => none)
      | none => Bx.mk fun _ _ _ _ => none)
    | _ => Bx.mk fun _ _ _ _ => none)
  | .indexAddr t x i => let x := opd E x; let i := opd E i; (match E.dg t with
    | some { und := .array len elem, .. } => (match E.dg elem with
      | some d => Bx.mk fun _ _ ρ S => ob (x.f ρ) fun a => ob (ptrOf a) fun a => ob (i.f ρ) fun i => ob (toN i) fun i => iff' (Nat.blt i len) (some (.pointer (some ⟨a.block, Nat.add a.off (Nat.mul i d.size), none⟩), S))
      | none => Bx.mk fun _ _ _ _ => none)
    | some { und := .slice elem, .. } => (match E.dg elem with
      | some d => Bx.mk fun _ _ ρ S => ob (x.f ρ) fun a => ob (i.f ρ) fun i => ob (toN i) fun i => match a with
        | .slice (some ⟨r, off, _⟩) len _ => iff' (Nat.blt i len) (some (.pointer (some ⟨r, Nat.add off (Nat.mul i d.size), none⟩), S))
        | _ => none
      | none => Bx.mk fun _ _ _ _ => none)
    | _ => Bx.mk fun _ _ _ _ => none)
  | .index t x i => let x := opd E x; let i := opd E i; (match E.dg t with
    | some { und := .array len elem, .. } => (match E.dg elem with
      | some d => Bx.mk fun _ _ ρ S => ob (x.f ρ) fun a => ob (i.f ρ) fun i => ob (toN i) fun i => match a with
        | .agg cs => iff' (Nat.blt i len) (val (part d cs (Nat.mul i d.size)) S)
        | _ => none
      | none => Bx.mk fun _ _ _ _ => none)
    | _ => Bx.mk fun _ _ _ _ => none)
  | .lookup t x k ok => let x := opd E x; let k := opd E k; (match E.dg t with
    | some { und := .map key elem, .. } => (match E.dg elem with
      | some { zero := some z, .. } => Bx.mk fun _ _ ρ S => ob (x.f ρ) fun x => ob (k.f ρ) fun k =>
          ob (match x with | .map none => some (#[], 0) | .map (some r) => mapOf S r | _ => none) fun m => ob (lookKey E m.1.isEmpty key k m.1.toList) fun f => match f with
            | some (_, x) => some (cond ok (.tuple #[x, .bool true]) x, S)
            | none => some (cond ok (.tuple #[z, .bool false]) z, S)
      | _ => Bx.mk fun _ _ _ _ => none)
    | _ => Bx.mk fun _ _ _ _ => none)
  | .mapUpdate t m k x => let m := opd E m; let k := opd E k; let x := opd E x; (match E.dg t with
    | some { und := .map key _, .. } => Bx.mk fun _ _ ρ S => ob (m.f ρ) fun m => ob (k.f ρ) fun k => ob (x.f ρ) fun x => match m with
        | .map (some r) => ob (mapOf S r) fun m => (ob (lookKey E false key k m.1.toList) fun f => match f with
          | some _ => none
          | none => some (undef, putO S r (.inr (.map (m.1.push { key := k, val := x, born := m.2 }) (m.2 + 1)))))
        | _ => none
    | _ => Bx.mk fun _ _ _ _ => none)
  | .range t x => let x := opd E x; (match E.dg t with
    | some { und := .map _ _, .. } => Bx.mk fun _ _ ρ S => ob (x.f ρ) fun x => match x with
        | .map none => ob (newO S (.inr (.mapIter none 0 #[] 0))) fun p => some (.pointer (some ⟨p.1, 0, none⟩), p.2)
        | .map (some r) => ob (mapOf S r) fun m => ob (newO S (.inr (.mapIter (some r) m.2 #[] m.2))) fun p => some (.pointer (some ⟨p.1, 0, none⟩), p.2)
        | _ => none
    | _ => Bx.mk fun _ _ _ _ => none)
  | .next it false => let it := opd E it; Bx.mk fun _ _ ρ S => ob (it.f ρ) fun it => ob (ptrOf it) fun a => iff' (Nat.beq a.off 0) (ob (rdO S a.block) fun o => match o with
      | .inr (.mapIter none _ _ _) => some (.tuple #[.bool false], S)
      | .inr (.mapIter (some m) _ _ _) => ob (mapOf S m) fun es => iff' es.1.isEmpty (some (.tuple #[.bool false], S))
      | _ => none)
  | .extract t i => let t := opd E t; Bx.mk fun _ _ ρ S => ob (t.f ρ) fun t => match t with | .tuple vs => val vs[i]? S | _ => none
  | .call c => cCall E c o.type
  | _ => Bx.mk fun _ _ _ _ => none

/-! ### Regions -/
/-- Is the operation wanted? -/
def cWanted (ops : List Oper) (o : Oper) : Arg Bool :=
  match o.guard with
  | none => Bx.mk fun _ => some true
  | some (j, want) => match ob ops[j]? (·.dst) with
    | none => Bx.mk fun _ => none
    | some d => Bx.mk fun ρ => ob (ρ d) fun v => match v with
      | .bool b => some (b == want)
      | .tuple _ => some false
      | _ => none
def putT (d : Option Tmp) (v : Value) (ρ : Tmps) : Tmps :=
  match d with
  | none => ρ
  | some d => fun k => cond (Nat.beq k d) (some v) (ρ k)
def cOp1 (E : Env) (ops : List Oper) (o : Oper) : Bx (CallF → YieldF → Tmps → St → Res) :=
  match o.guard with
  | none => cOper E o
  | some _ =>
  let w := cWanted ops o
  let g := cOper E o
  Bx.mk fun K Y ρ S => ob (w.f ρ) fun b => cond b (g.f K Y ρ S) (some (undef, S))
abbrev RRes := Option (Tmps × St)
def cSeq (E : Env) (ops : List Oper) : List Oper → Bx (CallF → YieldF → Tmps → St → RRes)
  | [] => Bx.mk fun _ _ ρ S => some (ρ, S)
  | o :: l => let g := cOp1 E ops o; let k := cSeq E ops l; Bx.mk fun K Y ρ S => ob (g.f K Y ρ S) fun p => k.f K Y (putT o.dst p.1 ρ) p.2
/-- Reads memory alone. -/
def isLoad (o : Oper) : Bool :=
  match o.op with
  | .load .. | .lookup .. | .slice .. => true
  | .call { callee := .builtin .len, .. } => true
  | _ => false
/-- Makes new memory alone. -/
def isMaker (o : Oper) : Bool :=
  match o.op with
  | .alloc _ | .box .. | .buildSlice .. | .makeSlice .. | .makeMap .. => true
  | _ => false
def isEff (o : Oper) : Bool :=
  match o.op with
  | .store .. | .mapUpdate .. | .range .. | .next .. => true
  | .call { callee := .builtin b, .. } => !(okB b)
  | .call _ => true
  | _ => false
def bitOf (bs : Array Nat) (i j : Nat) : Bool := Nat.beq (Nat.land (Nat.shiftRight (bs.getD i 0) j) 1) 1
/-- Where they are carried out one behind the other: for each effect, ahead of it all that it waits for and that isn't there yet. -/
def canon (bs : Array Nat) (all : List Nat) : List Nat → List Nat → List Nat
  | [], done => done ++ all.filter fun i => !done.contains i
  | e :: es, done => canon bs all es (done ++ (all.filter fun i => !done.contains i && bitOf bs e i) ++ [e])
def vEq : Nat → Value → Value → Bool
  | _, .bool a, .bool b => a == b
  | _, .int j a, .int k b => j == k && a == b
  | _, .complex j a c, .complex k b d => j == k && Nat.beq a b && Nat.beq c d
  | _, .pointer a, .pointer b => a == b
  | _, .map a, .map b => a == b
  | _, .chan a, .chan b => a == b
  | _, .slice a m c, .slice b n d => a == b && Nat.beq m n && Nat.beq c d
  | n + 1, .agg a, .agg b => vEqL n a.toList b.toList
  | n + 1, .tuple a, .tuple b => vEqL n a.toList b.toList
  | _, _, _ => false
  where vEqL : Nat → List Value → List Value → Bool
  | _, [], [] => true
  | n, a :: l, b :: m => vEq n a b && vEqL n l m
  | _, _, _ => false

/-- All states in which a load may come up. -/
def againAll (g : St → Res) (v : Value) : Nat → List St → Bool
  | 0, _ => true
  | n + 1, S :: l => (match g S with | some p => vEq 8 p.1 v | none => false) && againAll g v n l
  | _, [] => false
def cDrawL (E : Env) (ops : List Oper) (bs : Array Nat) : List Nat → List Nat → Bx (CallF → YieldF → Tmps → St → List St → RRes)
  | [], _ => Bx.mk fun _ _ ρ S _ => some (ρ, S)
  | i :: l, pe =>
    match ops[i]? with
    | none => Bx.mk fun _ _ _ _ _ => none
    | some o =>
      let g := cOp1 E ops o
      cond (isLoad o)
        (let n := (pe.takeWhile fun e => !(bitOf bs i e)).length
         let k := cDrawL E ops bs l pe
         Bx.mk fun K Y ρ S past => ob past.head? fun S0 => ob (g.f K Y ρ S0) fun p => iff' (againAll (fun S => g.f K Y ρ S) p.1 n past.tail) (k.f K Y (putT o.dst p.1 ρ) S past))
        (cond (isEff o)
          (let k := cDrawL E ops bs l (i :: pe)
           Bx.mk fun K Y ρ S past => ob (g.f K Y ρ S) fun p => k.f K Y (putT o.dst p.1 ρ) p.2 (p.2 :: past))
          (let k := cDrawL E ops bs l pe
           Bx.mk fun K Y ρ S past => ob (g.f K Y ρ S) fun p => k.f K Y (putT o.dst p.1 ρ) p.2 past))
/-- The tmps that an operation looks at. -/
def looks (ops : List Oper) (o : Oper) : List Tmp := (o.op.operands.toList.filterMap fun | .tmp t => some t | _ => none) ++ (match o.guard with | some (g, _) => (ob ops[g]? (·.dst)).toList | none => [])
def apartT (ops : List Oper) (x y : Oper) : Bool :=
  (match x.dst with | some d => !(looks ops y).contains d && y.dst != some d | none => true) && (match y.dst with | some d => !(looks ops x).contains d | none => true)
/-- The order keeps to what is bound, and what is not bound is apart. -/
def drawOk (ops : List Oper) (bs : Array Nat) : List Nat → List Nat → Bool
  | [], _ => true
  | i :: l, done => (match ops[i]? with
    | none => false
    | some o => ((i :: l).all fun k => !(bitOf bs i k)) && (!(isEff o) || done.all fun k => bitOf bs i k)
        && (done.all fun k => bitOf bs i k || (match ops[k]? with | some x => apartT ops x o | none => false))) && !(l.contains i) && drawOk ops bs l (i :: done)
/-- The bits are what the program's order says. -/
def bitsOk (bs : Array Nat) : Nat → List Oper → Bool
  | _, [] => true
  | i, o :: l => (o.after.toList.all fun e => !(Region.binds .any e) || bitOf bs i e.on) &&
      (List.range i).all (fun k => !(bitOf bs i k) || o.after.toList.any fun e => Region.binds .any e && (Nat.beq e.on k || bitOf bs e.on k)) && Nat.beq (Nat.shiftRight (bs.getD i 0) i) 0 && bitsOk bs (Nat.add i 1) l
def stOk (ops : List Oper) (bs : Array Nat) (order : List Nat) : Bool :=
  bitsOk bs 0 ops && Nat.beq order.length ops.length && (List.range ops.length).all (fun i => order.contains i) && drawOk ops bs order []
def cRegion (E : Env) (ops : List Oper) (draw : Bool) : Bx (CallF → YieldF → Tmps → St → RRes) :=
  cond draw
    (let bs := Region.before ops.toArray
     let ix := List.range ops.length
     let effs := ix.filter fun i => (match ops[i]? with | some o => isEff o | none => false)
     let order := canon bs ix effs []
     cond (stOk ops bs order) (let g := cDrawL E ops bs order []; Bx.mk fun K Y ρ S => g.f K Y ρ S [S]) (Bx.mk fun _ _ _ _ => none))
    (cSeq E ops ops)

/-! ### Code -/
abbrev TD : Nat := 8
structure Fr where
  τ : Tr Value TD
  marks : List Nat
abbrev CRes := Option (Exit × Fr × St)
def tmpsOf (τ : Tr Value TD) : Tmps := fun t => cond (Nat.blt t 256) (Tr.get TD τ t) none
/-- The slots of a region that are looked at elsewhere. -/
def flush (τ : Tr Value TD) (ρ : Tmps) : List Tmp → Tr Value TD
  | [] => τ
  | t :: l => flush (Tr.set TD τ t (ρ t)) ρ l
def unk : Value := .chan (some 0)
def listOf (τ : Tr Value TD) (n : Nat) : Array Value := ((List.range n).map fun t => (Tr.get TD τ t).getD unk).toArray
def args0 (i : Nat) (τ : Tr Value TD) : List Value → Tr Value TD
  | [] => τ
  | v :: l => args0 (Nat.add i 1) (Tr.set TD τ i (some v)) l
def setAll (τ : Tr Value TD) : List Tmp → List Value → Tr Value TD
  | t :: ts, v :: vs => setAll (Tr.set TD τ t (some v)) ts vs
  | _, _ => τ
def loopOf (S : St) (l : Nat) : Option Loop := ob (rdO S l) fun o => match o with | .inr (.loop r) => some r | _ => none
def cRange (E : Env) (fn : FuncId) (N : Nat) (g : Operand) (ps : Array Tmp) (assign body : Code) : Bx (CallF → Option Nat → Fr → St → CRes) :=
  let g := opd E g
  Bx.mk fun K rd fr S =>
    ob (match rd with
      | some l => ob (loopOf S l) fun r => some (r.defers, [], S)
      | none => ob (newO S (.inr (.deferred (some [])))) fun p => some (p.1, [p.1], p.2)) fun e =>
    ob (newO e.2.2 (.inr (.loop { state := .ready, pending := none, fn, tmps := listOf fr.τ N, params := ps, assign, body, defers := e.1 }))) fun q =>
    ob (g.f (tmpsOf fr.τ)) fun v => match v with
      | .func (.func f) first captured => ob (cond (Nat.blt f 512) (Tr.get 9 E.fn f) none) fun fnf => iff' fnf.body.isSome
          (ob (K f (first.toList ++ [.func (.yield q.1) #[] #[]] ++ captured.toList) q.2) fun p => ob (loopOf p.2 q.1) fun r => iff' (r.state != .busy)
            (let S := putO p.2 q.1 (.inr (.loop { r with state := .exhausted }))
             let fr := { fr with marks := e.2.1 ++ fr.marks }
             match r.pending with
              | none => some (.normal, fr, S)
              | some (.exit id) => some (.exit id, fr, S)
              | some (.goto id) => some (.goto id, fr, S)
              | some .ret => some (.ret, fr, S)
              | _ => none))
      | _ => none
def inBlock (id : Nat) : CRes → CRes := fun r => ob r fun p => match p.1 with
  | .exit i => cond (Nat.beq i id) (some (.normal, p.2)) r
  | _ => r
abbrev CodeF := Bx (CallF → YieldF → Option Nat → Fr → St → CRes)
def loopF (g : CodeF) (n : Nat) : CodeF := Nat.rec (motive := fun _ => CodeF) (Bx.mk fun _ _ _ _ _ => none) (fun _ k => Bx.mk fun K Y rd fr S => ob (g.f K Y rd fr S) fun p => match p.1 with
  | .normal => k.f K Y rd p.2.1 p.2.2
  | _ => some p) n
def scopeF (g : Code → CodeF) (b : Code) (n : Nat) : Code → CodeF := Nat.rec (motive := fun _ => Code → CodeF) (fun _ => Bx.mk fun _ _ _ _ _ => none) (fun _ k c => Bx.mk fun K Y rd fr S => ob ((g c).f K Y rd fr S) fun p => match p.1 with
  | .goto l => (match findLabel b l with
    | some rest => (k rest).f K Y rd p.2.1 p.2.2
    | none => some p)
  | _ => some p) n
def cCode (E : Env) (fn : FuncId) (N : Nat) : Nat → Code → CodeF
  | 0, _ => Bx.mk fun _ _ _ _ _ => none
  | n + 1, c => match c with
    | .skip | .label _ => Bx.mk fun _ _ _ fr S => some (.normal, fr, S)
    | .region _ ops draw =>
      let g := cRegion E ops.toList draw
      let live := ops.toList.filterMap (·.dst)
      cond (live.all fun t => Nat.blt t N && Nat.blt t 256) (Bx.mk fun K Y _ fr S => ob (g.f K Y (tmpsOf fr.τ) S) fun p => some (.normal, { fr with τ := flush fr.τ p.1 live }, p.2)) (Bx.mk fun _ _ _ _ _ => none)
    | .seq a b => let g := cCode E fn N n a; let h := cCode E fn N n b
      Bx.mk fun K Y rd fr S => ob (g.f K Y rd fr S) fun p => match p.1 with
        | .normal => h.f K Y rd p.2.1 p.2.2
        | _ => some p
    | .cond c a b => let x := opd E c; let g := cCode E fn N n a; let h := cCode E fn N n b
      Bx.mk fun K Y rd fr S => ob (x.f (tmpsOf fr.τ)) fun v => match v with
        | .bool t => cond t (g.f K Y rd fr S) (h.f K Y rd fr S)
        | _ => none
    | .block id b => let g := cCode E fn N n b; Bx.mk fun K Y rd fr S => inBlock id (g.f K Y rd fr S)
    | .loop b => loopF (cCode E fn N n b) 5000
    | .scope b => scopeF (fun c => cCode E fn N n c) b 5000 b
    | .exit id => Bx.mk fun _ _ _ fr S => some (.exit id, fr, S)
    | .goto l => Bx.mk fun _ _ _ fr S => some (.goto l, fr, S)
    | .ret => Bx.mk fun _ _ _ fr S => some (.ret, fr, S)
    | .rangeFunc g ps a b => let g := cRange E fn N g ps a b; Bx.mk fun K _ rd fr S => g.f K rd fr S
    | .refuse _ => Bx.mk fun _ _ _ _ _ => none
def cRes (E : Env) : List ResultVar → Bx (Tmps → St → Option (List Value))
  | [] => Bx.mk fun _ _ => some []
  | .tmp t :: l => let k := cRes E l; Bx.mk fun ρ S => ob (ρ t) fun v => ob (k.f ρ S) fun vs => some (v :: vs)
  | .cell a t :: l => let g := cLoad E t (Bx.mk fun ρ => ρ a); let k := cRes E l; Bx.mk fun ρ S => ob (g.f ρ S) fun p => ob (k.f ρ S) fun vs => some (p.1 :: vs)
/-- The blocks of deferred calls are shut. -/
def takeAll : List Nat → St → Option St
  | [], S => some S
  | m :: ms, S => ob (rdO S m) fun o => match o with
    | .inr (.deferred (some [])) => takeAll ms (putO S m dead)
    | _ => none
/-- What a function answers. -/
def oneOf (S : St) : List Value → Value × St
  | [v] => (v, S)
  | vs => (.tuple vs.toArray, S)
/-- The function behind a number, made ready. -/
def cFunc (E : Env) (f : FuncId) : Bx (CallF → YieldF → List Value → St → Option (Value × St)) :=
  match (cond (Nat.blt f 512) (Tr.get 9 E.fn f) none) with
  | none => Bx.mk fun _ _ _ _ => none
  | some fn => match fn.body with
    | none => Bx.mk fun _ _ _ _ => none
    | some c =>
      let g := cCode E f fn.ntmps 300 c
      let r := cRes E fn.results.toList
      let n := fn.ntmps
      cond (Nat.ble n 256) (Bx.mk fun K Y args S => iff' (Nat.ble args.length n) (ob (g.f K Y none { τ := args0 0 (Tr.emp TD) args, marks := [] } S) fun p => iff' (match p.1 with | .normal | .ret => true | _ => false)
        (ob (takeAll p.2.1.marks p.2.2) fun S1 => ob (r.f (tmpsOf p.2.1.τ) S1) fun vs => some (oneOf S1 vs)))) (Bx.mk fun _ _ _ _ => none)
def yieldF (E : Env) (K : CallF) (Y : YieldF) : YieldF := fun l args S =>
  ob (loopOf S l) fun r => iff' (Nat.beq args.length r.params.size && Nat.ble r.tmps.size 256 && r.params.toList.all fun t => Nat.blt t r.tmps.size)
    (ob (some r.tmps.size) fun nu =>
     ob ((cCode E r.fn nu 300 r.assign).f K Y (some l) { τ := setAll (args0 0 (Tr.emp TD) r.tmps.toList) r.params.toList args, marks := [] } S) fun p => match p.1 with
      | .normal => ob (loopOf p.2.2 l) fun r2 => iff' (r2.state == .ready)
          (ob ((cCode E r.fn nu 300 r.body).f K Y (some l) p.2.1 (putO p.2.2 l (.inr (.loop { r2 with state := .busy })))) fun q => ob (loopOf q.2.2 l) fun r3 =>
            (match q.1 with
            | .normal => some (.bool true, putO q.2.2 l (.inr (.loop { r3 with state := .ready, pending := none })))
            | .ret => some (.bool false, putO q.2.2 l (.inr (.loop { r3 with state := .done, pending := some .ret })))
            | .exit id => some (.bool false, putO q.2.2 l (.inr (.loop { r3 with state := .done, pending := some (.exit id) })))
            | .goto id => some (.bool false, putO q.2.2 l (.inr (.loop { r3 with state := .done, pending := some (.goto id) })))
            | _ => none))
      | _ => none)
def both (E : Env) (n : Nat) : CallF × YieldF :=
  Nat.rec (motive := fun _ => CallF × YieldF) (fun _ _ _ => none, fun _ _ _ => none) (fun _ r => (fun f args S => (cFunc E f).f r.1 r.2 args S, yieldF E r.1 r.2)) n
def callN (E : Env) (n : Nat) : CallF := (both E n).1
end Go.Proofs.YtemldmjpanmdbaaGreatDoor.Ev
