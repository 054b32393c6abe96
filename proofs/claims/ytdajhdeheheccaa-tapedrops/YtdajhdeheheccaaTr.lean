/- Three tapes side by side. No walk. -/
import Derived.Test.YtdajhdeheheccaaT2
namespace Go.Proofs.Ytdajhdeheheccaa
open Go.RowKit
set_option linter.unusedVariables false

/-- Two tapes share no block. -/
structure Apart (g1 : Nat) (a1 : Option Addr) (g2 : Nat) (a2 : Option Addr) : Prop where
  gg : g1 ≠ g2
  ag : ∀ a, a1 = some a → a.block ≠ g2
  ga : ∀ a, a2 = some a → a.block ≠ g1
  aa : ∀ a b, a1 = some a → a2 = some b → a.block ≠ b.block

theorem Apart.symm {g1 g2 : Nat} {a1 a2 : Option Addr} (h : Apart g1 a1 g2 a2) : Apart g2 a2 g1 a1 := ⟨fun e => h.gg e.symm, h.ga, h.ag, fun a b ha hb e => h.aa b a hb ha e.symm⟩

/-- The first is turned: the second stays, and they share nothing. -/
theorem Apart.step {w w' : World} {B g1 g2 n cap s r : Nat} {a1 a2 a' : Option Addr} {bs : List Nat} (h : Apart g1 a1 g2 a2) (hT : Tp w B g2 a2 n cap bs s r) (hO : Off2 g1 a1 w w') (hN : Nw w a1 a') : Tp w' B g2 a2 n cap bs s r ∧ Apart g1 a' g2 a2 := by
  refine ⟨hT.off hO (fun e => h.gg e.symm) h.ag h.ga (fun a b ha hb => h.aa b a hb ha), h.gg, ?_, h.ga, ?_⟩
  · intro a ha
    rcases hN a ha with ⟨c, hc, e⟩ | hc
    · have := h.ag c hc; omega
    · have := hT.hd.lt; omega
  · intro a b ha hb
    rcases hN a ha with ⟨c, hc, e⟩ | hc
    · have := h.aa c b hc hb; omega
    · have := hT.own.lt b hb; omega

/-- A tape's parts. -/
structure Gt where
  g : Nat
  ao : Option Addr
  n : Nat
  cap : Nat
  bs : List Nat
  s : Nat

structure Tri (w : World) (B : Nat) (x y z : Gt) : Prop where
  t1 : Tp w B x.g x.ao x.n x.cap x.bs x.s 20000
  t2 : Tp w B y.g y.ao y.n y.cap y.bs y.s 20000
  t3 : Tp w B z.g z.ao z.n z.cap z.bs z.s 20000
  p12 : Apart x.g x.ao y.g y.ao
  p13 : Apart x.g x.ao z.g z.ao
  p23 : Apart y.g y.ao z.g z.ao

theorem Tri.below {w w' : World} {B : Nat} {x y z : Gt} (h : Tri w B x y z) (hb : Below w.heap.size w w') : Tri w' B x y z := ⟨h.t1.below hb, h.t2.below hb, h.t3.below hb, h.p12, h.p13, h.p23⟩

theorem Tri.turn1 {w w' : World} {B : Nat} {x y z : Gt} (h : Tri w B x y z) {a : Option Addr} {n c s : Nat} {bs : List Nat} (hT : Tp w' B x.g a n c bs s 20000) (hO : Off2 x.g x.ao w w') (hN : Nw w x.ao a) : Tri w' B ⟨x.g, a, n, c, bs, s⟩ y z :=
  ⟨hT, (h.p12.step h.t2 hO hN).1, (h.p13.step h.t3 hO hN).1, (h.p12.step h.t2 hO hN).2, (h.p13.step h.t3 hO hN).2, h.p23⟩
theorem Tri.turn2 {w w' : World} {B : Nat} {x y z : Gt} (h : Tri w B x y z) {a : Option Addr} {n c s : Nat} {bs : List Nat} (hT : Tp w' B y.g a n c bs s 20000) (hO : Off2 y.g y.ao w w') (hN : Nw w y.ao a) : Tri w' B x ⟨y.g, a, n, c, bs, s⟩ z :=
  ⟨(h.p12.symm.step h.t1 hO hN).1, hT, (h.p23.step h.t3 hO hN).1, (h.p12.symm.step h.t1 hO hN).2.symm, h.p13, (h.p23.step h.t3 hO hN).2⟩
theorem Tri.turn3 {w w' : World} {B : Nat} {x y z : Gt} (h : Tri w B x y z) {a : Option Addr} {n c s : Nat} {bs : List Nat} (hT : Tp w' B z.g a n c bs s 20000) (hO : Off2 z.g z.ao w w') (hN : Nw w z.ao a) : Tri w' B x y ⟨z.g, a, n, c, bs, s⟩ :=
  ⟨(h.p13.symm.step h.t1 hO hN).1, (h.p23.symm.step h.t2 hO hN).1, hT, h.p12, (h.p13.symm.step h.t1 hO hN).2.symm, (h.p23.symm.step h.t2 hO hN).2.symm⟩

/-- Of n0 bytes all are on it and safe; or nothing is on it. -/
def Gt.full (x : Gt) (bs : List Nat) (n : Nat) : Prop := x.bs = bs ∧ x.n = n ∧ x.s = n
def Gt.state (x : Gt) (p : Bool) (bs : List Nat) (n : Nat) : Prop := if p then x.full bs n else x.full [] 0

end Go.Proofs.Ytdajhdeheheccaa
