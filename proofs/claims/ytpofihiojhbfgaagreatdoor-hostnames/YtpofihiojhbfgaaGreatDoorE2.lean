/- Packets as values and in memory; what rightPacket and Frame of package msg do, walked. Package host: a session and a host in memory (client 1 alone ever has a session), and what a step leaves of them. No walk. Short functions of package host, walked: isMeant, refusal, New, Live, Own, Open, begin. -/
import Derived.Test.YtpofihiojhbfgaaGreatDoorB8
import Derived.Deep.RegionHeld
import Derived.Deep.DeepCutAuto
import Derived.Deep.CutBlock
import Derived.Test.YtpofihiojhbfgaaGreatDoorHs
import Derived.Test.YtpofihiojhbfgaaGreatDoorE1
import Derived.Test.YtpofihiojhbfgaaGreatDoorC2
import Derived.Test.YtpofihiojhbfgaaGreatDoorD9
namespace Go.Proofs.YtpofihiojhbfgaaGreatDoor.Msg
open Go.RowKit
set_option linter.unusedVariables false
set_option maxRecDepth 8000

structure PkG where
  cl : Int
  ep : Int
  bo : Int
  sq : Int
  ak : Int
  sv : Bool
  bs : List Nat

abbrev pkV (P : PkG) (ao : Option Addr) (n cap : Nat) : Value := .agg #[.int .i64 P.cl, .int .i64 P.ep, .int .i64 P.bo, .int .i64 P.sq, .int .i64 P.ak, .bool P.sv, .slice ao n cap]

abbrev pkO (P : PkG) (ao : Option Addr) (n cap : Nat) : Obj := .cells #[.int .i64 P.cl, .int .i64 P.ep, .int .i64 P.bo, .int .i64 P.sq, .int .i64 P.ak, .bool P.sv, .slice ao n cap] 33

structure PkAt (w : World) (g : Nat) (P : PkG) (ao : Option Addr) (n cap : Nat) : Prop where
  c0 : w.cell? ⟨g, 0, none⟩ = some (.int .i64 P.cl)
  c1 : w.cell? ⟨g, 1, none⟩ = some (.int .i64 P.ep)
  c2 : w.cell? ⟨g, 2, none⟩ = some (.int .i64 P.bo)
  c3 : w.cell? ⟨g, 3, none⟩ = some (.int .i64 P.sq)
  c4 : w.cell? ⟨g, 4, none⟩ = some (.int .i64 P.ak)
  c5 : w.cell? ⟨g, 5, none⟩ = some (.bool P.sv)
  c6 : w.cell? ⟨g, 6, none⟩ = some (.slice ao n cap)
  fz : ∀ j, w.frozen? ⟨g, j, none⟩ = false
  lt : g < w.heap.size

theorem PkAt.new (w : World) (P : PkG) (ao : Option Addr) (n cap : Nat) : PkAt (w.alloc (pkO P ao n cap)) w.heap.size P ao n cap := by
  have h := heap_alloc_new w (pkO P ao n cap)
  refine ⟨?_, ?_, ?_, ?_, ?_, ?_, ?_, fun j => frozen_of_row _ _ _ _ _ h, by simp⟩
  all_goals rw [cell_of_row _ _ _ _ _ _ h]; rfl

theorem PkAt.keep {w w' : World} {g : Nat} {P : PkG} {ao : Option Addr} {n cap : Nat} (h : PkAt w g P ao n cap) (hg : w'.heap[g]? = w.heap[g]?) (hs : w.heap.size ≤ w'.heap.size) : PkAt w' g P ao n cap := by
  have c := fun j => World.cell?_of_block (w := w) (w' := w') (a := ⟨g, j, none⟩) hg
  exact ⟨(c 0).trans h.c0, (c 1).trans h.c1, (c 2).trans h.c2, (c 3).trans h.c3, (c 4).trans h.c4, (c 5).trans h.c5, (c 6).trans h.c6, fun j => (World.frozen?_of_block (w := w) hg).trans (h.fz j), Nat.lt_of_lt_of_le h.lt hs⟩

theorem PkAt.below {w w' : World} {g : Nat} {P : PkG} {ao : Option Addr} {n cap : Nat} (h : PkAt w g P ao n cap) (hb : Below w.heap.size w w') : PkAt w' g P ao n cap := h.keep (hb.block g h.lt) hb.size

def packB (P : PkG) (n : Nat) : Bool := btw P.cl 0 3 && btw P.ep 0 16777215 && btw P.bo 0 16777215 && btw P.sq 0 16777215 && btw P.ak 0 16777215 && decide ((n : Int) ≤ 700)

set_option maxHeartbeats 400000 in
theorem rightPacket_any (P : PkG) (ao : Option Addr) (n cap : Nat) (w : World) : Calls Tryz.prog 76 #[pkV P ao n cap] w fun x w' => x = .returned (.bool (packB P n)) ∧ Below w.heap.size w w' := by
  go_enter Tryz.func76, Tryz.ntmps76
  go_wp2_with (first
    | (go_at_call 113; refine (between_any _ _ _ _).mono ?_; rintro x w0 ⟨rfl, hw⟩; subst w0))
  all_goals
    go_ret
    exact ⟨ret_bool (by first | (simp_all [packB]; done) | (simp_all [packB]; omega)), below_box _ _⟩

def pkZ (P : PkG) : List Int := formsN [P.cl, P.ep, P.bo, P.sq, P.ak, flgI P.sv]

theorem pkZ_bd (P : PkG) : ∀ z ∈ pkZ P, 0 ≤ z ∧ z < 256 := formsN_bd _

def frN (P : PkG) : List Nat := sealN (nb (pkZ P) ++ P.bs)

set_option maxHeartbeats 1600000 in
theorem frame_ok (P : PkG) (ao : Option Addr) (n cap : Nat) (w : World) (h : Rd8 w ao n cap P.bs) (hp : packB P n = true) :
    Calls Tryz.prog 45 #[pkV P ao n cap] w fun x w' => ∃ a2 c2, x = .returned (.tuple #[.slice a2 (n + 20) c2, .int .i64 0]) ∧ Own8 w' w.heap.size a2 (n + 20) c2 (frN P) ∧ Below w.heap.size w w' := by
  have HZ : Hid ((∀ z ∈ [P.cl, P.ep, P.bo, P.sq, P.ak, flgI P.sv], 0 ≤ z ∧ z ≤ 16777215) ∧ n ≤ 700) := by
    simp only [packB, Bool.and_eq_true, btw_iff, decide_eq_true_eq] at hp
    have := flgI_bd P.sv
    refine ⟨?_, by omega⟩
    intro z hz
    simp only [List.mem_cons, List.not_mem_nil, or_false] at hz
    omega
  have hn := HZ.out.2
  have hl := h.len
  have HR : Hid (Rd8 w ao n cap P.bs) := h
  have HPZ : Hid (formsN [P.cl, P.ep, P.bo, P.sq, P.ak, flgI P.sv] = pkZ P) := rfl
  clear h
  go_enter Tryz.func45, Tryz.ntmps45
  go_upto_region 3 with (first
    | (go_at_call 76; refine (rightPacket_any P ao n cap _).mono ?_; rw [hp]; rintro x w1 ⟨rfl, hb⟩; have HB1 : Hid (Below w.heap.size w w1) := below_alloc (hb.mono (by simp)); have hM := (PkAt.new w P ao n cap).below hb; have HM : Hid (∀ W, Below w1.heap.size w1 W → PkAt W w.heap.size P ao n cap) := fun W hW => hM.below hW; clear hb hM)
    | (fail))
  have HS : Hid (∀ W, Below w1.heap.size w1 W → (W.cell? ⟨w.heap.size, 0, none⟩ = some (.int .i64 P.cl) ∧ W.cell? ⟨w.heap.size, 1, none⟩ = some (.int .i64 P.ep) ∧ W.cell? ⟨w.heap.size, 2, none⟩ = some (.int .i64 P.bo) ∧ W.cell? ⟨w.heap.size, 3, none⟩ = some (.int .i64 P.sq) ∧ W.cell? ⟨w.heap.size, 4, none⟩ = some (.int .i64 P.ak) ∧ W.cell? ⟨w.heap.size, 5, none⟩ = some (.bool P.sv))) := fun W hW => by
    have t := HM.out W hW
    exact ⟨t.c0, t.c1, t.c2, t.c3, t.c4, t.c5⟩
  first
    | go_region_held (fun W => (W.cell? ⟨w.heap.size, 0, none⟩ = some (.int .i64 P.cl) ∧ W.cell? ⟨w.heap.size, 1, none⟩ = some (.int .i64 P.ep) ∧ W.cell? ⟨w.heap.size, 2, none⟩ = some (.int .i64 P.bo) ∧ W.cell? ⟨w.heap.size, 3, none⟩ = some (.int .i64 P.sq) ∧ W.cell? ⟨w.heap.size, 4, none⟩ = some (.int .i64 P.ak) ∧ W.cell? ⟨w.heap.size, 5, none⟩ = some (.bool P.sv)))
      (first | exact HS.out _ (Below.refl _ _) | exact HS.out _ (Below.refl _ _).drew | exact HS.out _ ((Below.refl _ _).drew.alloc (Nat.le_refl _) _) | exact HS.out _ hb2 | fail)
      (first
        | (go_at_call 78; refine (flag_any _ _).mono ?_; rintro x w0 ⟨rfl, hw⟩; subst w0)
        | (go_at_call 77; refine (nums_at w1.drew _ 6 18 rfl _ [P.cl, P.ep, P.bo, P.sq, P.ak, flgI P.sv] rfl rfl rfl HZ.out.1 (by omega)).mono ?_; rintro x w2 ⟨ao2, cap2, rfl, ho2', hb2'⟩; have hb2 : Below w1.heap.size w1 w2 := ⟨hb2'.os, hb2'.tape, hb2'.output, hb2'.size, hb2'.block⟩; clear hb2'))
    | fail
  have ho2 : OwnI w2 w1.heap.size 5 .u8 ao2 cap2 (pkZ P) := ho2'
  have t6 := (HM.out w2 hb2).c6
  have hr2 := (HR.out.below HB1.out).below hb2
  have hs1 := hb2.size
  have hzl : (pkZ P).length = 18 := formsN_length _
  clear ho2' HPZ
  go_wp2_with (first
    | (go_at_call 79; refine (seal_any _ (18 + n) _ (nb (pkZ P) ++ P.bs) _ hr4 (by omega)).mono ?_; rintro x w4 ⟨ao4, cap4, rfl, ho4, hb4⟩)
    | (at_builtin; refine wpList_append_rdI _ rfl (.tmp 27) (.tmp 29) 31 rfl w1.heap.size 5 .u8 (.int .u8 0) 1 Tryz.underlying31 info5 rfl rfl rfl ho2 hr2.rd hzl (by rw [ci_length]; exact hl) (by omega) (by unfold maxLen; omega) hs1 ?_; intro ao3 cap3 w3 ho3 hb3; have hr4 : Rd8 w3 ao3 (18 + n) cap3 (nb (pkZ P) ++ P.bs) := ⟨by rw [ci_append, ci_nb (pkZ_bd P)]; exact ho3.rd, by rw [List.length_append, nb_length, hzl, hl], fun b hb => (List.mem_append.1 hb).elim (nb_bytes (pkZ_bd P) b) (HR.out.byte b)⟩)
    | (fail))
  go_ret2
  have e20 : n + 20 = 18 + n + 2 := by omega
  refine ⟨ao4, cap4, by rw [e20]; rfl, ?_, ?_⟩
  · rw [e20]
    have hs3 := (hb2.trans hb3).size
    exact ⟨ho4.own.mono (Nat.le_trans HB1.out.size hs3), ho4.len, ho4.byte⟩
  · exact below_step HB1.out (below_step (hb2.trans hb3) hb4)

end Go.Proofs.YtpofihiojhbfgaaGreatDoor.Msg

namespace Go.Proofs.YtpofihiojhbfgaaGreatDoor
open Go.RowKit
set_option linter.unusedVariables false
set_option maxRecDepth 8000

structure Untd where
  cl : Int
  ep : Int
  tx : Int
  ls : Int
def unC (x : Untd) : List Value := [.int .i64 x.cl, .int .i64 x.ep, .int .i64 x.tx, .int .i64 x.ls]
abbrev unV (x : Untd) : Value := .agg #[.int .i64 x.cl, .int .i64 x.ep, .int .i64 x.tx, .int .i64 x.ls]
abbrev unO (x : Untd) : Obj := .cells #[.int .i64 x.cl, .int .i64 x.ep, .int .i64 x.tx, .int .i64 x.ls] 98
theorem unE : Enc unC 4 := ⟨fun _ => rfl, fun x u hu => by simp only [unC, List.mem_cons, List.not_mem_nil, or_false] at hu; rcases hu with rfl | rfl | rfl | rfl <;> rfl, by decide⟩
theorem infoUn : (Tryz.prog.info? 98).map (fun i => (i.zero, i.size, i.bytes)) = some (some (unV ⟨0, 0, 0, 0⟩), 4, 32) := by kernel_rfl

structure Sg where
  L : List (List Nat)
  sn : Nat
  h : Nat
  si : Int
  fr : Bool
  out : List (List Nat)
structure HoG where
  bo : Int
  pa : Int
  e1 : Int
  T : Dsk.St
  n : Nat
  L : List Sec
  F : List Fr
  hd : Nat
  nn : Nat
  bs : List Nat
  s : Nat
  r : Nat
  last : Nat
  U : List Untd
  se : Option Sg

def Ses (w : World) (Z : Nat → Prop) (s1 : Option Addr) (bo ep : Int) : Option Sg → Prop
  | none => s1 = none ∧ ∀ k, ¬ Z k
  | some s => ∃ t, s1 = some ⟨t, 0, none⟩ ∧ Se w Z t ⟨1, ep, bo, true⟩ s.L s.sn s.h s.si s.fr s.out

structure Hk (w : World) (B : Nat) (V X S Z : Nat → Prop) (h gs d g q : Nat) (s1 ca : Option Addr) (cc : Nat) (G : HoG) : Prop where
  blk : w.heap[h]? = some (hoO G.bo G.pa gs d s1 G.e1 (.slice ca G.U.length cc))
  sw : Sw w B S gs G.L G.F G.hd G.nn G.bs G.s G.r G.last
  dk : Dsk.Dk B V w d g q G.T G.n
  ss : Ses w Z s1 G.bo G.e1 G.se
  un : OwR unC 4 98 w ca cc G.U
  tz : Wai.Tz w
  b2 : 2 < B
  vlt : ∀ k, V k → k < w.heap.size
  bh : B ≤ h
  bz : ∀ k, Z k → B ≤ k
  vh : V h
  vs : ∀ k, S k → V k
  vz : ∀ k, Z k → V k
  vx : ∀ k, X k → V k
  hs : ¬ S h
  hz : ¬ Z h
  hx : ¬ X h
  sz : ∀ k, S k → ¬ Z k
  sx : ∀ k, S k → ¬ X k
  zx : ∀ k, Z k → ¬ X k
  uc : ∀ y, ca = some y → V y.block ∧ B ≤ y.block ∧ y.block ≠ h ∧ ¬ S y.block ∧ ¬ Z y.block ∧ ¬ X y.block

structure Hx (B : Nat) (X : Nat → Prop) (w w' : World) : Prop where
  bel : Below B w w'
  keep : ∀ k, X k → w'.heap[k]? = w.heap[k]?
theorem Hx.trans {B : Nat} {X X2 : Nat → Prop} {w w1 w2 : World} (h : Hx B X w w1) (k : Hx B X2 w1 w2) (hX : ∀ k, X k → X2 k) : Hx B X w w2 := ⟨h.bel.trans k.bel, fun j hj => (k.keep j (hX j hj)).trans (h.keep j hj)⟩

def Ho (w : World) (B : Nat) (X : Nat → Prop) (h gs : Nat) (G : HoG) : Prop := ∃ V S Z d g q s1 ca cc, Hk w B V X S Z h gs d g q s1 ca cc G
def Nv (w w' : World) (V : Nat → Prop) : Nat → Prop := fun k => V k ∨ (w.heap.size ≤ k ∧ k < w'.heap.size)

section
variable {w w' : World} {B : Nat} {V X S Z : Nat → Prop} {h gs d g q : Nat} {s1 ca : Option Addr} {cc : Nat} {G : HoG}
theorem Ses.keep {Z : Nat → Prop} {bo ep : Int} {o : Option Sg} (H : Ses w Z s1 bo ep o) (hs : w.heap.size ≤ w'.heap.size) (hk : ∀ k, Z k → w'.heap[k]? = w.heap[k]?) : Ses w' Z s1 bo ep o := by
  cases o with
  | none => exact H
  | some s =>
    obtain ⟨t, e, h1⟩ := H
    exact ⟨t, e, h1.keep hs hk⟩
theorem Hk.hB (H : Hk w B V X S Z h gs d g q s1 ca cc G) : B ≤ w.heap.size := H.dk.hB
theorem Hk.lt (H : Hk w B V X S Z h gs d g q s1 ca cc G) : h < w.heap.size := H.vlt h H.vh
theorem Hk.cells (H : Hk w B V X S Z h gs d g q s1 ca cc G) : Hc w h G.bo G.pa gs d s1 G.e1 (.slice ca G.U.length cc) := ho_cells H.blk
theorem Hk.xlt (H : Hk w B V X S Z h gs d g q s1 ca cc G) : ∀ k, X k → k < w.heap.size := fun k hk => H.vlt k (H.vx k hk)

theorem Hk.turn {S2 Z2 X2 : Nat → Prop} {s2 ca2 : Option Addr} {cc2 : Nat} {G2 : HoG} (H : Hk w B V X S Z h gs d g q s1 ca cc G) (hb : Below B w w')
    (hV : ∀ k, k < w.heap.size → ¬ V k → w'.heap[k]? = w.heap[k]?)
    (h0 : w'.heap[h]? = some (hoO G2.bo G2.pa gs d s2 G2.e1 (.slice ca2 G2.U.length cc2)))
    (h1 : Sw w' B S2 gs G2.L G2.F G2.hd G2.nn G2.bs G2.s G2.r G2.last) (h2 : G2.T = G.T) (h3 : G2.n = G.n) (h4 : Ses w' Z2 s2 G2.bo G2.e1 G2.se) (h5 : OwR unC 4 98 w' ca2 cc2 G2.U)
    (hS : ∀ k, S2 k → S k ∨ w.heap.size ≤ k) (hZ : ∀ k, Z2 k → (Z k ∨ w.heap.size ≤ k) ∧ k < w'.heap.size) (hX : ∀ k, X2 k → (X k ∨ w.heap.size ≤ k) ∧ k < w'.heap.size) (hA : ∀ y, ca2 = some y → (ca = some y ∨ w.heap.size ≤ y.block) ∧ y.block < w'.heap.size)
    (hd : ∀ k, w.heap.size ≤ k → (S2 k → ¬ Z2 k) ∧ (S2 k → ¬ X2 k) ∧ (Z2 k → ¬ X2 k) ∧ ∀ y, ca2 = some y → y.block = k → ¬ S2 k ∧ ¬ Z2 k ∧ ¬ X2 k) :
    Hk w' B (Nv w w' V) X2 S2 Z2 h gs d g q s2 ca2 cc2 G2 := by
  have hs := hb.size
  have hl := H.lt
  have hS2 := h1.lt
  have hold : ∀ k, k < w.heap.size → (S2 k → S k) ∧ (Z2 k → Z k) ∧ (X2 k → X k) := fun k hk => ⟨fun h => (hS k h).resolve_right (by omega), fun h => (hZ k h).1.resolve_right (by omega), fun h => (hX k h).1.resolve_right (by omega)⟩
  have hcB := H.hB
  refine ⟨h0, h1, ?_, h4, h5, H.tz.below H.b2 hb, H.b2, ?_, H.bh, ?_, .inl H.vh, ?_, ?_, ?_, fun e => H.hs ((hold h hl).1 e), fun e => H.hz ((hold h hl).2.1 e), fun e => H.hx ((hold h hl).2.2 e), ?_, ?_, ?_, ?_⟩
  · rw [h2, h3]
    exact H.dk.move hs hV fun k hk => hk.imp id fun h' => h'.1
  · rintro k (hk | hk)
    · exact Nat.lt_of_lt_of_le (H.vlt k hk) hs
    · exact hk.2
  · intro k hk
    rcases (hZ k hk).1 with h' | h'
    · exact H.bz k h'
    · omega
  · intro k hk
    rcases hS k hk with h' | h'
    · exact .inl (H.vs k h')
    · exact .inr ⟨h', hS2 k hk⟩
  · intro k hk
    rcases (hZ k hk).1 with h' | h'
    · exact .inl (H.vz k h')
    · exact .inr ⟨h', (hZ k hk).2⟩
  · intro k hk
    rcases (hX k hk).1 with h' | h'
    · exact .inl (H.vx k h')
    · exact .inr ⟨h', (hX k hk).2⟩
  · intro k a b
    by_cases hk : k < w.heap.size
    · exact H.sz k ((hold k hk).1 a) ((hold k hk).2.1 b)
    · exact (hd k (by omega)).1 a b
  · intro k a b
    by_cases hk : k < w.heap.size
    · exact H.sx k ((hold k hk).1 a) ((hold k hk).2.2 b)
    · exact (hd k (by omega)).2.1 a b
  · intro k a b
    by_cases hk : k < w.heap.size
    · exact H.zx k ((hold k hk).2.1 a) ((hold k hk).2.2 b)
    · exact (hd k (by omega)).2.2.1 a b
  · intro y hy
    by_cases hk : y.block < w.heap.size
    · have e := (hA y hy).1.resolve_right (by omega)
      obtain ⟨u1, u2, u3, u4, u5, u6⟩ := H.uc y e
      exact ⟨.inl u1, u2, u3, fun e => u4 ((hold _ hk).1 e), fun e => u5 ((hold _ hk).2.1 e), fun e => u6 ((hold _ hk).2.2 e)⟩
    · obtain ⟨u1, u2, u3⟩ := (hd y.block (by omega)).2.2.2 y hy rfl
      exact ⟨.inr ⟨by omega, (hA y hy).2⟩, by omega, by omega, u1, u2, u3⟩

theorem Hk.below (H : Hk w B V X S Z h gs d g q s1 ca cc G) (hb : Below w.heap.size w w') : Hk w' B (Nv w w' V) (Nv w w' X) S Z h gs d g q s1 ca cc G := by
  have hs := hb.size
  refine H.turn (hb.mono H.hB) (fun k hk _ => hb.block k hk) ((hb.block h H.lt).trans H.blk) (H.sw.below hb) rfl rfl (H.ss.keep hs fun k hk => hb.block k (H.vlt k (H.vz k hk))) (H.un.below hb) (fun k hk => .inl hk) (fun k hk => ⟨.inl hk, Nat.lt_of_lt_of_le (H.vlt k (H.vz k hk)) hs⟩) ?_ (fun y hy => ⟨.inl hy, Nat.lt_of_lt_of_le (H.vlt _ (H.uc y hy).1) hs⟩) ?_
  · rintro k (hk | hk)
    · exact ⟨.inl hk, Nat.lt_of_lt_of_le (H.xlt k hk) hs⟩
    · exact ⟨.inr hk.1, hk.2⟩
  · intro k hk
    refine ⟨fun a => ?_, fun a => ?_, fun a => ?_, fun y hy e => ?_⟩
    · have := H.vlt k (H.vs k a); omega
    · have := H.vlt k (H.vs k a); omega
    · have := H.vlt k (H.vz k a); omega
    · have := H.vlt _ (H.uc y hy).1; omega

theorem Hk.store {L : List Sec} {F : List Fr} {hd nn : Nat} {bs : List Nat} {s r last : Nat} (H : Hk w B V X S Z h gs d g q s1 ca cc G) (hn : Ns w w' B S gs L F hd nn bs s r last) : ∃ V2 S2, Hk w' B V2 X S2 Z h gs d g q s1 ca cc { G with L := L, F := F, hd := hd, nn := nn, bs := bs, s := s, r := r, last := last } := by
  have hs := hn.off.size
  obtain ⟨S2, k1, k2⟩ := hn.st
  have hk : ∀ k, k < w.heap.size → ¬ S k → w'.heap[k]? = w.heap[k]? := hn.off.block
  refine ⟨_, S2, H.turn (G2 := { G with L := L, F := F, hd := hd, nn := nn, bs := bs, s := s, r := r, last := last }) hn.bel (fun k hk' hV => hk k hk' fun e => hV (H.vs k e)) ((hk h H.lt H.hs).trans H.blk) k2 rfl rfl (H.ss.keep hs fun k hZ => hk k (H.vlt k (H.vz k hZ)) fun e => H.sz k e hZ) (H.un.keep fun y hy hl => hk _ hl (H.uc y hy).2.2.2.1) k1 (fun k hk => ⟨.inl hk, Nat.lt_of_lt_of_le (H.vlt k (H.vz k hk)) hs⟩) (fun k hk => ⟨.inl hk, Nat.lt_of_lt_of_le (H.xlt k hk) hs⟩) (fun y hy => ⟨.inl hy, Nat.lt_of_lt_of_le (H.vlt _ (H.uc y hy).1) hs⟩) ?_⟩
  intro k hk
  refine ⟨fun _ a => ?_, fun _ a => ?_, fun a => ?_, fun y hy e => ?_⟩
  · have := H.vlt k (H.vz k a); omega
  · have := H.xlt k a; omega
  · have := H.vlt k (H.vz k a); omega
  · have := H.vlt _ (H.uc y hy).1; omega
theorem Hk.storeX {L : List Sec} {F : List Fr} {hd nn : Nat} {bs : List Nat} {s r last : Nat} (H : Hk w B V X S Z h gs d g q s1 ca cc G) (hn : Ns w w' B S gs L F hd nn bs s r last) : Hx B X w w' := ⟨hn.bel, fun k hk => hn.off.block k (H.xlt k hk) fun e => H.sx k e hk⟩

theorem Hk.desk {a : Option Addr} {c : Nat} {A : List Dsk.Sa} {T : Dsk.St} {n : Nat} (H : Hk w B V X S Z h gs d g q s1 ca cc G) (hr : Dsk.Dr B V w w' d g q T n a c A) : Hk w' B (Dsk.Va V a) (fun k => X k ∨ ∃ y, a = some y ∧ k = y.block) S Z h gs d g q s1 ca cc { G with T := T, n := n } := by
  have hs := hr.size
  have hnew : ∀ k, V k → ∀ y, a = some y → k ≠ y.block := fun k hk y hy e => by
    have h1 := hr.new y hy
    have h2 := H.vlt k hk
    omega
  refine ⟨(hr.keep h H.vh).trans H.blk, H.sw.keep hs fun k hk => hr.keep k (H.vs k hk), hr.dk, H.ss.keep hs fun k hk => hr.keep k (H.vz k hk), H.un.keep fun y hy _ => hr.keep _ (H.uc y hy).1, H.tz.below H.b2 hr.bel, H.b2, hr.lt H.vlt, H.bh, H.bz, .inl H.vh, fun k hk => .inl (H.vs k hk), fun k hk => .inl (H.vz k hk), ?_, H.hs, H.hz, ?_, H.sz, ?_, ?_, ?_⟩
  · rintro k (hk | hk)
    · exact .inl (H.vx k hk)
    · exact .inr hk
  · rintro (hk | ⟨y, hy, e⟩)
    · exact H.hx hk
    · exact hnew h H.vh y hy e
  · rintro k hS (hk | ⟨y, hy, e⟩)
    · exact H.sx k hS hk
    · exact hnew k (H.vs k hS) y hy e
  · rintro k hS (hk | ⟨y, hy, e⟩)
    · exact H.zx k hS hk
    · exact hnew k (H.vz k hS) y hy e
  · intro y hy
    obtain ⟨u1, u2, u3, u4, u5, u6⟩ := H.uc y hy
    refine ⟨.inl u1, u2, u3, u4, u5, ?_⟩
    rintro (hk | ⟨z, hz, e⟩)
    · exact u6 hk
    · exact hnew _ u1 z hz e
theorem Hk.deskX {a : Option Addr} {c : Nat} {A : List Dsk.Sa} {T : Dsk.St} {n : Nat} (H : Hk w B V X S Z h gs d g q s1 ca cc G) (hr : Dsk.Dr B V w w' d g q T n a c A) : Hx B X w w' := ⟨hr.bel, fun k hk => hr.keep k (H.vx k hk)⟩

theorem Hk.sess {Z2 X2 : Nat → Prop} {s2 : Sg} {t : Nat} (H : Hk w B V X S Z h gs d g q s1 ca cc G) (ht : s1 = some ⟨t, 0, none⟩) (ho : OffS Z w w') (hse : Se w' Z2 t ⟨1, G.e1, G.bo, true⟩ s2.L s2.sn s2.h s2.si s2.fr s2.out) (hZ : ∀ k, Z2 k → Z k ∨ w.heap.size ≤ k) (hX : ∀ k, X2 k → X k ∨ (w.heap.size ≤ k ∧ k < w'.heap.size ∧ ¬ Z2 k)) : ∃ V2, Hk w' B V2 X2 S Z2 h gs d g q s1 ca cc { G with se := some s2 } := by
  have hs := ho.size
  have hk : ∀ k, k < w.heap.size → ¬ Z k → w'.heap[k]? = w.heap[k]? := ho.block
  refine ⟨_, H.turn (G2 := { G with se := some s2 }) (ho.below H.bz H.hB) (fun k hk' hV => hk k hk' fun e => hV (H.vz k e)) ((hk h H.lt H.hz).trans H.blk) (H.sw.keep hs fun k hS => hk k (H.sw.lt k hS) (H.sz k hS)) rfl rfl ⟨t, ht, hse⟩ (H.un.keep fun y hy hl => hk _ hl (H.uc y hy).2.2.2.2.1) (fun k hk => .inl hk) (fun k hk => ⟨hZ k hk, hse.lt k hk⟩) ?_ (fun y hy => ⟨.inl hy, Nat.lt_of_lt_of_le (H.vlt _ (H.uc y hy).1) hs⟩) ?_⟩
  · intro k hk
    rcases hX k hk with h' | h'
    · exact ⟨.inl h', Nat.lt_of_lt_of_le (H.xlt k h') hs⟩
    · exact ⟨.inr h'.1, h'.2.1⟩
  · intro k hk
    refine ⟨fun a => ?_, fun a => ?_, fun a b => ?_, fun y hy e => ?_⟩
    · have := H.vlt k (H.vs k a); omega
    · have := H.vlt k (H.vs k a); omega
    · rcases hX k b with h' | h'
      · have := H.xlt k h'; omega
      · exact h'.2.2 a
    · have := H.vlt _ (H.uc y hy).1; omega
theorem Hk.sessX (H : Hk w B V X S Z h gs d g q s1 ca cc G) (ho : OffS Z w w') : Hx B X w w' := ⟨ho.below H.bz H.hB, fun k hk => ho.block k (H.xlt k hk) fun e => H.zx k e hk⟩
theorem Hx.of_below (hB : B ≤ w.heap.size) (hX : ∀ k, X k → k < w.heap.size) (hb : Below w.heap.size w w') : Hx B X w w' := ⟨hb.mono hB, fun k hk => hb.block k (hX k hk)⟩
theorem Ho.below (H : Ho w B X h gs G) (hb : Below w.heap.size w w') : Ho w' B (Nv w w' X) h gs G := by
  obtain ⟨V, S, Z, d, g, q, s1, ca, cc, H⟩ := H
  exact ⟨_, _, _, _, _, _, _, _, _, H.below hb⟩
end

end Go.Proofs.YtpofihiojhbfgaaGreatDoor

namespace Go.Proofs.YtpofihiojhbfgaaGreatDoor
open Go.RowKit
set_option linter.unusedVariables false
set_option maxRecDepth 8000

abbrev mPk (P : Lnk.PkG) : Msg.PkG := ⟨P.cl, P.ep, P.bo, P.sq, P.ak, P.sv, P.bs⟩
theorem pk_box (w : World) (P : Lnk.PkG) (u : Value) : (w.alloc (Lnk.pkO P u)).heap[w.heap.size]? = some (Lnk.pkO P u) ∧ Below w.heap.size w (w.alloc (Lnk.pkO P u)) := ⟨heap_alloc_new w _, (Below.refl _ _).alloc (Nat.le_refl _) _⟩

set_option maxHeartbeats 1600000 in
theorem isM_yes (P : Lnk.PkG) (ao : Option Addr) (n cap : Nat) (w : World) (h : Rd8 w ao n cap P.bs) (hp : Msg.packB (mPk P) n = true) (hsv : P.sv = false) (hep : 0 < P.ep) :
    Calls Tryz.prog 22 #[Lnk.pkV P (.slice ao n cap)] w fun e w' => e = .returned (.bool true) ∧ Below w.heap.size w w' := by
  obtain ⟨pcl, pep, pbo, psq, pak, psv, pbs⟩ := P
  simp only at hsv
  subst hsv
  obtain ⟨hb1, hB1⟩ := pk_box w ⟨pcl, pep, pbo, psq, pak, false, pbs⟩ (.slice ao n cap)
  obtain ⟨b, hb⟩ : ∃ b, w.heap.size = b := ⟨_, rfl⟩
  rw [hb] at hb1
  obtain ⟨W, hW⟩ : ∃ W, w.alloc (Lnk.pkO ⟨pcl, pep, pbo, psq, pak, false, pbs⟩ (.slice ao n cap)) = W := ⟨_, rfl⟩
  rw [hW] at hb1 hB1
  obtain ⟨z0, z1, z2, z3, z4, z5, z6⟩ := pk_cells hb1
  have HF : Hid (Calls Tryz.prog 45 #[Lnk.pkV ⟨pcl, pep, pbo, psq, pak, false, pbs⟩ (.slice ao n cap)] W fun x w' => ∃ a2 n2 c2, x = .returned (.tuple #[.slice a2 n2 c2, .int .i64 0]) ∧ w'.cell? ⟨b, 5, none⟩ = some (.bool false) ∧ w'.cell? ⟨b, 1, none⟩ = some (.int .i64 pep) ∧ Hid (Below w.heap.size w w')) := by
    refine (Msg.frame_ok (mPk ⟨pcl, pep, pbo, psq, pak, false, pbs⟩) ao n cap W (h.below hB1) hp).mono ?_
    rintro x w' ⟨a2, c2, rfl, -, k2⟩
    obtain ⟨y0, y1, y2, y3, y4, y5, y6⟩ := pk_cells ((k2.block b (Array.getElem?_eq_some_iff.1 hb1).1).trans hb1)
    exact ⟨a2, _, c2, rfl, y5, y1, below_step hB1 k2⟩
  have hd : decide (0 < pep) = true := by simpa using hep
  clear h hp hep hB1
  go_enter Tryz.func22, Tryz.ntmps22
  go_wp2_with (first
    | (go_at_call 45; refine HF.out.mono ?_; rintro e w3 ⟨a2, n2, c2, rfl, y5, y1, H3⟩)
    | fail)
  go_ret
  exact ⟨rfl, H3.out⟩

set_option maxHeartbeats 1600000 in
theorem isM_srv (P : Lnk.PkG) (ao : Option Addr) (n cap : Nat) (w : World) (h : Rd8 w ao n cap P.bs) (hp : Msg.packB (mPk P) n = true) (hsv : P.sv = true) :
    Calls Tryz.prog 22 #[Lnk.pkV P (.slice ao n cap)] w fun e w' => e = .returned (.bool false) ∧ Below w.heap.size w w' := by
  obtain ⟨pcl, pep, pbo, psq, pak, psv, pbs⟩ := P
  simp only at hsv
  subst hsv
  obtain ⟨hb1, hB1⟩ := pk_box w ⟨pcl, pep, pbo, psq, pak, true, pbs⟩ (.slice ao n cap)
  obtain ⟨b, hb⟩ : ∃ b, w.heap.size = b := ⟨_, rfl⟩
  rw [hb] at hb1
  obtain ⟨W, hW⟩ : ∃ W, w.alloc (Lnk.pkO ⟨pcl, pep, pbo, psq, pak, true, pbs⟩ (.slice ao n cap)) = W := ⟨_, rfl⟩
  rw [hW] at hb1 hB1
  obtain ⟨z0, z1, z2, z3, z4, z5, z6⟩ := pk_cells hb1
  have HF : Hid (Calls Tryz.prog 45 #[Lnk.pkV ⟨pcl, pep, pbo, psq, pak, true, pbs⟩ (.slice ao n cap)] W fun x w' => ∃ a2 n2 c2, x = .returned (.tuple #[.slice a2 n2 c2, .int .i64 0]) ∧ w'.cell? ⟨b, 5, none⟩ = some (.bool true) ∧ w'.cell? ⟨b, 1, none⟩ = some (.int .i64 pep) ∧ Hid (Below w.heap.size w w')) := by
    refine (Msg.frame_ok (mPk ⟨pcl, pep, pbo, psq, pak, true, pbs⟩) ao n cap W (h.below hB1) hp).mono ?_
    rintro x w' ⟨a2, c2, rfl, -, k2⟩
    obtain ⟨y0, y1, y2, y3, y4, y5, y6⟩ := pk_cells ((k2.block b (Array.getElem?_eq_some_iff.1 hb1).1).trans hb1)
    exact ⟨a2, _, c2, rfl, y5, y1, below_step hB1 k2⟩
  clear h hp hB1
  go_enter Tryz.func22, Tryz.ntmps22
  go_wp2_with (first
    | (go_at_call 45; refine HF.out.mono ?_; rintro e w3 ⟨a2, n2, c2, rfl, y5, y1, H3⟩)
    | fail)
  go_ret
  exact ⟨rfl, H3.out⟩

set_option maxHeartbeats 1600000 in
theorem refusal_any (P : Lnk.PkG) (u : Value) (hu : u.oneCell' = true) (w : World) :
    Calls Tryz.prog 24 #[Lnk.pkV P u] w fun e w' => ∃ b, e = .returned (.slice (some ⟨b, 0, none⟩) 1 1) ∧ w'.heap[b]? = some (Lnk.pkO ⟨P.cl, P.ep, 0, 0, 0, true, []⟩ (.slice none 0 0)) ∧ w.heap.size ≤ b ∧ Below w.heap.size w w' := by
  obtain ⟨hb1, hB1⟩ := pk_box w P u
  obtain ⟨b, hb⟩ : ∃ b, w.heap.size = b := ⟨_, rfl⟩
  rw [hb] at hb1
  obtain ⟨W, hW⟩ : ∃ W, w.alloc (Lnk.pkO P u) = W := ⟨_, rfl⟩
  rw [hW] at hb1 hB1
  obtain ⟨z0, z1, z2, z3, z4, z5, z6⟩ := pk_cells hb1
  have HB := hidOf hB1
  clear hB1
  go_enter Tryz.func24, Tryz.ntmps24
  go_wp2
  go_ret
  obtain ⟨hb2, hB2⟩ := pk_box W ⟨P.cl, P.ep, 0, 0, 0, true, []⟩ (.slice none 0 0)
  exact ⟨W.heap.size, rfl, hb2, HB.out.size, below_step HB.out hB2⟩

theorem Dk.lower {B B2 : Nat} {V V2 : Nat → Prop} {W : World} {d g q : Nat} {S : Dsk.St} {n : Nat} (h : Dsk.Dk B V W d g q S n) (hB : B2 ≤ B) (hV : ∀ k, V2 k → V k ∨ k < B) : Dsk.Dk B2 V2 W d g q S n := by
  obtain ⟨C, h1, h2⟩ := h.qk
  have hd := h.bd
  have hg := h.bg
  have hno : ∀ k, B ≤ k → ¬ V k → ¬ V2 k := fun k hk hn h2 => by
    rcases hV k h2 with h' | h'
    · exact hn h'
    · omega
  refine ⟨h.blk, h.tb, ⟨C, Dsk.Qw.mono h1 fun k hk ha => ⟨by omega, hk, ?_⟩, h2⟩, h.dg, by omega, by omega, hno d hd h.vd, hno g hg h.vg, h.nice⟩
  rintro (h' | h')
  · exact hno k ha.1 (fun e => ha.2.2 (.inl e)) h'
  · exact ha.2.2 (.inr h')

set_option maxHeartbeats 1600000 in
theorem hnew_any {B : Nat} {S : Nat → Prop} {gs : Nat} {w : World} {L : List Sec} {F : List Fr} {hd nn : Nat} {bs : List Nat} {s r last : Nat} (bo : Int) (H : Sw w B S gs L F hd nn bs s r last) (hT : Wai.Tz w) (hG : 2 < B) (hB : B ≤ w.heap.size) :
    Calls Tryz.prog 12 #[.int .i64 bo, .int .i64 5, tp gs] w fun e w' => ∃ h X, e = .returned (tp h) ∧ Ho w' B X h gs ⟨bo, 5, 0, ⟨fun _ => 0, [], []⟩, 0, L, F, hd, nn, bs, s, r, last, [], none⟩ ∧ Below B w w' := by
  have HN : Hid (Calls Tryz.prog 32 #[] w fun e w' => ∃ d, e = .returned (Dsk.dp d) ∧ Hid (∃ g q, Dsk.Dk w.heap.size (fun _ => False) w' d g q ⟨fun _ => 0, [], []⟩ 0 ∧ Below w.heap.size w w')) := by
    refine (Dsk.new_desk w).mono ?_
    rintro e w' ⟨d, g, q, rfl, h1, h2⟩
    exact ⟨d, rfl, g, q, h1, h2⟩
  have HA := hidOf (And.intro H (And.intro hT (And.intro hG hB)))
  clear H hT hG hB
  go_enter Tryz.func12, Tryz.ntmps12
  go_wp2_with (first
    | (go_at_call 32; refine HN.out.mono ?_; rintro e w1 ⟨d, rfl, H1⟩)
    | fail)
  all_goals go_ret
  all_goals (
    obtain ⟨g, q, hk, hb⟩ := H1.out
    obtain ⟨HS, hT, hG, hB⟩ := HA.out
    have hz1 := hb.size
    have hb2 : Below w1.heap.size w1 (w1.alloc (hoO bo 5 gs d none 0 (.slice none 0 0))) := (Below.refl _ _).alloc (Nat.le_refl _) _
    have hb3 : Below w.heap.size w (w1.alloc (hoO bo 5 gs d none 0 (.slice none 0 0))) := below_step hb hb2
    have hz3 : (w1.alloc (hoO bo 5 gs d none 0 (.slice none 0 0))).heap.size = w1.heap.size + 1 := by simp
    refine ⟨w1.heap.size, fun k => k < w.heap.size ∧ ¬ S k, rfl, ⟨fun k => k < w.heap.size ∨ k = w1.heap.size, S, fun _ => False, d, g, q, none, none, 0, ?_⟩, hb3.mono hB⟩
    have hk2 : Dsk.Dk w.heap.size (fun k => k = w1.heap.size) (w1.alloc (hoO bo 5 gs d none 0 (.slice none 0 0))) d g q ⟨fun _ => 0, [], []⟩ 0 := hk.more hb2 fun k e => .inr (by omega)
    refine ⟨heap_alloc_new w1 _, HS.below hb3, Dk.lower hk2 hB fun k hk => ?_, ⟨rfl, fun _ h => h⟩, OwR.nil _ _, hT.on hb3, hG, ?_, by show B ≤ w1.heap.size; omega, fun _ h => h.elim, .inr rfl, fun k hk => .inl (HS.lt k hk), fun _ h => h.elim, fun k hk => .inl hk.1, ?_, fun h => h, ?_, fun _ _ h => h, fun k hk h => h.2 hk, fun _ h => h.elim, fun y hy => by cases hy⟩
    · exact hk.elim .inr .inl
    · intro k hk
      show k < (w1.alloc (hoO bo 5 gs d none 0 (.slice none 0 0))).heap.size
      rw [hz3]
      rcases hk with hk | hk <;> omega
    · intro e
      have := HS.lt _ e
      omega
    · intro e
      have := e.1
      omega)

set_option maxHeartbeats 1600000 in
theorem live_yes {w : World} {h t : Nat} {bo pa : Int} {gs d : Nat} {e1 ep : Int} {co : Value} (hH : w.heap[h]? = some (hoO bo pa gs d (some ⟨t, 0, none⟩) e1 co)) (ht : w.cell? ⟨t, 0, none⟩ = some (.int .i64 ep)) :
    Calls Tryz.prog 6 #[tp h, .int .i64 1] w fun e w' => e = .returned (.int .i64 ep) ∧ w' = w := by
  obtain ⟨c0, c1, c2, c3, c4, c5, c6, c7, c8, c9, cA, cB, cC⟩ := ho_cells hH
  clear c0 c1 c2 c3 c4 c6 c7 c8 c9 cA cB cC hH
  go_enter Tryz.func6, Tryz.ntmps6
  go_wp2
  go_ret
  exact ⟨rfl, rfl⟩

set_option maxHeartbeats 1600000 in
theorem live_no {w : World} {h : Nat} {bo pa : Int} {gs d : Nat} {e1 : Int} {s1 : Option Addr} {co : Value} (hH : w.heap[h]? = some (hoO bo pa gs d s1 e1 co)) (c : Int) (hc : c = 4 ∨ c = 0) :
    Calls Tryz.prog 6 #[tp h, .int .i64 c] w fun e w' => e = .returned (.int .i64 0) ∧ w' = w := by
  obtain ⟨c0, c1, c2, c3, c4, c5, c6, c7, c8, c9, cA, cB, cC⟩ := ho_cells hH
  clear c0 c1 c2 c3 c5 c6 c7 c8 c9 cA cB cC hH
  rcases hc with rfl | rfl
  all_goals (
    go_enter Tryz.func6, Tryz.ntmps6
    go_wp2
    go_ret
    exact ⟨rfl, rfl⟩)

set_option maxHeartbeats 1600000 in
theorem hopen_any {w : World} {h : Nat} {bo pa : Int} {gs d : Nat} {e1 : Int} {s1 ca : Option Addr} {n cc : Nat} (hH : w.heap[h]? = some (hoO bo pa gs d s1 e1 (.slice ca n cc))) :
    Calls Tryz.prog 15 #[tp h] w fun e w' => e = .returned (.int .i64 (n : Int)) ∧ w' = w := by
  obtain ⟨c0, c1, c2, c3, c4, c5, c6, c7, c8, c9, cA, cB, cC⟩ := ho_cells hH
  clear c0 c1 c2 c3 c4 c5 c6 c7 c8 c9 cA cB hH
  go_enter Tryz.func15, Tryz.ntmps15
  go_wp2
  go_ret
  exact ⟨rfl, rfl⟩

set_option maxHeartbeats 1600000 in
theorem hown_any {w : World} {h : Nat} {bo pa : Int} {gs d g : Nat} {e1 : Int} {s1 : Option Addr} {co : Value} {T : Nat → Nat} (hH : w.heap[h]? = some (hoO bo pa gs d s1 e1 co)) (hd : w.cell? ⟨d, 0, none⟩ = some (Tab.tp g)) (ht : Tab.Tb w g T) (c p : Int) :
    Calls Tryz.prog 14 #[tp h, .int .i64 c, .int .i64 p] w fun e w' => e = .returned (.int .i64 (Tab.owI T c p : Nat)) ∧ w' = w := by
  obtain ⟨c0, c1, c2, c3, c4, c5, c6, c7, c8, c9, cA, cB, cC⟩ := ho_cells hH
  clear c0 c1 c2 c4 c5 c6 c7 c8 c9 cA cB cC hH
  have HC := hidOf (Tab.own_any w g T ht c p)
  clear ht
  go_enter Tryz.func14, Tryz.ntmps14
  go_wp2_with (first
    | (go_at_call 34; refine HC.out.mono ?_; rintro e w1 ⟨rfl, rfl⟩)
    | fail)
  go_ret
  exact ⟨rfl, rfl⟩

end Go.Proofs.YtpofihiojhbfgaaGreatDoor
