/- HostNames, walked over what the calls of a host do (HostOk): the law's own functions, made, say, hostAlive. HostNames, walked over what the calls of a host do (HostOk): made, hostAlive, HostNames. HostNames, walked over what the calls of a host do (HostOk): hostAlive, HostNames. HostNames, walked over what the calls of a host do (HostOk): the law. -/
import Derived.Test.YtpofihiojhbfgaaGreatDoorHs
import Derived.Test.YtpofihiojhbfgaaGreatDoorB6
import Derived.Test.YtpofihiojhbfgaaGreatDoorB9
import Derived.Test.YtpofihiojhbfgaaGreatDoorC1
namespace Go.Proofs.YtpofihiojhbfgaaGreatDoor
open Go.RowKit
set_option linter.unusedVariables false
set_option maxRecDepth 8000

abbrev Mg := Msg.Mg
def byB (M : Mg) : List Nat := nb (Msg.msgZ M)
theorem al2n (w : World) (o1 o2 : Obj) : ((w.alloc o1).alloc o2).heap[w.heap.size]? = some o1 ∧ ((w.alloc o1).alloc o2).heap[w.heap.size + 1]? = some o2 ∧ Below w.heap.size w ((w.alloc o1).alloc o2) := by
  have h2 := heap_alloc_new (w.alloc o1) o2
  have e : (w.alloc o1).heap.size = w.heap.size + 1 := by simp
  rw [e] at h2
  exact ⟨(heap_alloc_old (w.alloc o1) o2 (by omega)).trans (heap_alloc_new w o1), h2, ((Below.refl _ _).alloc (Nat.le_refl _) _).alloc (by omega) _⟩
theorem pk_cells {w : World} {b : Nat} {P : Lnk.PkG} {u : Value} (h : w.heap[b]? = some (Lnk.pkO P u)) : w.cell? ⟨b, 0, none⟩ = some (.int .i64 P.cl) ∧ w.cell? ⟨b, 1, none⟩ = some (.int .i64 P.ep) ∧ w.cell? ⟨b, 2, none⟩ = some (.int .i64 P.bo) ∧ w.cell? ⟨b, 3, none⟩ = some (.int .i64 P.sq) ∧ w.cell? ⟨b, 4, none⟩ = some (.int .i64 P.ak) ∧ w.cell? ⟨b, 5, none⟩ = some (.bool P.sv) ∧ w.cell? ⟨b, 6, none⟩ = some u := by
  refine ⟨?_, ?_, ?_, ?_, ?_, ?_, ?_⟩
  all_goals rw [cell_of_row _ _ _ _ _ _ h]; rfl

theorem pk_fz {w : World} {b : Nat} {P : Lnk.PkG} {u : Value} (h : w.heap[b]? = some (Lnk.pkO P u)) (j : Nat) : w.frozen? ⟨b, j, none⟩ = false := frozen_of_row _ _ _ _ _ h

set_option maxHeartbeats 1600000 in
theorem lsay (sq bo : Int) (M : Mg) (ao : Option Addr) (n cap q : Nat) (w : World) (hq : (Msg.msgZ M).length = q) (HB : ∀ W, Below w.heap.size w W → Calls Tryz.prog 33 #[Msg.msV M ao n cap] W fun x w' => ∃ a2 c2, x = .returned (.tuple #[.slice a2 q c2, .int .i64 0]) ∧ OwnI w' W.heap.size 5 .u8 a2 c2 (Msg.msgZ M) ∧ Below W.heap.size W w') :
    Calls Tryz.prog 13 #[.int .i64 sq, .int .i64 bo, Msg.msV M ao n cap] w fun e w' => ∃ a2 c2, e = .returned (Lnk.pkV ⟨1, 1, bo, sq, 0, false, byB M⟩ (.slice a2 q c2)) ∧ Lnk.By w' (fun k => w.heap.size ≤ k) (.slice a2 q c2) (byB M) ∧ Below w.heap.size w w' := by
  have HW : Hid _ := al2n w (Msg.msO M ao n cap) (Lnk.pkO ⟨0, 0, 0, 0, 0, false, []⟩ (.slice none 0 0))
  have HM : Hid (Msg.MgAt ((w.alloc (Msg.msO M ao n cap)).alloc (Lnk.pkO ⟨0, 0, 0, 0, 0, false, []⟩ (.slice none 0 0))) w.heap.size M ao n cap) := (Msg.MgAt.new w M ao n cap).below ((Below.refl _ _).alloc (Nat.le_refl _) _)
  have HQ : Hid ((Msg.msgZ M).length = q) := hq
  have HBb : Hid _ := HB
  clear HB hq
  go_enter Tryz.func13, Tryz.ntmps13
  go_upto_region 1 with fail
  show Code.wp _ _ _ _ ((w.alloc (Msg.msO M ao n cap)).alloc (Lnk.pkO ⟨0, 0, 0, 0, 0, false, []⟩ (.slice none 0 0)))
  generalize (w.alloc (Msg.msO M ao n cap)).alloc (Lnk.pkO ⟨0, 0, 0, 0, 0, false, []⟩ (.slice none 0 0)) = W at *
  obtain ⟨g3, hg3⟩ : ∃ g, w.heap.size = g := ⟨_, rfl⟩
  obtain ⟨g4, hg4⟩ : ∃ g, w.heap.size + 1 = g := ⟨_, rfl⟩
  have HG : Hid (w.heap.size = g3 ∧ w.heap.size + 1 = g4 ∧ Below w.heap.size w W ∧ W.heap[g4]? = some (Lnk.pkO ⟨0, 0, 0, 0, 0, false, []⟩ (.slice none 0 0))) := ⟨hg3, hg4, HW.out.2.2, hg4 ▸ HW.out.2.1⟩
  rw [hg3] at HM
  rw [hg4, hg3]
  clear hg3 hg4 HW
  have y0 := HM.out.c0
  have y1 := HM.out.c1
  have y2 := HM.out.c2
  have y3 := HM.out.c3
  have y4 := HM.out.c4
  have y5 := HM.out.c5
  have y6 := HM.out.c6
  have y7 := HM.out.c7
  have y8 := HM.out.c8
  have y9 := HM.out.c9
  have yA := HM.out.cA
  have yB := HM.out.cB
  have HC : Hid (Calls Tryz.prog 33 #[Msg.msV M ao n cap] W fun x w' => ∃ a2 c2, x = .returned (.tuple #[.slice a2 q c2, .int .i64 0]) ∧ w'.heap[g4]? = some (Lnk.pkO ⟨0, 0, 0, 0, 0, false, []⟩ (.slice none 0 0)) ∧ Hid (Lnk.By w' (fun k => w.heap.size ≤ k) (.slice a2 q c2) (byB M) ∧ Below w.heap.size w w')) := by
    refine (HBb.out W HG.out.2.2.1).mono ?_
    rintro x w' ⟨a2, c2, rfl, ho, hb⟩
    refine ⟨a2, c2, rfl, (hb.block g4 (Array.getElem?_eq_some_iff.1 HG.out.2.2.2).1).trans HG.out.2.2.2, (Lnk.By.own (base := W.heap.size) (bs := byB M) ⟨?_, ?_, nb_bytes (Msg.msgZ_bd M)⟩).mono fun k _ hk => Nat.le_trans HG.out.2.2.1.size hk, below_step HG.out.2.2.1 hb⟩
    · rw [byB, ci_nb (Msg.msgZ_bd M)]; exact ho
    · rw [byB, nb_length]; exact HQ.out
  go_upto_region 2 with (first
    | (go_at_call 33; refine HC.out.mono ?_; rintro e w3 ⟨a2, c2, rfl, h4, H3⟩)
    | fail)
  clear y0 y1 y2 y3 y4 y5 y6 y7 y8 y9 yA yB HC HM
  obtain ⟨z0, z1, z2, z3, z4, z5, z6⟩ := pk_cells h4
  have zf := pk_fz h4
  have H4 : Hid (w3.heap[g4]? = some (Lnk.pkO ⟨0, 0, 0, 0, 0, false, []⟩ (.slice none 0 0))) := h4
  clear h4
  go_wp2
  refine bodyPost_ret (by simp [results, Tryz.results13, go_sem, z0, z1, z2, z3, z4, z5, z6]; try rfl) rfl ?_
  have key : ∀ V : World, OffS (fun k => k = g4) w3 V → Lnk.By V (fun k => w.heap.size ≤ k) (.slice a2 q c2) (byB M) ∧ Below w.heap.size w V := by
    intro V hV
    have t := HG.out
    refine ⟨H3.out.1.keepx hV.size fun k cs fr hk => hV.block k (Array.getElem?_eq_some_iff.1 hk).1 fun e => ?_, ?_⟩
    · have e' : k = g4 := e
      rw [e', H4.out] at hk
      simp at hk
    · exact ⟨hV.os.trans H3.out.2.os, hV.tape.trans H3.out.2.tape, hV.output.trans H3.out.2.output, Nat.le_trans H3.out.2.size hV.size, fun k hk => (hV.block k (Nat.lt_of_lt_of_le hk H3.out.2.size) (by intro e; have e' : k = g4 := e; omega)).trans (H3.out.2.block k hk)⟩
  refine ⟨a2, c2, rfl, key _ ?_⟩
  repeat (first | (with_reducible exact OffS.refl _ _) | (with_reducible refine OffS.setCell (A := fun k => k = g4) ?_ rfl _))

end Go.Proofs.YtpofihiojhbfgaaGreatDoor

namespace Go.Proofs.YtpofihiojhbfgaaGreatDoor
open Go.RowKit
set_option linter.unusedVariables false
set_option maxRecDepth 8000

abbrev HSt := Nat → Nat → (Nat → Prop) → World → Nat → Nat → Prop
def Nh (HS : HSt) (j B : Nat) (G : Nat → Prop) (w w' : World) (h gs : Nat) (R : Nat → Prop) : Prop := (∃ G', (∀ k, G' k → (G k ∨ w.heap.size ≤ k) ∧ ¬ R k) ∧ HS j B G' w' h gs) ∧ OffS G w w' ∧ Below B w w'
abbrev kW (sq : Int) : Lnk.PkG := ⟨1, 1, 3, sq, 0, false, byB Msg.mW⟩
abbrev kC : Lnk.PkG := ⟨1, 1, 3, 2, 0, false, byB Msg.mC⟩

structure HostOk (HS : HSt) : Prop where
  lt : ∀ {i B : Nat} {G : Nat → Prop} {w : World} {h gs : Nat}, HS i B G w h gs → ∀ k, G k → k < w.heap.size
  below : ∀ {i B : Nat} {G : Nat → Prop} {w w' : World} {h gs : Nat}, HS i B G w h gs → Below w.heap.size w w' → HS i B G w' h gs
  new3 : ∀ {B : Nat} {S : Nat → Prop} {gs : Nat} {w : World}, Sw w B S gs (L0 6) [Fr.e, Fr.e] 0 0 (rowN []) 0 2000 0 → Wai.Tz w → 2 < B → B ≤ w.heap.size → Calls Tryz.prog 12 #[.int .i64 3, .int .i64 5, tp gs] w fun e w' => ∃ h G, e = .returned (tp h) ∧ HS 0 B G w' h gs ∧ Below B w w'
  new1 : ∀ {B : Nat} {S : Nat → Prop} {gs : Nat} {w : World}, Sw w B S gs (L0 6) [Fr.e, Fr.e] 0 0 (rowN []) 0 500 0 → Wai.Tz w → 2 < B → B ≤ w.heap.size → Calls Tryz.prog 12 #[.int .i64 1, .int .i64 5, tp gs] w fun e w' => ∃ h G, e = .returned (tp h) ∧ HS 9 B G w' h gs ∧ Below B w w'
  no0 : ∀ {B : Nat} {G : Nat → Prop} {w : World} {h gs : Nat} {U : Nat → Prop} {a : Option Addr} {c : Nat}, HS 0 B G w h gs → Lnk.By w U (.slice a 24 c) (byB Msg.mW) → Calls Tryz.prog 8 #[tp h, Lnk.pkV (kW 1) (.slice a 24 c)] w fun e w' => ∃ b cap, e = .returned (.slice (some ⟨b, 0, none⟩) 1 cap) ∧ w'.cell? ⟨b, 2, none⟩ = some (.int .i64 0) ∧ Nh HS 0 B G w w' h gs (fun k => k = b)
  hi0 : ∀ {B : Nat} {G : Nat → Prop} {w : World} {h gs : Nat}, HS 0 B G w h gs → Calls Tryz.prog 8 #[tp h, Lnk.pkV ⟨1, 1, 0, 0, 0, false, []⟩ (.slice none 0 0)] w fun e w' => ∃ b cap, e = .returned (.slice (some ⟨b, 0, none⟩) 1 cap) ∧ w'.cell? ⟨b, 2, none⟩ = some (.int .i64 3) ∧ Nh HS 1 B G w w' h gs (fun k => k = b)
  live1 : ∀ {B : Nat} {G : Nat → Prop} {w : World} {h gs : Nat}, HS 1 B G w h gs → Calls Tryz.prog 6 #[tp h, .int .i64 1] w fun e w' => e = .returned (.int .i64 1) ∧ Below w.heap.size w w'
  ask1 : ∀ {B : Nat} {G : Nat → Prop} {w : World} {h gs : Nat} {U : Nat → Prop} {a : Option Addr} {c : Nat}, HS 1 B G w h gs → Lnk.By w U (.slice a 24 c) (byB Msg.mW) → (∀ x, a = some x → ¬ G x.block) → Calls Tryz.prog 8 #[tp h, Lnk.pkV (kW 1) (.slice a 24 c)] w fun e w' => ∃ b cap, e = .returned (.slice (some ⟨b, 0, none⟩) 1 cap) ∧ (w'.cell? ⟨b, 4, none⟩ = some (.int .i64 1) ∧ w'.cell? ⟨b, 3, none⟩ = some (.int .i64 1)) ∧ Nh HS 2 B G w w' h gs (fun k => k = b)
  own2 : ∀ {B : Nat} {G : Nat → Prop} {w : World} {h gs : Nat}, HS 2 B G w h gs → Calls Tryz.prog 14 #[tp h, .int .i64 1, .int .i64 2] w fun e w' => e = .returned (.int .i64 15) ∧ Below w.heap.size w w'
  com2 : ∀ {B : Nat} {G : Nat → Prop} {w : World} {h gs : Nat} {U : Nat → Prop} {a : Option Addr} {c : Nat}, HS 2 B G w h gs → Lnk.By w U (.slice a 46 c) (byB Msg.mC) → (∀ x, a = some x → ¬ G x.block) → Calls Tryz.prog 8 #[tp h, Lnk.pkV kC (.slice a 46 c)] w fun e w' => ∃ v, e = .returned v ∧ Nh HS 3 B G w w' h gs (fun _ => False)
  open3 : ∀ {B : Nat} {G : Nat → Prop} {w : World} {h gs : Nat}, HS 3 B G w h gs → Calls Tryz.prog 15 #[tp h] w fun e w' => e = .returned (.int .i64 1) ∧ Below w.heap.size w w'
  sync3 : ∀ {B : Nat} {G : Nat → Prop} {w : World} {h gs : Nat}, HS 3 B G w h gs → Calls Tryz.prog 16 #[tp h] w fun e w' => ∃ b cap, e = .returned (.slice (some ⟨b, 0, none⟩) 2 cap) ∧ w'.cell? ⟨b, 10, none⟩ = some (.int .i64 2) ∧ Nh HS 4 B G w w' h gs (fun k => k = b)
  page4 : ∀ {B : Nat} {G : Nat → Prop} {w : World} {h gs : Nat}, HS 4 B G w h gs → Calls Tryz.prog 17 #[tp gs, .int .i64 2] w fun e w' => ∃ l a c d, e = .returned (.tuple #[pgV l a (4619567317775286272, 0) c d, .int .i64 0]) ∧ Nh HS 4 B G w w' h gs (fun _ => False)
  open4 : ∀ {B : Nat} {G : Nat → Prop} {w : World} {h gs : Nat}, HS 4 B G w h gs → Calls Tryz.prog 15 #[tp h] w fun e w' => e = .returned (.int .i64 0) ∧ Below w.heap.size w w'
  dur4 : ∀ {B : Nat} {G : Nat → Prop} {w : World} {h gs : Nat}, HS 4 B G w h gs → Calls Tryz.prog 18 #[tp gs] w fun e w' => e = .returned (.int .i64 1) ∧ Below w.heap.size w w'
  live9 : ∀ {B : Nat} {G : Nat → Prop} {w : World} {h gs : Nat} (c : Int), c = 4 ∨ c = 0 → HS 9 B G w h gs → Calls Tryz.prog 6 #[tp h, .int .i64 c] w fun e w' => e = .returned (.int .i64 0) ∧ Below w.heap.size w w'
  tick9 : ∀ {B : Nat} {G : Nat → Prop} {w : World} {h gs : Nat}, HS 9 B G w h gs → Calls Tryz.prog 7 #[tp h] w fun e w' => ∃ a c, e = .returned (.slice a 0 c) ∧ Nh HS 9 B G w w' h gs (fun _ => False)
  srv9 : ∀ {B : Nat} {G : Nat → Prop} {w : World} {h gs : Nat}, HS 9 B G w h gs → Calls Tryz.prog 8 #[tp h, Lnk.pkV ⟨0, 1, 0, 0, 0, true, []⟩ (.slice none 0 0)] w fun e w' => ∃ a c, e = .returned (.slice a 0 c) ∧ Below B w w'

set_option maxHeartbeats 1600000 in
theorem made_any (HS : HSt) (i : Nat) (bo ro : Int) (r : Nat) (hr : bnd ro = r) (w : World) (hT : Wai.Tz w)
    (HN : ∀ {S : Nat → Prop} {gs : Nat} {W : World}, Sw W w.heap.size S gs (L0 6) [Fr.e, Fr.e] 0 0 (rowN []) 0 r 0 → Wai.Tz W → 2 < w.heap.size → w.heap.size ≤ W.heap.size → Calls Tryz.prog 12 #[.int .i64 bo, .int .i64 5, tp gs] W fun e w' => ∃ h G, e = .returned (tp h) ∧ HS i w.heap.size G w' h gs ∧ Below w.heap.size W w') :
    Calls Tryz.prog 4 #[.int .i64 bo, .int .i64 5, .int .i64 ro] w fun e w' => ∃ h gs G, e = .returned (.tuple #[tp h, tp gs]) ∧ HS i w.heap.size G w' h gs ∧ Below w.heap.size w w' := by
  obtain ⟨g1, hg1⟩ : ∃ g, w.heap.size = g := ⟨_, rfl⟩
  have H1 : Hid (Calls Tryz.prog 10 #[.int .i64 ro] w fun e w' => e = .returned (tp g1) ∧ Hid (Calls Tryz.prog 11 #[.int .i64 6] w' fun e w' => ∃ g2, e = .returned (dp g2) ∧ Hid (Calls Tryz.prog 9 #[tp g1, dp g2, .int .i64 2] w' fun x w2 => ∃ gs, x = .returned (.tuple #[tp gs, .int .i64 0]) ∧ Hid (Calls Tryz.prog 12 #[.int .i64 bo, .int .i64 5, tp gs] w2 fun e w3 => ∃ h, e = .returned (tp h) ∧ Hid (∃ G, HS i w.heap.size G w3 h gs ∧ Below w.heap.size w w3))))) := by
    subst hg1
    refine (new_any ro w).mono ?_
    rintro e W ⟨rfl, h1, hW, hb⟩
    rw [hr] at h1
    have hT1 := h1 _ (Nat.le_refl _)
    refine ⟨rfl, (snew_any 6 W).mono ?_⟩
    rintro e w' ⟨rfl, h1, h2, h3⟩
    refine ⟨_, rfl, ?_⟩
    have hb2 : Below w.heap.size w w' := below_step hb h3
    have hD := h1 (fun _ => False) (fun h => h)
    refine (openS w.heap.size W.heap.size w.heap.size (fun _ => False) 6 r 2 w' (hT1.below h3) hD (fun k hk => hk.elim) ⟨⟨by omega, by omega, fun h => h⟩, fun a ha => by cases ha⟩ (by omega) (by decide) (by decide)).mono ?_
    rintro x w2 ⟨gs, S, rfl, hS, hb3⟩
    refine ⟨gs, rfl, ?_⟩
    have hb4 : Below w.heap.size w w2 := hb2.trans hb3
    refine (HN hS (hT.on hb4) hT.lt hb4.size).mono ?_
    rintro e w3 ⟨h, G, rfl, k1, k2⟩
    exact ⟨h, rfl, G, k1, hb4.trans k2⟩
  clear hT HN hr hg1
  go_enter Tryz.func4, Tryz.ntmps4
  go_wp2_with (first
    | (go_at_call 10; refine H1.out.mono ?_; rintro e w1 ⟨rfl, K2⟩)
    | (go_at_call 11; (with_reducible refine K2.out.mono ?_); rintro e w2 ⟨g2, rfl, K3⟩)
    | (go_at_call 9; (with_reducible refine K3.out.mono ?_); rintro e w3 ⟨gs, rfl, K4⟩)
    | (go_at_call 12; (with_reducible refine K4.out.mono ?_); rintro e w4 ⟨h, rfl, K5⟩)
    | fail)
  go_ret2
  obtain ⟨G, k1, k2⟩ := K5.out
  exact ⟨h, gs, G, rfl, k1, k2⟩

end Go.Proofs.YtpofihiojhbfgaaGreatDoor

namespace Go.Proofs.YtpofihiojhbfgaaGreatDoor
open Go.RowKit
set_option linter.unusedVariables false
set_option maxRecDepth 8000

theorem by_new {w : World} {V : Nat → Prop} {a : Option Addr} {n c : Nat} {bs : List Nat} (h : Lnk.By w V (.slice a n c) bs) : ∀ x, a = some x → V x.block := by
  obtain ⟨ao, n', c', e, -, -, hi⟩ := h
  cases e
  exact fun x hx => (hi x hx).1

def At (HS : HSt) (j B : Nat) (w0 w : World) (h gs : Nat) (R : Nat → Prop) : Prop := ∃ G, HS j B G w h gs ∧ (∀ k, G k → ¬ R k) ∧ Below B w0 w
theorem At.below {HS : HSt} (hO : HostOk HS) {j B : Nat} {w0 w w' : World} {h gs : Nat} {R : Nat → Prop} (H : At HS j B w0 w h gs R) (hB : B ≤ w0.heap.size) (hb : Below w.heap.size w w') : At HS j B w0 w' h gs R := by
  obtain ⟨G, h1, h2, h3⟩ := H
  exact ⟨G, hO.below h1 hb, h2, h3.trans (hb.mono (Nat.le_trans hB h3.size))⟩
theorem At.step {HS : HSt} (hO : HostOk HS) {i j B : Nat} {w0 w : World} {h gs : Nat} {R : Nat → Prop} (H : At HS i B w0 w h gs R) {fn : FuncId} {args : Array Value} {Post : Ending → World → Prop} {R2 : Ending → World → Nat → Prop} (hR : ∀ k, R k → k < w.heap.size)
    (hc : ∀ G, HS i B G w h gs → Calls Tryz.prog fn args w fun e w' => Post e w' ∧ ∃ R', (∀ k, R2 e w' k → R' k) ∧ Nh HS j B G w w' h gs R') :
    Calls Tryz.prog fn args w fun e w' => Post e w' ∧ At HS j B w0 w' h gs (fun k => R k ∨ R2 e w' k) ∧ ∀ k, R k → w'.heap[k]? = w.heap[k]? := by
  obtain ⟨G, h1, h2, h3⟩ := H
  refine (hc G h1).mono ?_
  rintro e w' ⟨hp, R', hR', ⟨G', k1, k2⟩, k3, k4⟩
  refine ⟨hp, ⟨G', k2, fun k hk e => ?_, h3.trans k4⟩, fun k hk => k3.block k (hR k hk) fun e => h2 k e hk⟩
  rcases e with e | e
  · rcases (k1 k hk).1 with h' | h'
    · exact h2 k h' e
    · have := hR k e
      omega
  · exact (k1 k hk).2 (hR' k e)

theorem a_no {HS : HSt} (hO : HostOk HS) {B : Nat} {w0 w : World} {h gs : Nat} (hB : B ≤ w0.heap.size) (H : At HS 0 B w0 w h gs (fun _ => False)) : Calls Tryz.prog 13 #[.int .i64 1, .int .i64 3, .agg #[.int .i64 1, .int .i64 2, .int .i64 1, .int .i64 0, .int .i64 0, .int .i64 0, .bool false, .slice none 0 0, .complex .f64 0 0, .complex .f64 0 0, .complex .f64 0 0, .complex .f64 0 0]] w fun e w' => ∃ a c, e = .returned (.agg #[.int .i64 1, .int .i64 1, .int .i64 3, .int .i64 1, .int .i64 0, .bool false, .slice a 24 c]) ∧ Hid (Calls Tryz.prog 8 #[tp h, .agg #[.int .i64 1, .int .i64 1, .int .i64 3, .int .i64 1, .int .i64 0, .bool false, .slice a 24 c]] w' fun e w2 => ∃ b cap, e = .returned (.slice (some ⟨b, 0, none⟩) 1 cap) ∧ Hid (w2.cell? ⟨b, 2, none⟩ = some (.int .i64 0) ∧ At HS 0 B w0 w2 h gs (fun k => k = b))) := by
  refine (lsay 1 3 Msg.mW none 0 0 24 w Msg.len_W (fun W _ => Msg.refBytes_W W)).mono ?_
  rintro e w' ⟨a, c, rfl, hy, hb⟩
  refine ⟨a, c, rfl, ?_⟩
  refine ((H.below hO hB hb).step hO (j := 0) (Post := fun e w2 => ∃ b cap, e = .returned (.slice (some ⟨b, 0, none⟩) 1 cap) ∧ w2.cell? ⟨b, 2, none⟩ = some (.int .i64 0)) (R2 := fun e w2 k => ∃ cap, e = .returned (.slice (some ⟨k, 0, none⟩) 1 cap)) (fun _ h => h.elim) (fun G hG => (hO.no0 hG hy).mono ?_)).mono ?_
  · rintro e w2 ⟨b, cap, rfl, h1, h2⟩
    exact ⟨⟨b, cap, rfl, h1⟩, _, fun k ⟨c', e⟩ => by cases e; rfl, h2⟩
  · rintro e w2 ⟨⟨b, cap, rfl, h1⟩, ⟨G, k1, k2, k3⟩, -⟩
    exact ⟨b, cap, rfl, h1, G, k1, fun k hk e => k2 k hk (.inr ⟨cap, by rw [e]⟩), k3⟩

theorem a_hi {HS : HSt} (hO : HostOk HS) {B : Nat} {w0 w : World} {h gs b3 : Nat} (hB : B ≤ w0.heap.size) (hl : b3 < w.heap.size) (H : At HS 0 B w0 w h gs (fun k => k = b3)) : Calls Tryz.prog 8 #[tp h, .agg #[.int .i64 1, .int .i64 1, .int .i64 0, .int .i64 0, .int .i64 0, .bool false, .slice none 0 0]] w fun e w2 => ∃ b cap, e = .returned (.slice (some ⟨b, 0, none⟩) 1 cap) ∧ Hid (w2.cell? ⟨b, 2, none⟩ = some (.int .i64 3) ∧ At HS 1 B w0 w2 h gs (fun _ => False) ∧ w2.heap[b3]? = w.heap[b3]?) := by
  refine (H.step hO (j := 1) (Post := fun e w2 => ∃ b cap, e = .returned (.slice (some ⟨b, 0, none⟩) 1 cap) ∧ w2.cell? ⟨b, 2, none⟩ = some (.int .i64 3)) (R2 := fun _ _ _ => False) (fun k h => by rw [h]; exact hl) (fun G hG => (hO.hi0 hG).mono ?_)).mono ?_
  · rintro e w2 ⟨b, cap, rfl, h1, h2⟩
    exact ⟨⟨b, cap, rfl, h1⟩, _, fun k h => h.elim, h2⟩
  · rintro e w2 ⟨⟨b, cap, rfl, h1⟩, ⟨G, k1, k2, k3⟩, k4⟩
    exact ⟨b, cap, rfl, h1, ⟨G, k1, fun _ _ h => h, k3⟩, k4 b3 rfl⟩

theorem a_ask {HS : HSt} (hO : HostOk HS) {B : Nat} {w0 w : World} {h gs : Nat} (hB : B ≤ w0.heap.size) (H : At HS 1 B w0 w h gs (fun _ => False)) : Calls Tryz.prog 13 #[.int .i64 1, .int .i64 3, .agg #[.int .i64 1, .int .i64 2, .int .i64 1, .int .i64 0, .int .i64 0, .int .i64 0, .bool false, .slice none 0 0, .complex .f64 0 0, .complex .f64 0 0, .complex .f64 0 0, .complex .f64 0 0]] w fun e w' => ∃ a c, e = .returned (.agg #[.int .i64 1, .int .i64 1, .int .i64 3, .int .i64 1, .int .i64 0, .bool false, .slice a 24 c]) ∧ Hid (Calls Tryz.prog 8 #[tp h, .agg #[.int .i64 1, .int .i64 1, .int .i64 3, .int .i64 1, .int .i64 0, .bool false, .slice a 24 c]] w' fun e w2 => ∃ b cap, e = .returned (.slice (some ⟨b, 0, none⟩) 1 cap) ∧ Hid ((w2.cell? ⟨b, 4, none⟩ = some (.int .i64 1) ∧ w2.cell? ⟨b, 3, none⟩ = some (.int .i64 1)) ∧ At HS 2 B w0 w2 h gs (fun _ => False))) := by
  refine (lsay 1 3 Msg.mW none 0 0 24 w Msg.len_W (fun W _ => Msg.refBytes_W W)).mono ?_
  rintro e w' ⟨a, c, rfl, hy, hb⟩
  refine ⟨a, c, rfl, ?_⟩
  obtain ⟨G0, i1, i2, i3⟩ := H
  refine (hO.ask1 (hO.below i1 hb) hy (fun x hx e => ?_)).mono ?_
  · have h1 := by_new hy x hx
    have h2 := hO.lt i1 _ e
    omega
  · rintro e w2 ⟨b, cap, rfl, h1, ⟨⟨G', k1, k2⟩, k3, k4⟩⟩
    exact ⟨b, cap, rfl, h1, G', k2, fun _ _ h => h, (i3.trans (hb.mono (Nat.le_trans hB i3.size))).trans k4⟩

theorem a_com {HS : HSt} (hO : HostOk HS) {B : Nat} {w0 w : World} {h gs : Nat} {ao : Option Addr} {cap : Nat} (hB : B ≤ w0.heap.size) (H : At HS 2 B w0 w h gs (fun _ => False)) (hP : RdP w ao 1 cap [Msg.p7]) : Calls Tryz.prog 13 #[.int .i64 2, .int .i64 3, .agg #[.int .i64 2, .int .i64 0, .int .i64 0, .int .i64 1, .int .i64 0, .int .i64 0, .bool false, .slice ao 1 cap, .complex .f64 0 0, .complex .f64 0 0, .complex .f64 0 0, .complex .f64 0 0]] w fun e w' => ∃ a c, e = .returned (.agg #[.int .i64 1, .int .i64 1, .int .i64 3, .int .i64 2, .int .i64 0, .bool false, .slice a 46 c]) ∧ Hid (Calls Tryz.prog 8 #[tp h, .agg #[.int .i64 1, .int .i64 1, .int .i64 3, .int .i64 2, .int .i64 0, .bool false, .slice a 46 c]] w' fun e w2 => (∃ v, e = .returned v) ∧ Hid (At HS 3 B w0 w2 h gs (fun _ => False))) := by
  refine (lsay 2 3 Msg.mC ao 1 cap 46 w Msg.len_C (fun W hW => Msg.refBytes_C W ao cap (hP.below hW))).mono ?_
  rintro e w' ⟨a, c, rfl, hy, hb⟩
  refine ⟨a, c, rfl, ?_⟩
  obtain ⟨G0, i1, i2, i3⟩ := H
  refine (hO.com2 (hO.below i1 hb) hy (fun x hx e => ?_)).mono ?_
  · have h1 := by_new hy x hx
    have h2 := hO.lt i1 _ e
    omega
  · rintro e w2 ⟨v, rfl, ⟨⟨G', k1, k2⟩, k3, k4⟩⟩
    exact ⟨⟨v, rfl⟩, G', k2, fun _ _ h => h, (i3.trans (hb.mono (Nat.le_trans hB i3.size))).trans k4⟩

theorem a_sync {HS : HSt} (hO : HostOk HS) {B : Nat} {w0 w : World} {h gs : Nat} (H : At HS 3 B w0 w h gs (fun _ => False)) : Calls Tryz.prog 16 #[tp h] w fun e w2 => ∃ b cap, e = .returned (.slice (some ⟨b, 0, none⟩) 2 cap) ∧ Hid (w2.cell? ⟨b, 10, none⟩ = some (.int .i64 2) ∧ At HS 4 B w0 w2 h gs (fun k => k = b)) := by
  obtain ⟨G0, i1, i2, i3⟩ := H
  refine (hO.sync3 i1).mono ?_
  rintro e w2 ⟨b, cap, rfl, h1, ⟨⟨G', k1, k2⟩, k3, k4⟩⟩
  exact ⟨b, cap, rfl, h1, G', k2, fun k hk => (k1 k hk).2, i3.trans k4⟩

theorem a_page {HS : HSt} (hO : HostOk HS) {B : Nat} {w0 w : World} {h gs b3 : Nat} (hl : b3 < w.heap.size) (H : At HS 4 B w0 w h gs (fun k => k = b3)) : Calls Tryz.prog 17 #[tp gs, .int .i64 2] w fun e w2 => ∃ l a c d, e = .returned (.tuple #[pgV l a (4619567317775286272, 0) c d, .int .i64 0]) ∧ Hid (At HS 4 B w0 w2 h gs (fun _ => False) ∧ w2.heap[b3]? = w.heap[b3]?) := by
  obtain ⟨G0, i1, i2, i3⟩ := H
  refine (hO.page4 i1).mono ?_
  rintro e w2 ⟨l, a, c, d, rfl, ⟨⟨G', k1, k2⟩, k3, k4⟩⟩
  exact ⟨l, a, c, d, rfl, ⟨G', k2, fun _ _ h => h, i3.trans k4⟩, k3.block b3 hl fun e => i2 b3 e rfl⟩

end Go.Proofs.YtpofihiojhbfgaaGreatDoor

namespace Go.Proofs.YtpofihiojhbfgaaGreatDoor
open Go.RowKit
set_option linter.unusedVariables false
set_option maxRecDepth 8000

theorem hid_of {p : Prop} (h : p) : Hid p := h

set_option maxHeartbeats 3200000 in
theorem halive {HS : HSt} (hO : HostOk HS) (w : World) (hT : Wai.Tz w) : Calls Tryz.prog 5 #[] w fun e w' => e = .returned (.bool true) ∧ Below w.heap.size w w' := by
  have hst := fun (ad : Addr) (re im : Nat) (W : World) => run_store Tryz.prog W ad (.complex .f64 re im) .plain rfl
  have hcq : ∀ W : World, (binOp .eql 44 (.complex .f64 4619567317775286272 0) (.complex .f64 4619567317775286272 0)).run Tryz.prog W = .ok (.bool true) W := fun _ => by kernel_rfl
  have HO : Hid (HostOk HS) := hO
  have HN : Hid (Calls Tryz.prog 4 #[.int .i64 3, .int .i64 5, .int .i64 2000] w fun e w' => ∃ h gs, e = .returned (.tuple #[tp h, tp gs]) ∧ Hid (At HS 0 w.heap.size w w' h gs (fun _ => False))) := by
    refine (made_any HS 0 3 2000 2000 (by decide) w hT (fun {S gs W} h1 h2 h3 h4 => hO.new3 h1 h2 h3 h4)).mono ?_
    rintro e w' ⟨h, gs, G, rfl, h1, h2⟩
    exact ⟨h, gs, rfl, G, h1, fun _ _ h => h, h2⟩
  clear hT hO
  go_enter Tryz.func5, Tryz.ntmps5
  go_upto_region 4 with (first
    | (go_at_call 4; refine HN.out.mono ?_; rintro e W1 ⟨h, gs, rfl, H1⟩)
    | fail)
  clear HN
  have HC := hid_of (a_no HO.out (Nat.le_refl _) H1.out)
  go_upto_region 5 with (first
    | (go_at_call 13; refine HC.out.mono ?_; rintro e W2 ⟨a2, c2, rfl, HC2⟩)
    | (go_at_call 8; refine HC2.out.mono ?_; rintro e W3 ⟨b3, cap3, rfl, H3⟩)
    | fail)
  clear HC HC2 H1
  have HC := hid_of (a_hi HO.out (Nat.le_refl _) (World.block_lt_of_cell? W3 _ H3.out.1) H3.out.2)
  go_upto_region 6 with (first
    | (go_at_call 8; refine HC.out.mono ?_; rintro e W4 ⟨b4, cap4, rfl, H4⟩)
    | fail)
  clear HC
  have p3 : W4.cell? ⟨b3, 2, none⟩ = some (.int .i64 0) := (World.cell?_of_block (w := W3) (w' := W4) (a := ⟨b3, 2, none⟩) H4.out.2.2).trans H3.out.1
  have p4 := H4.out.1
  have HL : Hid (Calls Tryz.prog 6 #[tp h, .int .i64 1] W4 fun e w' => e = .returned (.int .i64 1) ∧ Hid (At HS 1 w.heap.size w w' h gs (fun _ => False))) := by
    obtain ⟨G, i1, i2, i3⟩ := H4.out.2.1
    refine (HO.out.live1 i1).mono ?_
    rintro e w' ⟨rfl, hb⟩
    exact ⟨rfl, H4.out.2.1.below HO.out (Nat.le_refl _) hb⟩
  go_upto_region 8 with (first
    | (go_at_call 6; refine HL.out.mono ?_; rintro e W5 ⟨rfl, H5⟩)
    | fail)
  clear HL H3 H4 p3 p4
  have HC := hid_of (a_ask HO.out (Nat.le_refl _) H5.out)
  go_upto_region 9 with (first
    | (go_at_call 13; refine HC.out.mono ?_; rintro e W6 ⟨a6, c6, rfl, HC2⟩)
    | (go_at_call 8; refine HC2.out.mono ?_; rintro e W7 ⟨b7, cap7, rfl, H7⟩)
    | fail)
  clear HC HC2 H5
  have p4 := H7.out.1.1
  have p3 := H7.out.1.2
  have HL : Hid (Calls Tryz.prog 14 #[tp h, .int .i64 1, .int .i64 2] W7 fun e w' => e = .returned (.int .i64 15) ∧ Hid (At HS 2 w.heap.size w w' h gs (fun _ => False))) := by
    obtain ⟨G, i1, i2, i3⟩ := H7.out.2
    refine (HO.out.own2 i1).mono ?_
    rintro e w' ⟨rfl, hb⟩
    exact ⟨rfl, H7.out.2.below HO.out (Nat.le_refl _) hb⟩
  go_upto_region 11 with (first
    | (go_at_call 14; refine HL.out.mono ?_; rintro e W8 ⟨rfl, H8⟩)
    | fail)
  clear HL H7 p3 p4
  have HC := hid_of (a_com HO.out (Nat.le_refl _) (H8.out.below HO.out (Nat.le_refl _) ((Below.refl _ _).alloc (Nat.le_refl _) (wputO Msg.p7))) (put_rd W8 Msg.p7))
  go_upto_region 12 with (first
    | (go_at_call 13; refine HC.out.mono ?_; rintro e W9 ⟨a9, c9, rfl, HC2⟩)
    | (go_at_call 8; refine HC2.out.mono ?_; rintro e W10 ⟨⟨v10, rfl⟩, H10⟩)
    | fail)
  clear HC HC2 H8
  have HL : Hid (Calls Tryz.prog 15 #[tp h] W10 fun e w' => e = .returned (.int .i64 1) ∧ Hid (At HS 3 w.heap.size w w' h gs (fun _ => False))) := by
    obtain ⟨G, i1, i2, i3⟩ := H10.out
    refine (HO.out.open3 i1).mono ?_
    rintro e w' ⟨rfl, hb⟩
    exact ⟨rfl, H10.out.below HO.out (Nat.le_refl _) hb⟩
  go_upto_region 14 with (first
    | (go_at_call 15; refine HL.out.mono ?_; rintro e W11 ⟨rfl, H11⟩)
    | fail)
  clear HL H10
  have HC := hid_of (a_sync HO.out H11.out)
  go_upto_region 15 with (first
    | (go_at_call 16; refine HC.out.mono ?_; rintro e W12 ⟨b12, cap12, rfl, H12⟩)
    | fail)
  clear HC H11
  have HC := hid_of (a_page HO.out (World.block_lt_of_cell? W12 _ H12.out.1) H12.out.2)
  go_upto_region 16 with (first
    | (go_at_call 17; refine HC.out.mono ?_; unfold pgV; rintro e W13 ⟨l13, a13, c13, d13, rfl, H13⟩)
    | fail)
  clear HC
  have HX : Hid (At HS 4 w.heap.size w (W13.alloc (pgO l13 a13 (4619567317775286272, 0) c13 d13)) h gs (fun _ => False) ∧ PgAt (W13.alloc (pgO l13 a13 (4619567317775286272, 0) c13 d13)) W13.heap.size l13 a13 (4619567317775286272, 0) c13 d13 ∧ (W13.alloc (pgO l13 a13 (4619567317775286272, 0) c13 d13)).cell? ⟨b12, 10, none⟩ = some (.int .i64 2)) := by
    have hb : Below W13.heap.size W13 (W13.alloc (pgO l13 a13 (4619567317775286272, 0) c13 d13)) := (Below.refl _ _).alloc (Nat.le_refl _) _
    have hc : W13.cell? ⟨b12, 10, none⟩ = some (.int .i64 2) := (World.cell?_of_block (w := W12) (w' := W13) (a := ⟨b12, 10, none⟩) H13.out.2).trans H12.out.1
    exact ⟨H13.out.1.below HO.out (Nat.le_refl _) hb, PgAt.new W13 _ _ _ _ _, (hb.cell (p := ⟨b12, 10, none⟩) (World.block_lt_of_cell? W13 _ hc)).trans hc⟩
  show Code.wp _ _ _ _ (W13.alloc (pgO l13 a13 (4619567317775286272, 0) c13 d13))
  obtain ⟨g13, hg13⟩ : ∃ g, W13.heap.size = g := ⟨_, rfl⟩
  rw [hg13] at HX ⊢
  clear hg13 H12 H13
  generalize W13.alloc (pgO l13 a13 (4619567317775286272, 0) c13 d13) = W14 at *
  have p10 := HX.out.2.2
  have q2 := HX.out.2.1.c2
  have HL : Hid (Calls Tryz.prog 15 #[tp h] W14 fun e w' => e = .returned (.int .i64 0) ∧ Hid (Calls Tryz.prog 18 #[tp gs] w' fun e w2 => e = .returned (.int .i64 1) ∧ Hid (Below w.heap.size w w2))) := by
    obtain ⟨G, i1, i2, i3⟩ := HX.out.1
    refine (HO.out.open4 i1).mono ?_
    rintro e w' ⟨rfl, hb⟩
    refine ⟨rfl, (HO.out.dur4 (HO.out.below i1 hb)).mono ?_⟩
    rintro e w2 ⟨rfl, hb2⟩
    exact ⟨rfl, (i3.trans (hb.mono i3.size)).trans (hb2.mono (Nat.le_trans i3.size hb.size))⟩
  clear HX
  go_wp2_with (first
    | (go_at_call 15; refine HL.out.mono ?_; rintro e W15 ⟨rfl, H15⟩)
    | (go_at_call 18; refine H15.out.mono ?_; rintro e W16 ⟨rfl, H16⟩)
    | fail)
  go_ret
  exact ⟨rfl, H16.out⟩

set_option maxHeartbeats 3200000 in
theorem hnames {HS : HSt} (hO : HostOk HS) (w : World) (hT : Wai.Tz w) : Calls Tryz.prog 3 #[] w fun e w' => e = .returned (.bool true) ∧ Below w.heap.size w w' := by
  have HO : Hid (HostOk HS) := hO
  have HT : Hid (Wai.Tz w) := hT
  have HN : Hid (Calls Tryz.prog 4 #[.int .i64 1, .int .i64 5, .int .i64 500] w fun e w' => ∃ h gs, e = .returned (.tuple #[tp h, tp gs]) ∧ Hid (At HS 9 w.heap.size w w' h gs (fun _ => False))) := by
    refine (made_any HS 9 1 500 500 (by decide) w hT (fun {S gs W} h1 h2 h3 h4 => hO.new1 h1 h2 h3 h4)).mono ?_
    rintro e w' ⟨h, gs, G, rfl, h1, h2⟩
    exact ⟨h, gs, rfl, G, h1, fun _ _ h => h, h2⟩
  clear hT hO
  go_enter Tryz.func3, Tryz.ntmps3
  go_upto_region 2 with (first
    | (go_at_call 4; refine HN.out.mono ?_; rintro e W1 ⟨h, gs, rfl, H1⟩)
    | fail)
  clear HN
  have H2 : Hid (Calls Tryz.prog 5 #[] W1 fun e w' => e = .returned (.bool true) ∧ Hid (At HS 9 w.heap.size w w' h gs (fun _ => False))) := by
    obtain ⟨G, i1, i2, i3⟩ := H1.out
    refine (halive HO.out W1 (HT.out.on i3)).mono ?_
    rintro e w' ⟨rfl, hb⟩
    exact ⟨rfl, H1.out.below HO.out (Nat.le_refl _) hb⟩
  have HL : Hid (∀ W c, c = 4 ∨ c = 0 → At HS 9 w.heap.size w W h gs (fun _ => False) → Calls Tryz.prog 6 #[tp h, .int .i64 c] W fun e w' => e = .returned (.int .i64 0) ∧ Hid (At HS 9 w.heap.size w w' h gs (fun _ => False))) := by
    intro W c hc hA
    obtain ⟨G, i1, i2, i3⟩ := hA
    refine (HO.out.live9 c hc i1).mono ?_
    rintro e w' ⟨rfl, hb⟩
    exact ⟨rfl, G, HO.out.below i1 hb, i2, i3.trans (hb.mono i3.size)⟩
  have HK : Hid (∀ W, At HS 9 w.heap.size w W h gs (fun _ => False) → Calls Tryz.prog 7 #[tp h] W fun e w' => ∃ a c, e = .returned (.slice a 0 c) ∧ Hid (At HS 9 w.heap.size w w' h gs (fun _ => False))) := by
    intro W hA
    obtain ⟨G, i1, i2, i3⟩ := hA
    refine (HO.out.tick9 i1).mono ?_
    rintro e w' ⟨a, c, rfl, ⟨⟨G', k1, k2⟩, k3, k4⟩⟩
    exact ⟨a, c, rfl, G', k2, fun _ _ h => h, i3.trans k4⟩
  have HG : Hid (∀ W, At HS 9 w.heap.size w W h gs (fun _ => False) → Calls Tryz.prog 8 #[tp h, .agg #[.int .i64 0, .int .i64 1, .int .i64 0, .int .i64 0, .int .i64 0, .bool true, .slice none 0 0]] W fun e w' => ∃ a c, e = .returned (.slice a 0 c) ∧ Hid (Below w.heap.size w w')) := by
    intro W hA
    obtain ⟨G, i1, i2, i3⟩ := hA
    refine (HO.out.srv9 i1).mono ?_
    rintro e w' ⟨a, c, rfl, hb⟩
    exact ⟨a, c, rfl, i3.trans hb⟩
  go_wp2_with (first
    | (go_at_call 5; refine H2.out.mono ?_; rintro e W2 ⟨rfl, H3⟩; clear H2; have L1 := hid_of (HL.out W2 4 (.inl rfl) H3.out))
    | (go_at_call 6; refine L1.out.mono ?_; rintro e W3 ⟨rfl, H4⟩; clear L1; have L2 := hid_of (HL.out W3 0 (.inr rfl) H4.out))
    | (go_at_call 6; refine L2.out.mono ?_; rintro e W4 ⟨rfl, H5⟩; clear L2; have L3 := hid_of (HK.out W4 H5.out))
    | (go_at_call 7; refine L3.out.mono ?_; rintro e W5 ⟨a5, c5, rfl, H6⟩; have L4 := hid_of (HG.out W5 H6.out))
    | (go_at_call 8; refine L4.out.mono ?_; rintro e W6 ⟨a6, c6, rfl, H7⟩)
    | fail)
  go_ret
  exact ⟨rfl, H7.out⟩

end Go.Proofs.YtpofihiojhbfgaaGreatDoor
