/- Packets as values and in memory; what rightPacket and Frame of package msg do, walked. -/
import Derived.Test.YtgeoeaadeemmcaaMz
import Derived.Test.YtgeoeaadeemmcaaM8
import Derived.Deep.RegionHeld
import Derived.Deep.DeepCutAuto
import Derived.Deep.CutBlock
namespace Go.Proofs.Ytgeoeaadeemmcaa
open Go.RowKit
set_option linter.unusedVariables false

/-- A packet: its numbers, whether the server sends it, its bytes. -/
structure PkG where
  cl : Int
  ep : Int
  bo : Int
  sq : Int
  ak : Int
  sv : Bool
  bs : List Nat

abbrev pkV (P : PkG) (ao : Option Addr) (n cap : Nat) : Value := .agg #[.int .i64 P.cl, .int .i64 P.ep, .int .i64 P.bo, .int .i64 P.sq, .int .i64 P.ak, .bool P.sv, .slice ao n cap]

abbrev pkO (P : PkG) (ao : Option Addr) (n cap : Nat) : Obj := .cells #[.int .i64 P.cl, .int .i64 P.ep, .int .i64 P.bo, .int .i64 P.sq, .int .i64 P.ak, .bool P.sv, .slice ao n cap] 39

/-- A packet lies in a block. -/
structure PkAt (w : World) (g : Nat) (P : PkG) (ao : Option Addr) (n cap : Nat) : Prop where
  c0 : w.cell? ⟨g, 0, none⟩ = some (.int .i64 P.cl)
  c1 : w.cell? ⟨g, 1, none⟩ = some (.int .i64 P.ep)
  c2 : w.cell? ⟨g, 2, none⟩ = some (.int .i64 P.bo)
  c3 : w.cell? ⟨g, 3, none⟩ = some (.int .i64 P.sq)
  c4 : w.cell? ⟨g, 4, none⟩ = some (.int .i64 P.ak)
  c5 : w.cell? ⟨g, 5, none⟩ = some (.bool P.sv)
  c6 : w.cell? ⟨g, 6, none⟩ = some (.slice ao n cap)
  fz : ∀ j, w.frozen? ⟨g, j, none⟩ = false
  lt : g < w.heap.size

theorem PkAt.new (w : World) (P : PkG) (ao : Option Addr) (n cap : Nat) : PkAt (w.alloc (pkO P ao n cap)) w.heap.size P ao n cap := by
  have h := heap_alloc_new w (pkO P ao n cap)
  refine ⟨?_, ?_, ?_, ?_, ?_, ?_, ?_, fun j => frozen_of_row _ _ _ _ _ h, by simp⟩
  all_goals rw [cell_of_row _ _ _ _ _ _ h]; rfl

theorem PkAt.keep {w w' : World} {g : Nat} {P : PkG} {ao : Option Addr} {n cap : Nat} (h : PkAt w g P ao n cap) (hg : w'.heap[g]? = w.heap[g]?) (hs : w.heap.size ≤ w'.heap.size) : PkAt w' g P ao n cap := by
  have c := fun j => World.cell?_of_block (w := w) (w' := w') (a := ⟨g, j, none⟩) hg
  exact ⟨(c 0).trans h.c0, (c 1).trans h.c1, (c 2).trans h.c2, (c 3).trans h.c3, (c 4).trans h.c4, (c 5).trans h.c5, (c 6).trans h.c6, fun j => (World.frozen?_of_block (w := w) hg).trans (h.fz j), Nat.lt_of_lt_of_le h.lt hs⟩

theorem PkAt.below {w w' : World} {g : Nat} {P : PkG} {ao : Option Addr} {n cap : Nat} (h : PkAt w g P ao n cap) (hb : Below w.heap.size w w') : PkAt w' g P ao n cap := h.keep (hb.block g h.lt) hb.size

/-- Can a packet with so many bytes be? -/
def packB (P : PkG) (n : Nat) : Bool := btw P.cl 0 3 && btw P.ep 0 16777215 && btw P.bo 0 16777215 && btw P.sq 0 16777215 && btw P.ak 0 16777215 && decide ((n : Int) ≤ 700)

set_option maxHeartbeats 400000 in
theorem rightPacket_any (P : PkG) (ao : Option Addr) (n cap : Nat) (w : World) : Calls Try.prog 31 #[pkV P ao n cap] w fun x w' => x = .returned (.bool (packB P n)) ∧ Below w.heap.size w w' := by
  go_enter Try.func31, Try.ntmps31
  go_wp2_with (first
    | (go_at_call 56; refine (between_any _ _ _ _).mono ?_; rintro x w0 ⟨rfl, hw⟩; subst w0))
  all_goals
    go_ret
    exact ⟨ret_bool (by first | (simp_all [packB]; done) | (simp_all [packB]; omega)), below_box _ _⟩

/-- The first bytes of a packet. -/
def pkZ (P : PkG) : List Int := formsN [P.cl, P.ep, P.bo, P.sq, P.ak, flgI P.sv]

theorem pkZ_bd (P : PkG) : ∀ z ∈ pkZ P, 0 ≤ z ∧ z < 256 := formsN_bd _

/-- The bytes of a packet's frame. -/
def frN (P : PkG) : List Nat := sealN (nb (pkZ P) ++ P.bs)

/-- What Frame tells. -/
def frB (P : PkG) (n : Nat) : List Nat := if packB P n then frN P else []

def frE (P : PkG) (n : Nat) : Int := if packB P n then 0 else 101

set_option maxHeartbeats 400000 in
theorem frame_bad (P : PkG) (ao : Option Addr) (n cap : Nat) (w : World) (hp : packB P n = false) :
    Calls Try.prog 11 #[pkV P ao n cap] w fun x w' => x = .returned (.tuple #[.slice none 0 0, .int .i64 101]) ∧ Below w.heap.size w w' := by
  go_enter Try.func11, Try.ntmps11
  go_wp2_with (first
    | (go_at_call 31; refine (rightPacket_any P ao n cap _).mono ?_; rw [hp]; rintro x w1 ⟨rfl, hb⟩))
  go_ret2
  exact ⟨rfl, below_alloc (hb.mono (by simp))⟩

set_option maxHeartbeats 1600000 in
theorem frame_ok (P : PkG) (ao : Option Addr) (n cap : Nat) (w : World) (h : Rd8 w ao n cap P.bs) (hp : packB P n = true) :
    Calls Try.prog 11 #[pkV P ao n cap] w fun x w' => ∃ a2 c2, x = .returned (.tuple #[.slice a2 (n + 20) c2, .int .i64 0]) ∧ Own8 w' w.heap.size a2 (n + 20) c2 (frN P) ∧ Below w.heap.size w w' := by
  have HZ : Hid ((∀ z ∈ [P.cl, P.ep, P.bo, P.sq, P.ak, flgI P.sv], 0 ≤ z ∧ z ≤ 16777215) ∧ n ≤ 700) := by
    simp only [packB, Bool.and_eq_true, btw_iff, decide_eq_true_eq] at hp
    have := flgI_bd P.sv
    refine ⟨?_, by omega⟩
    intro z hz
    simp only [List.mem_cons, List.not_mem_nil, or_false] at hz
    omega
  have hn := HZ.out.2
  have hl := h.len
  have HR : Hid (Rd8 w ao n cap P.bs) := h
  have HPZ : Hid (formsN [P.cl, P.ep, P.bo, P.sq, P.ak, flgI P.sv] = pkZ P) := rfl
  clear h
  go_enter Try.func11, Try.ntmps11
  go_upto_region 3 with (first
    | (go_at_call 31; refine (rightPacket_any P ao n cap _).mono ?_; rw [hp]; rintro x w1 ⟨rfl, hb⟩; have HB1 : Hid (Below w.heap.size w w1) := below_alloc (hb.mono (by simp)); have hM := (PkAt.new w P ao n cap).below hb; have HM : Hid (∀ W, Below w1.heap.size w1 W → PkAt W w.heap.size P ao n cap) := fun W hW => hM.below hW; clear hb hM)
    | (fail))
  have HS : Hid (∀ W, Below w1.heap.size w1 W → (W.cell? ⟨w.heap.size, 0, none⟩ = some (.int .i64 P.cl) ∧ W.cell? ⟨w.heap.size, 1, none⟩ = some (.int .i64 P.ep) ∧ W.cell? ⟨w.heap.size, 2, none⟩ = some (.int .i64 P.bo) ∧ W.cell? ⟨w.heap.size, 3, none⟩ = some (.int .i64 P.sq) ∧ W.cell? ⟨w.heap.size, 4, none⟩ = some (.int .i64 P.ak) ∧ W.cell? ⟨w.heap.size, 5, none⟩ = some (.bool P.sv))) := fun W hW => by
    have t := HM.out W hW
    exact ⟨t.c0, t.c1, t.c2, t.c3, t.c4, t.c5⟩
  first
    | go_region_held (fun W => (W.cell? ⟨w.heap.size, 0, none⟩ = some (.int .i64 P.cl) ∧ W.cell? ⟨w.heap.size, 1, none⟩ = some (.int .i64 P.ep) ∧ W.cell? ⟨w.heap.size, 2, none⟩ = some (.int .i64 P.bo) ∧ W.cell? ⟨w.heap.size, 3, none⟩ = some (.int .i64 P.sq) ∧ W.cell? ⟨w.heap.size, 4, none⟩ = some (.int .i64 P.ak) ∧ W.cell? ⟨w.heap.size, 5, none⟩ = some (.bool P.sv)))
      (first | exact HS.out _ (Below.refl _ _) | exact HS.out _ (Below.refl _ _).drew | exact HS.out _ ((Below.refl _ _).drew.alloc (Nat.le_refl _) _) | exact HS.out _ hb2 | fail)
      (first
        | (go_at_call 18; refine (flag_any _ _).mono ?_; rintro x w0 ⟨rfl, hw⟩; subst w0)
        | (go_at_call 17; refine (nums_at w1.drew _ 6 18 rfl _ [P.cl, P.ep, P.bo, P.sq, P.ak, flgI P.sv] rfl rfl rfl HZ.out.1 (by omega)).mono ?_; rintro x w2 ⟨ao2, cap2, rfl, ho2', hb2'⟩; have hb2 : Below w1.heap.size w1 w2 := ⟨hb2'.os, hb2'.tape, hb2'.output, hb2'.size, hb2'.block⟩; clear hb2'))
    | fail
  have ho2 : OwnI w2 w1.heap.size 5 .u8 ao2 cap2 (pkZ P) := ho2'
  have t6 := (HM.out w2 hb2).c6
  have hr2 := (HR.out.below HB1.out).below hb2
  have hs1 := hb2.size
  have hzl : (pkZ P).length = 18 := formsN_length _
  clear ho2' HPZ
  go_wp2_with (first
    | (go_at_call 32; refine (seal_any _ (18 + n) _ (nb (pkZ P) ++ P.bs) _ hr4 (by omega)).mono ?_; rintro x w4 ⟨ao4, cap4, rfl, ho4, hb4⟩)
    | (at_builtin; refine wpList_append_rdI _ rfl (.tmp 27) (.tmp 29) 22 rfl w1.heap.size 5 .u8 (.int .u8 0) 1 Try.underlying22 info5 rfl rfl rfl ho2 hr2.rd hzl (by rw [ci_length]; exact hl) (by omega) (by unfold maxLen; omega) hs1 ?_; intro ao3 cap3 w3 ho3 hb3; have hr4 : Rd8 w3 ao3 (18 + n) cap3 (nb (pkZ P) ++ P.bs) := ⟨by rw [ci_append, ci_nb (pkZ_bd P)]; exact ho3.rd, by rw [List.length_append, nb_length, hzl, hl], fun b hb => (List.mem_append.1 hb).elim (nb_bytes (pkZ_bd P) b) (HR.out.byte b)⟩)
    | (fail))
  go_ret2
  have e20 : n + 20 = 18 + n + 2 := by omega
  refine ⟨ao4, cap4, by rw [e20]; rfl, ?_, ?_⟩
  · rw [e20]
    have hs3 := (hb2.trans hb3).size
    exact ⟨ho4.own.mono (Nat.le_trans HB1.out.size hs3), ho4.len, ho4.byte⟩
  · exact below_step HB1.out (below_step (hb2.trans hb3) hb4)

/-- Frame, whatever the packet is. -/
theorem frame_any (P : PkG) (ao : Option Addr) (n cap : Nat) (w : World) (h : Rd8 w ao n cap P.bs) :
    Calls Try.prog 11 #[pkV P ao n cap] w fun x w' => ∃ a2 n2 c2, x = .returned (.tuple #[.slice a2 n2 c2, .int .i64 (frE P n)]) ∧ Rd8 w' a2 n2 c2 (frB P n) ∧ Below w.heap.size w w' := by
  cases hp : packB P n
  · refine (frame_bad P ao n cap w hp).mono ?_
    rintro x w' ⟨rfl, hb⟩
    exact ⟨none, 0, 0, by simp [frE, hp], by simp only [frB, hp]; exact Rd8.empty _, hb⟩
  · refine (frame_ok P ao n cap w h hp).mono ?_
    rintro x w' ⟨a2, c2, rfl, ho, hb⟩
    exact ⟨a2, n + 20, c2, by simp only [frE, hp]; rfl, by simp only [frB, hp]; exact ho.rd, hb⟩

end Go.Proofs.Ytgeoeaadeemmcaa
