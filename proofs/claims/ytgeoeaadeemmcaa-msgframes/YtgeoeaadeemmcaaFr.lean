/- Any packet and any frame: program and document side by side, walked. -/
import Derived.Test.YtgeoeaadeemmcaaQb
import Derived.Test.YtgeoeaadeemmcaaAl
import Derived.Test.YtgeoeaadeemmcaaSg
namespace Go.Proofs.Ytgeoeaadeemmcaa
open Go.RowKit
set_option linter.unusedVariables false

set_option maxHeartbeats 800000 in
theorem samePacket_same (P : PkG) (a1 a2 : Option Addr) (n c1 c2 : Nat) (w : World) (h1 : Rd8 w a1 n c1 P.bs) (h2 : Rd8 w a2 n c2 P.bs) :
    Calls Try.prog 15 #[pkV P a1 n c1, pkV P a2 n c2] w fun x w' => x = .returned (.bool true) ∧ Below w.heap.size w w' := by
  have hb := below2 w (pkO P a1 n c1) (pkO P a2 n c2)
  have hx1 := (h1.below hb).str
  have hx2 := (h2.below hb).str
  clear h1 h2
  go_enter Try.func15, Try.ntmps15
  go_wp2
  go_ret
  exact ⟨rfl, hb⟩

theorem PkAt.put6 {w : World} {g : Nat} {P : PkG} {ao : Option Addr} {n cap : Nat} (h : PkAt w g P ao n cap) (a' : Option Addr) (n' c' : Nat) : PkAt (w.setCell ⟨g, 6, none⟩ (.slice a' n' c')) g P a' n' c' := by
  refine ⟨?_, ?_, ?_, ?_, ?_, ?_, ?_, fun j => by simp only [World.frozen?_setCell]; exact h.fz j, by simpa [World.setCell] using h.lt⟩
  case refine_7 => exact World.cell?_setCell_same _ _ _ h.c6
  all_goals rw [put_other _ _ _ _ _ (by decide)]
  all_goals first | exact h.c0 | exact h.c1 | exact h.c2 | exact h.c3 | exact h.c4 | exact h.c5

theorem PkAt.other {w : World} {g : Nat} {P : PkG} {ao : Option Addr} {n cap : Nat} (h : PkAt w g P ao n cap) (p : Addr) (v : Value) (hne : g ≠ p.block) : PkAt (w.setCell p v) g P ao n cap :=
  h.keep (Below.heap_setCell _ _ _ _ hne) (by simp [World.setCell])

/-- Open, as an equation of what is told. -/
theorem open_to (Q : PkG) (E : Int) (ao : Option Addr) (n cap : Nat) (fs : List Nat) (w : World) (h : Rd8 w ao n cap fs) (hn : n ≤ 140737488355328) (hq : outK (openP fs) = Q) (he : outF (openP fs) = E) :
    Calls Try.prog 13 #[.slice ao n cap] w fun x w' => ∃ a' c', x = .returned (.tuple #[pkV Q a' Q.bs.length c', .int .i64 E]) ∧ Rd8 w' a' Q.bs.length c' Q.bs ∧ Below w.heap.size w w' := by
  refine (open_any ao n cap fs w h hn).mono ?_
  rintro x w' ⟨a', n', c', hx, hr, hb⟩
  rw [hq] at hx hr
  rw [he] at hx
  have e := hr.len
  subst e
  exact ⟨a', c', hx, hr, hb⟩

theorem ropen_to (Q : PkG) (E : Int) (ao : Option Addr) (n cap : Nat) (fs : List Nat) (w : World) (h : Rd8 w ao n cap fs) (hn : n ≤ 140737488355328) (hq : outK (openP fs) = Q) (he : outF (openP fs) = E) :
    Calls Try.prog 14 #[.slice ao n cap] w fun x w' => ∃ a' c', x = .returned (.tuple #[pkV Q a' Q.bs.length c', .int .i64 E]) ∧ Rd8 w' a' Q.bs.length c' Q.bs ∧ Below w.heap.size w w' := by
  refine (refMsgOpen_any ao n cap fs w h hn).mono ?_
  rintro x w' ⟨a', n', c', hx, hr, hb⟩
  rw [hq] at hx hr
  rw [he] at hx
  have e := hr.len
  subst e
  exact ⟨a', c', hx, hr, hb⟩

set_option maxHeartbeats 1600000 in
set_option maxRecDepth 100000 in
theorem frames_any (P : PkG) (ao : Option Addr) (n cap : Nat) (af : Option Addr) (m cf : Nat) (fs : List Nat) (w : World) (h : Rd8 w ao n cap P.bs) (hn : n ≤ 140737488351232) (hf : Rd8 w af m cf fs) (hm : m ≤ 140737488351232) :
    Calls Try.prog 5 #[pkV P ao n cap, .slice af m cf] w fun x w' => x = .returned (.bool true) ∧ Below w.heap.size w w' := by
  have hln := h.len
  have hlm := hf.len
  have HR : Hid (Rd8 w ao n cap P.bs) := h
  have HF : Hid (Rd8 w af m cf fs) := hf
  have HP0 : Hid (PkAt (w.alloc (pkO P ao n cap)) w.heap.size P ao n cap) := PkAt.new w P ao n cap
  obtain ⟨Q, hQ⟩ : ∃ Q, outK (openP fs) = Q := ⟨_, rfl⟩
  obtain ⟨E, hE⟩ : ∃ E, outF (openP fs) = E := ⟨_, rfl⟩
  have HQ : Hid (outK (openP fs) = Q) := hQ
  have HE : Hid (outF (openP fs) = E) := hE
  clear h hf hQ hE
  generalize hfe : frE P n = e1 at *
  have HFE : Hid (frE P n = e1) := hfe
  clear hfe
  go_enter Try.func5, Try.ntmps5
  go_wp2_with (first
    | (go_at_call 15; refine (samePacket_same Q a7 a8 Q.bs.length c7 c8 _ hq9 hr9).mono ?_; rintro x w10 ⟨rfl, hb10⟩; have tw := HO9.out.below hb10; have tp := HP9.out.below hb10; have u6 : w10.cell? ⟨w1.heap.size, 6, none⟩ = some (.slice a2 n c2) := tw.c6; have s6 : w10.cell? ⟨w.heap.size, 6, none⟩ = some (.slice ao n cap) := tp.c6; have hx3 := (HB9.out.below hb10).str; have hx4 := ((HR.out.below HW9.out).below hb10).str; have HW10 : Hid (Below w.heap.size w w10) := below_step HW9.out hb10; clear tw tp)
    | (go_at_call 14; refine (ropen_to Q E af m cf fs _ (HF.out.below HW7.out) (by omega) HQ.out HE.out).mono ?_; rintro x w8 ⟨a8, c8, rfl, hr8, hb8⟩; have hbx := below_step hb8 (below_box w8 (pkO Q a8 Q.bs.length c8)); have HW9 : Hid (Below w.heap.size w (w8.alloc (pkO Q a8 Q.bs.length c8))) := below_step HW7.out hbx; have hx1 := (HX7.out.below hbx).str; have hx2 := (HY7.out.below hbx).str; have hq9 := HQ7.out.below hbx; have hr9 := hr8.below (below_box w8 (pkO Q a8 Q.bs.length c8)); have HO9 : Hid (PkAt (w8.alloc (pkO Q a8 Q.bs.length c8)) w1.heap.size P a2 n c2) := HO7.out.below hbx; have HP9 : Hid (PkAt (w8.alloc (pkO Q a8 Q.bs.length c8)) w.heap.size P ao n cap) := HP7.out.below hbx; have HB9 : Hid (Rd8 (w8.alloc (pkO Q a8 Q.bs.length c8)) a2 n c2 P.bs) := HB7.out.below hbx; have HK9 : Hid (PkAt (w8.alloc (pkO Q a8 Q.bs.length c8)) w7.heap.size Q a7 Q.bs.length c7) := HK7.out.below hbx; have tk := HK9.out; have k0 : (w8.alloc (pkO Q a8 Q.bs.length c8)).cell? ⟨w7.heap.size, 0, none⟩ = some (.int .i64 Q.cl) := tk.c0; have k1 : (w8.alloc (pkO Q a8 Q.bs.length c8)).cell? ⟨w7.heap.size, 1, none⟩ = some (.int .i64 Q.ep) := tk.c1; have k2 : (w8.alloc (pkO Q a8 Q.bs.length c8)).cell? ⟨w7.heap.size, 2, none⟩ = some (.int .i64 Q.bo) := tk.c2; have k3 : (w8.alloc (pkO Q a8 Q.bs.length c8)).cell? ⟨w7.heap.size, 3, none⟩ = some (.int .i64 Q.sq) := tk.c3; have k4 : (w8.alloc (pkO Q a8 Q.bs.length c8)).cell? ⟨w7.heap.size, 4, none⟩ = some (.int .i64 Q.ak) := tk.c4; have k5 : (w8.alloc (pkO Q a8 Q.bs.length c8)).cell? ⟨w7.heap.size, 5, none⟩ = some (.bool Q.sv) := tk.c5; have k6 : (w8.alloc (pkO Q a8 Q.bs.length c8)).cell? ⟨w7.heap.size, 6, none⟩ = some (.slice a7 Q.bs.length c7) := tk.c6; clear tk hbx hb8 hr8)
    | (go_at_call 13; refine (open_to Q E a6 m c6 fs _ hf6 (by omega) HQ.out HE.out).mono ?_; rintro x w7 ⟨a7, c7, rfl, hq7, hb7⟩; have hbx := below_step hb7 (below_box w7 (pkO Q a7 Q.bs.length c7)); have HW7 : Hid (Below w.heap.size w (w7.alloc (pkO Q a7 Q.bs.length c7))) := below_step HW6.out hbx; have HX7 : Hid (Rd8 (w7.alloc (pkO Q a7 Q.bs.length c7)) ax nx cx (frB P n)) := HX6.out.below hbx; have HY7 : Hid (Rd8 (w7.alloc (pkO Q a7 Q.bs.length c7)) ay ny cy (frB P n)) := HY6.out.below hbx; have HQ7 : Hid (Rd8 (w7.alloc (pkO Q a7 Q.bs.length c7)) a7 Q.bs.length c7 Q.bs) := hq7.below (below_box _ _); have HO7 : Hid (PkAt (w7.alloc (pkO Q a7 Q.bs.length c7)) w1.heap.size P a2 n c2) := HO6.out.below hbx; have HP7 : Hid (PkAt (w7.alloc (pkO Q a7 Q.bs.length c7)) w.heap.size P ao n cap) := HP6.out.below hbx; have HB7 : Hid (Rd8 (w7.alloc (pkO Q a7 Q.bs.length c7)) a2 n c2 P.bs) := HB6.out.below hbx; have HK7 : Hid (PkAt (w7.alloc (pkO Q a7 Q.bs.length c7)) w7.heap.size Q a7 Q.bs.length c7) := PkAt.new w7 Q a7 Q.bs.length c7; clear hbx hb7 hf6 hq7)
    | (at_builtin; refine wpList_append_rdI _ rfl (.tmp 33) (.tmp 34) 22 rfl w5.heap.size 5 .u8 (.int .u8 0) 1 Try.underlying22 info5 rfl rfl rfl (OwnI.fresh w5 _ _ _ (Nat.le_refl _)) ((HF.out.below HW5.out).alloc _).rd rfl (by rw [ci_length]; exact hlm) (by omega) (by unfold maxLen; omega) (by simp) ?_; intro a6 c6 w6 hf6' hb6; have hbx : Below w5.heap.size w5 w6 := below_alloc hb6; have hf6 : Rd8 w6 a6 m c6 fs := ⟨by simpa using hf6'.rd, hlm, HF.out.byte⟩; have HW6 : Hid (Below w.heap.size w w6) := below_step HW5.out hbx; have HX6 : Hid (Rd8 w6 ax nx cx (frB P n)) := HX5.out.below hbx; have HY6 : Hid (Rd8 w6 ay ny cy (frB P n)) := hy5.below hbx; have HO6 : Hid (PkAt w6 w1.heap.size P a2 n c2) := HO5.out.below hbx; have HP6 : Hid (PkAt w6 w.heap.size P ao n cap) := HP5.out.below hbx; have HB6 : Hid (Rd8 w6 a2 n c2 P.bs) := HB5.out.below hbx; clear hbx hb6 hf6')
    | (go_at_call 12; refine (refFrame_any P ao n cap _ (HR.out.below HW4.out)).mono ?_; rw [HFE.out]; rintro x w5 ⟨ay, ny, cy, rfl, hy5, hb5⟩; have HW5 : Hid (Below w.heap.size w w5) := below_step HW4.out hb5; have HX5 : Hid (Rd8 w5 ax nx cx (frB P n)) := hx4'.below hb5; have HO5 : Hid (PkAt w5 w1.heap.size P a2 n c2) := HO4.out.below hb5; have HP5 : Hid (PkAt w5 w.heap.size P ao n cap) := HP4.out.below hb5; have HB5 : Hid (Rd8 w5 a2 n c2 P.bs) := HB4.out.below hb5; clear hb5)
    | (go_at_call 11; refine (frame_any P a2 n c2 _ hb3').mono ?_; rw [HFE.out]; rintro x w4 ⟨ax, nx, cx, rfl, hx4', hb4⟩; have HW4 : Hid (Below w.heap.size w w4) := below_step HW3.out hb4; have HO4 : Hid (PkAt w4 w1.heap.size P a2 n c2) := HO3.out.below hb4; have HP4 : Hid (PkAt w4 w.heap.size P ao n cap) := HP3.out.below hb4; have HB4 : Hid (Rd8 w4 a2 n c2 P.bs) := hb3'.below hb4; have tp := HP4.out; have l0 : w4.cell? ⟨w.heap.size, 0, none⟩ = some (.int .i64 P.cl) := tp.c0; have l1 : w4.cell? ⟨w.heap.size, 1, none⟩ = some (.int .i64 P.ep) := tp.c1; have l2 : w4.cell? ⟨w.heap.size, 2, none⟩ = some (.int .i64 P.bo) := tp.c2; have l3 : w4.cell? ⟨w.heap.size, 3, none⟩ = some (.int .i64 P.sq) := tp.c3; have l4 : w4.cell? ⟨w.heap.size, 4, none⟩ = some (.int .i64 P.ak) := tp.c4; have l5 : w4.cell? ⟨w.heap.size, 5, none⟩ = some (.bool P.sv) := tp.c5; have l6 : w4.cell? ⟨w.heap.size, 6, none⟩ = some (.slice ao n cap) := tp.c6; clear tp hb4)
    | (at_builtin; refine wpList_append_rdI _ rfl (.tmp 17) (.tmp 19) 22 rfl (w1.heap.size + 1) 5 .u8 (.int .u8 0) 1 Try.underlying22 info5 rfl rfl rfl (OwnI.fresh2 w1 _ _ _ _ (Nat.le_refl _)) (((HR.out.below HW1.out).alloc _).alloc _).rd rfl (by rw [ci_length]; exact hln) (by omega) (by unfold maxLen; omega) (by simp) ?_; intro a2 c2 w2 ho2 hb2; have hbx : Below (w1.alloc (pkO P ao n cap)).heap.size (w1.alloc (pkO P ao n cap)) w2 := (below_box _ _).trans (hb2.mono (by simp)); have tw := (PkAt.new w1 P ao n cap).below hbx; have tp := (HP1.out.below (below_box _ _)).below hbx; have o0 : w2.cell? ⟨w1.heap.size, 0, none⟩ = some (.int .i64 P.cl) := tw.c0; have o1 : w2.cell? ⟨w1.heap.size, 1, none⟩ = some (.int .i64 P.ep) := tw.c1; have o2 : w2.cell? ⟨w1.heap.size, 2, none⟩ = some (.int .i64 P.bo) := tw.c2; have o3 : w2.cell? ⟨w1.heap.size, 3, none⟩ = some (.int .i64 P.sq) := tw.c3; have o4 : w2.cell? ⟨w1.heap.size, 4, none⟩ = some (.int .i64 P.ak) := tw.c4; have o5 : w2.cell? ⟨w1.heap.size, 5, none⟩ = some (.bool P.sv) := tw.c5; have o6 : w2.cell? ⟨w1.heap.size, 6, none⟩ = some (.slice ao n cap) := tw.c6; have yo := tw.fz; have hlt : w.heap.size < w1.heap.size := HP1.out.lt; have HO3 : Hid (PkAt (w2.setCell ⟨w1.heap.size, 6, none⟩ (.slice a2 n c2)) w1.heap.size P a2 n c2) := tw.put6 a2 n c2; have HP3 : Hid (PkAt (w2.setCell ⟨w1.heap.size, 6, none⟩ (.slice a2 n c2)) w.heap.size P ao n cap) := tp.other _ _ (show w.heap.size ≠ w1.heap.size by omega); have HW3 : Hid (Below w.heap.size w (w2.setCell ⟨w1.heap.size, 6, none⟩ (.slice a2 n c2))) := (below_step HW1.out (below_alloc (hbx.mono (by simp)))).setCell (show w.heap.size ≤ w1.heap.size by omega) _; have hb3' : Rd8 (w2.setCell ⟨w1.heap.size, 6, none⟩ (.slice a2 n c2)) a2 n c2 P.bs := ⟨(OwnI.other (zs := [] ++ ci P.bs) ho2 ⟨w1.heap.size, 6, none⟩ (.slice a2 n c2) (Nat.lt_succ_self _)).rd, hln, HR.out.byte⟩; clear tw tp hbx hb2 ho2)
    | (go_at_call 7; refine (alive_any _).mono ?_; rintro x w1 ⟨rfl, hb1⟩; have HP1 : Hid (PkAt w1 w.heap.size P ao n cap) := HP0.out.below hb1; have HW1 : Hid (Below w.heap.size w w1) := below_alloc (hb1.mono (by simp)); have m6 : ((w1.alloc (pkO P ao n cap)).alloc (.cells #[] 5)).cell? ⟨w.heap.size, 6, none⟩ = some (.slice ao n cap) := ((HP1.out.below (below_box _ _)).below (below_box _ _)).c6; have tp := HP1.out; have j0 : w1.cell? ⟨w.heap.size, 0, none⟩ = some (.int .i64 P.cl) := tp.c0; have j1 : w1.cell? ⟨w.heap.size, 1, none⟩ = some (.int .i64 P.ep) := tp.c1; have j2 : w1.cell? ⟨w.heap.size, 2, none⟩ = some (.int .i64 P.bo) := tp.c2; have j3 : w1.cell? ⟨w.heap.size, 3, none⟩ = some (.int .i64 P.sq) := tp.c3; have j4 : w1.cell? ⟨w.heap.size, 4, none⟩ = some (.int .i64 P.ak) := tp.c4; have j5 : w1.cell? ⟨w.heap.size, 5, none⟩ = some (.bool P.sv) := tp.c5; have j6 : w1.cell? ⟨w.heap.size, 6, none⟩ = some (.slice ao n cap) := tp.c6; clear tp hb1)
    | (fail))
  go_ret
  exact ⟨rfl, HW10.out⟩

end Go.Proofs.Ytgeoeaadeemmcaa
