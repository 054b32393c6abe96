/- The step of some bytes: readStep, walked. The step of some bytes: readStep where there is a complex number, walked. The step of some bytes: readStep where there is one, walked. The step of some bytes: readStep of any 43 bytes. No walk. -/
import Derived.Test.YtemldmjpanmdbaaGreatDoorS5
import Derived.BigRegion
import Derived.Test.YtemldmjpanmdbaaGreatDoorB6
namespace Go.Proofs.YtemldmjpanmdbaaGreatDoor
open Go.RowKit
set_option linter.unusedVariables false

theorem get_nine (ao : Option Addr) (cap n m : Nat) (zs : List Int) (n0 n1 n2 n3 n4 n5 n6 n7 n8 : Int) (w : World) (hrd : RdI w .u8 ao cap zs) (hn : zs.length = n) (hb : ∀ z ∈ zs, 0 ≤ z ∧ z < 256) (h27 : 27 ≤ n) (hm : n - 27 = m) (hlen : n ≤ 140737488355328)
    (he : getN zs 9 = [n0, n1, n2, n3, n4, n5, n6, n7, n8]) :
    Calls Tryz.prog 16 #[.slice ao n cap, .int .i64 9] w fun e w' => ∃ b1 f1 c1 a2 c2, e = .returned (.tuple #[.slice (some ⟨b1, f1, none⟩) 9 c1, .slice a2 m c2, .int .i64 0]) ∧ b1 < w'.heap.size ∧ w.heap.size ≤ b1 ∧ 9 ≤ c1 ∧
      (w'.cell? ⟨b1, f1, none⟩ = some (.int .i64 n0) ∧ w'.cell? ⟨b1, f1 + 1, none⟩ = some (.int .i64 n1) ∧ w'.cell? ⟨b1, f1 + 2, none⟩ = some (.int .i64 n2) ∧ w'.cell? ⟨b1, f1 + 3, none⟩ = some (.int .i64 n3) ∧ w'.cell? ⟨b1, f1 + 4, none⟩ = some (.int .i64 n4) ∧
        w'.cell? ⟨b1, f1 + 5, none⟩ = some (.int .i64 n5) ∧ w'.cell? ⟨b1, f1 + 6, none⟩ = some (.int .i64 n6) ∧ w'.cell? ⟨b1, f1 + 7, none⟩ = some (.int .i64 n7) ∧ w'.cell? ⟨b1, f1 + 8, none⟩ = some (.int .i64 n8)) ∧
      OwnI w' w.heap.size 5 .u8 a2 c2 (zs.drop 27) ∧ Below w.heap.size w w' := by
  subst hm
  refine (get_good ao cap n 9 zs w hrd hn hb (by omega) (by omega) hlen).mono ?_
  rintro e w' ⟨a1, c1, a2, c2, rfl, h1, h2, h3⟩
  rw [he] at h1
  have hle := h1.rd.le
  have hbk := h1.blk
  obtain ⟨b, f, rfl, hlt, hc⟩ := h1.rd.at (t := 0) (by simp)
  exact ⟨b, f, c1, a2, c2, rfl, hlt, (hbk _ rfl).1, by simpa using hle, ⟨hc 0 (by simp), hc 1 (by simp), hc 2 (by simp), hc 3 (by simp), hc 4 (by simp), hc 5 (by simp), hc 6 (by simp), hc 7 (by simp), hc 8 (by simp)⟩, h2, h3⟩

theorem SgAt.fz {w : World} {g : Nat} {s : Sg} (h : SgAt w g s) (j : Nat) : w.frozen? ⟨g, j, none⟩ = false := frozen_of_row _ _ _ _ _ h
abbrev sg0 : Sg := ⟨0, 0, 0, 0, 0, 0, 0, 0, 0, (0, 0)⟩
/-- What readStep answers of some bytes. -/
def stR (zs : List Int) : Value := match st2 zs with
  | some (s, _) => .tuple #[sgV s, .bool true]
  | none => .tuple #[sgZ, .bool false]

set_option maxHeartbeats 1600000 in
set_option maxRecDepth 100000 in
theorem readStep_none (ao : Option Addr) (cap : Nat) (zs : List Int) (w : World) (hrd : RdI w .u8 ao cap zs) (hn : zs.length = 43) (hb : ∀ z ∈ zs, 0 ≤ z ∧ z < 256) (hv : val1 (zs.drop 27) = none) :
    Calls Tryz.prog 17 #[.slice ao 43 cap] w fun x w' => x = .returned (.tuple #[sgZ, .bool false]) ∧ Below w.heap.size w w' := by
  have hst := fun (ad : Addr) (re im : Nat) (W : World) => run_store Tryz.prog W ad (.complex .f64 re im) .plain rfl
  obtain ⟨n0, n1, n2, n3, n4, n5, n6, n7, n8, he⟩ : ∃ n0 n1 n2 n3 n4 n5 n6 n7 n8, getN zs 9 = [n0, n1, n2, n3, n4, n5, n6, n7, n8] := ⟨_, _, _, _, _, _, _, _, _, get9 zs⟩
  have hB0 : Below w.heap.size w (w.alloc (sgO sg0)) := below_box _ _
  have h0 := hrd.alloc (sgO sg0)
  have hs := SgAt.new w sg0
  have hG := get_nine ao cap 43 16 zs n0 n1 n2 n3 n4 n5 n6 n7 n8 _ h0 hn hb (by omega) rfl (by omega) he
  have hD : ∀ z ∈ zs.drop 27, 0 ≤ z ∧ z < 256 := fun z hz => hb z (List.mem_of_mem_drop hz)
  have hDl : (zs.drop 27).length = 16 := by simp; omega
  have HD : Hid ((∀ z ∈ zs.drop 27, 0 ≤ z ∧ z < 256) ∧ (zs.drop 27).length = 16 ∧ val1 (zs.drop 27) = none) := ⟨hD, hDl, hv⟩
  clear hD hDl hb hrd h0 he hv
  go_enter Tryz.func17, Tryz.ntmps17
  go_upto_region 1 with fail
  generalize w.alloc (sgO sg0) = W0 at *
  have HS : Hid (SgAt W0 w.heap.size sg0) := hs
  have HB0 : Hid (Below w.heap.size w W0) := hB0
  clear hs hB0
  go_upto_region 2 with (first
    | (go_at_call 16; refine hG.mono ?_; rintro x w1 ⟨b1, f1, c1, a2, c2, rfl, hlt1, hge1, hc9, ⟨p0, p1, p2, p3, p4, p5, p6, p7, p8⟩, ho2, hb1⟩))
  have HO : Hid (OwnI w1 W0.heap.size 5 .u8 a2 c2 (zs.drop 27)) := ho2
  have HB1 : Hid (Below W0.heap.size W0 w1) := hb1
  clear ho2 hb1 hG
  go_upto_region 3 with (first
    | (go_at_call 38; refine (take_none _ _ _ (zs.drop 27) _ HO.out.rd HD.out.2.1 HD.out.1 (by omega) HD.out.2.2).mono ?_; rintro x w2 ⟨rfl, hb2⟩))
  have hs2 := (HS.out.below HB1.out).below hb2
  obtain ⟨z0, z1, z2, z3, z4, z5, z6, z7, z8, z9⟩ := hs2.cells
  have hB2 : Below w.heap.size w w2 := (HB0.out.trans (HB1.out.mono HB0.out.size)).trans (hb2.mono (by have := HB0.out.size; have := HB1.out.size; omega))
  have hfz := hs2.fz
  simp only at z0 z1 z2 z3 z4 z5 z6 z7 z8 z9
  have HB2 : Hid (Below w.heap.size w w2) := hB2
  clear hs2 hB2 hb2 p0 p1 p2 p3 p4 p5 p6 p7 p8
  go_wp2
  refine bodyPost_ret (by simp [results, Tryz.results17, go_sem, z0, z1, z2, z3, z4, z5, z6, z7, z8, z9]; try rfl) rfl ?_
  exact ⟨rfl, by have h := HB2.out; go_grown⟩
end Go.Proofs.YtemldmjpanmdbaaGreatDoor

namespace Go.Proofs.YtemldmjpanmdbaaGreatDoor
open Go.RowKit
set_option linter.unusedVariables false

set_option maxHeartbeats 1600000 in
set_option maxRecDepth 100000 in
theorem readStep_mask (ao : Option Addr) (cap : Nat) (zs : List Int) (v : Nat × Nat) (w : World) (hrd : RdI w .u8 ao cap zs) (hn : zs.length = 43) (hb : ∀ z ∈ zs, 0 ≤ z ∧ z < 256) (hv : val1 (zs.drop 27) = some (v, [])) (h5 : 65535 < at3 zs 5) :
    Calls Tryz.prog 17 #[.slice ao 43 cap] w fun x w' => x = .returned (.tuple #[sgZ, .bool false]) ∧ Below w.heap.size w w' := by
  have hst := fun (ad : Addr) (re im : Nat) (W : World) => run_store Tryz.prog W ad (.complex .f64 re im) .plain rfl
  obtain ⟨n0, n1, n2, n3, n4, n5, n6, n7, n8, he, e5⟩ : ∃ n0 n1 n2 n3 n4 n5 n6 n7 n8, getN zs 9 = [n0, n1, n2, n3, n4, n5, n6, n7, n8] ∧ at3 zs 5 = n5 := ⟨_, _, _, _, _, _, _, _, _, get9 zs, rfl⟩
  rw [e5] at h5
  have hB0 : Below w.heap.size w (w.alloc (sgO sg0)) := below_box _ _
  have h0 := hrd.alloc (sgO sg0)
  have hs := SgAt.new w sg0
  have hG := get_nine ao cap 43 16 zs n0 n1 n2 n3 n4 n5 n6 n7 n8 _ h0 hn hb (by omega) rfl (by omega) he
  have hD : ∀ z ∈ zs.drop 27, 0 ≤ z ∧ z < 256 := fun z hz => hb z (List.mem_of_mem_drop hz)
  have hDl : (zs.drop 27).length = 16 := by simp; omega
  have HD : Hid ((∀ z ∈ zs.drop 27, 0 ≤ z ∧ z < 256) ∧ (zs.drop 27).length = 16 ∧ val1 (zs.drop 27) = some (v, [])) := ⟨hD, hDl, hv⟩
  clear hD hDl hb hrd h0 he hv e5
  go_enter Tryz.func17, Tryz.ntmps17
  go_upto_region 1 with fail
  generalize w.alloc (sgO sg0) = W0 at *
  have HS : Hid (SgAt W0 w.heap.size sg0) := hs
  have HB0 : Hid (Below w.heap.size w W0) := hB0
  clear hs hB0
  go_upto_region 2 with (first
    | (go_at_call 16; refine hG.mono ?_; rintro x w1 ⟨b1, f1, c1, a2, c2, rfl, hlt1, hge1, hc9, ⟨p0, p1, p2, p3, p4, p5, p6, p7, p8⟩, ho2, hb1⟩))
  have HO : Hid (OwnI w1 W0.heap.size 5 .u8 a2 c2 (zs.drop 27)) := ho2
  have HB1 : Hid (Below W0.heap.size W0 w1) := hb1
  clear ho2 hb1 hG
  go_upto_region 3 with (first
    | (go_at_call 38; refine (take_some _ _ _ 0 (zs.drop 27) [] v _ HO.out.rd HD.out.2.1 HD.out.1 (by omega) HD.out.2.2 rfl).mono ?_; rintro x w2 ⟨a3, c3, rfl, ho3, hb2⟩))
  have hs2 := (HS.out.below HB1.out).below hb2
  obtain ⟨z0, z1, z2, z3, z4, z5, z6, z7, z8, z9⟩ := hs2.cells
  have hB2 : Below w.heap.size w w2 := (HB0.out.trans (HB1.out.mono HB0.out.size)).trans (hb2.mono (by have := HB0.out.size; have := HB1.out.size; omega))
  have hfz := hs2.fz
  have q5 := (hb2.cell (p := ⟨b1, f1 + 5, none⟩) hlt1).trans p5
  simp only at z0 z1 z2 z3 z4 z5 z6 z7 z8 z9
  have HB2 : Hid (Below w.heap.size w w2) := hB2
  clear hs2 hB2 hb2 p0 p1 p2 p3 p4 p5 p6 p7 p8 ho3
  go_wp2
  refine bodyPost_ret (by simp [results, Tryz.results17, go_sem, z0, z1, z2, z3, z4, z5, z6, z7, z8, z9]; try rfl) rfl ?_
  exact ⟨rfl, by have h := HB2.out; go_grown⟩

end Go.Proofs.YtemldmjpanmdbaaGreatDoor

namespace Go.Proofs.YtemldmjpanmdbaaGreatDoor
open Go.RowKit
set_option linter.unusedVariables false

set_option maxHeartbeats 4000000 in
set_option maxRecDepth 100000 in
theorem readStep_some (ao : Option Addr) (cap : Nat) (zs : List Int) (n0 n1 n2 n3 n4 n5 n6 n7 n8 : Int) (x y : Nat) (w : World) (hrd : RdI w .u8 ao cap zs) (hn : zs.length = 43) (hb : ∀ z ∈ zs, 0 ≤ z ∧ z < 256) (hv : val1 (zs.drop 27) = some ((x, y), []))
    (he : getN zs 9 = [n0, n1, n2, n3, n4, n5, n6, n7, n8]) (h3 : 0 ≤ n3 ∧ n3 ≤ 16777215) (h4 : 0 ≤ n4 ∧ n4 ≤ 16777215) (h5 : 0 ≤ n5 ∧ n5 ≤ 65535) :
    Calls Tryz.prog 17 #[.slice ao 43 cap] w fun e w' => e = .returned (.tuple #[sgV ⟨n0, n1, n2, n3 - 1, n4 - 1, n5, n6, n7, n8, (x, y)⟩, .bool true]) ∧ Below w.heap.size w w' := by
  have hst := fun (ad : Addr) (re im : Nat) (W : World) => run_store Tryz.prog W ad (.complex .f64 re im) .plain rfl
  obtain ⟨h3a, h3b⟩ := h3
  obtain ⟨h4a, h4b⟩ := h4
  obtain ⟨h5a, h5b⟩ := h5
  have hw5 : IntKind.u16.wrap n5 = n5 := by rw [IntKind.wrap_u16]; omega
  have hw3 : IntKind.i64.wrap (n3 - 1) = n3 - 1 := by rw [IntKind.wrap_i64]; omega
  have hw4 : IntKind.i64.wrap (n4 - 1) = n4 - 1 := by rw [IntKind.wrap_i64]; omega
  have hB0 : Below w.heap.size w (w.alloc (sgO sg0)) := below_box _ _
  have h0 := hrd.alloc (sgO sg0)
  have hs := SgAt.new w sg0
  have hG := get_nine ao cap 43 16 zs n0 n1 n2 n3 n4 n5 n6 n7 n8 _ h0 hn hb (by omega) rfl (by omega) he
  have hD : ∀ z ∈ zs.drop 27, 0 ≤ z ∧ z < 256 := fun z hz => hb z (List.mem_of_mem_drop hz)
  have hDl : (zs.drop 27).length = 16 := by simp; omega
  have HD : Hid ((∀ z ∈ zs.drop 27, 0 ≤ z ∧ z < 256) ∧ (zs.drop 27).length = 16 ∧ val1 (zs.drop 27) = some ((x, y), [])) := ⟨hD, hDl, hv⟩
  clear hD hDl hb hrd h0 he hv
  go_enter Tryz.func17, Tryz.ntmps17
  go_upto_region 1 with fail
  generalize w.alloc (sgO sg0) = W0 at *
  have HS : Hid (SgAt W0 w.heap.size sg0) := hs
  have HB0 : Hid (Below w.heap.size w W0) := hB0
  clear hs hB0
  go_upto_region 2 with (first
    | (go_at_call 16; refine hG.mono ?_; rintro e w1 ⟨b1, f1, c1, a2, c2, rfl, hlt1, hge1, hc9, ⟨p0, p1, p2, p3, p4, p5, p6, p7, p8⟩, ho2, hb1⟩))
  have HO : Hid (OwnI w1 W0.heap.size 5 .u8 a2 c2 (zs.drop 27)) := ho2
  have HB1 : Hid (Below W0.heap.size W0 w1) := hb1
  clear ho2 hb1 hG
  go_upto_region 3 with (first
    | (go_at_call 38; refine (take_some _ _ _ 0 (zs.drop 27) [] (x, y) _ HO.out.rd HD.out.2.1 HD.out.1 (by omega) HD.out.2.2 rfl).mono ?_; rintro e w2 ⟨a3, c3, rfl, ho3, hb2⟩))
  have hs2 := (HS.out.below HB1.out).below hb2
  have hB2 : Below w.heap.size w w2 := (HB0.out.trans (HB1.out.mono HB0.out.size)).trans (hb2.mono (by have := HB0.out.size; have := HB1.out.size; omega))
  have q0 := (hb2.cell (p := ⟨b1, f1, none⟩) hlt1).trans p0
  have q1 := (hb2.cell (p := ⟨b1, f1 + 1, none⟩) hlt1).trans p1
  have q2 := (hb2.cell (p := ⟨b1, f1 + 2, none⟩) hlt1).trans p2
  have q3 := (hb2.cell (p := ⟨b1, f1 + 3, none⟩) hlt1).trans p3
  have q4 := (hb2.cell (p := ⟨b1, f1 + 4, none⟩) hlt1).trans p4
  have q5 := (hb2.cell (p := ⟨b1, f1 + 5, none⟩) hlt1).trans p5
  have q6 := (hb2.cell (p := ⟨b1, f1 + 6, none⟩) hlt1).trans p6
  have q7 := (hb2.cell (p := ⟨b1, f1 + 7, none⟩) hlt1).trans p7
  have q8 := (hb2.cell (p := ⟨b1, f1 + 8, none⟩) hlt1).trans p8
  have hlt2 : b1 < w2.heap.size := Nat.lt_of_lt_of_le hlt1 hb2.size
  have HS2 : Hid (SgAt w2 w.heap.size sg0) := hs2
  have HB2 : Hid (Below w.heap.size w w2) := hB2
  have HGE : Hid (W0.heap.size ≤ b1) := hge1
  clear hs2 hB2 hb2 p0 p1 p2 p3 p4 p5 p6 p7 p8 ho3
  go_upto_region 5 with fail
  go_region
  go_upto_region 6 with fail
  have hb3 : Below w2.heap.size w2 (w2.alloc (.cells #[.int .i64 n6, .int .i64 n7, .int .i64 n8, .complex .f64 x y] 48)).drew := ⟨rfl, rfl, rfl, by simp [World.drew], fun k hk => (below_box w2 _).block k hk⟩
  have hnew : (w2.alloc (.cells #[.int .i64 n6, .int .i64 n7, .int .i64 n8, .complex .f64 x y] 48)).drew.heap[w2.heap.size]? = some (.cells #[.int .i64 n6, .int .i64 n7, .int .i64 n8, .complex .f64 x y] 48) := heap_alloc_new w2 _
  generalize (w2.alloc (.cells #[.int .i64 n6, .int .i64 n7, .int .i64 n8, .complex .f64 x y] 48)).drew = W at *
  have r0 := (hb3.cell (p := ⟨b1, f1, none⟩) hlt2).trans q0
  have r1 := (hb3.cell (p := ⟨b1, f1 + 1, none⟩) hlt2).trans q1
  have r2 := (hb3.cell (p := ⟨b1, f1 + 2, none⟩) hlt2).trans q2
  have r3 := (hb3.cell (p := ⟨b1, f1 + 3, none⟩) hlt2).trans q3
  have r4 := (hb3.cell (p := ⟨b1, f1 + 4, none⟩) hlt2).trans q4
  have r5 := (hb3.cell (p := ⟨b1, f1 + 5, none⟩) hlt2).trans q5
  have d0 : W.cell? ⟨w2.heap.size, 0, none⟩ = some (.int .i64 n6) := by rw [cell_of_row _ _ _ _ _ _ hnew]; rfl
  have d1 : W.cell? ⟨w2.heap.size, 1, none⟩ = some (.int .i64 n7) := by rw [cell_of_row _ _ _ _ _ _ hnew]; rfl
  have d2 : W.cell? ⟨w2.heap.size, 2, none⟩ = some (.int .i64 n8) := by rw [cell_of_row _ _ _ _ _ _ hnew]; rfl
  have d3 : W.cell? ⟨w2.heap.size, 3, none⟩ = some (.complex .f64 x y) := by rw [cell_of_row _ _ _ _ _ _ hnew]; rfl
  have HS3 : Hid (SgAt W w.heap.size sg0) := HS2.out.below hb3
  have HB3 : Hid (Below w.heap.size w W) := HB2.out.trans (hb3.mono HB2.out.size)
  have HNE : Hid (w.heap.size ≠ b1 ∧ w.heap.size ≠ w2.heap.size) := by
    have h1 := HS.out.lt
    have h2 := HS2.out.lt
    have h4 := HGE.out
    exact ⟨by omega, by omega⟩
  clear hb3 hnew q0 q1 q2 q3 q4 q5 q6 q7 q8
  refine wp_region_held (S := fun U => ∀ k, k = b1 ∨ k = w2.heap.size → U.heap[k]? = W.heap[k]?) (by kernel_rfl) ?_
  have hS : ∀ k, k = b1 ∨ k = w2.heap.size → W.drew.heap[k]? = W.heap[k]? := fun _ _ => rfl
  refine held_val (i := 0) ?_ 43 rfl rfl (by kernel_rfl) (by kernel_rfl) (by kernel_rfl) (by rfl) (fun _ _ _ h => h) hS ?_ ?_
  rotate_left
  · (intro w hSw; go_simp; first | done | with_reducible rfl)
  simp only [Act.put, List.setIfInBounds_toArray, List.set_cons_zero, List.set_cons_succ]
  refine held_val (i := 1) ?_ 44 rfl rfl (by kernel_rfl) (by kernel_rfl) (by kernel_rfl) (by rfl) (fun _ _ _ h => h) hS ?_ ?_
  rotate_left
  · (intro w hSw; go_simp; first | done | with_reducible rfl)
  simp only [Act.put, List.setIfInBounds_toArray, List.set_cons_zero, List.set_cons_succ]
  refine held_val (i := 2) ?_ 45 rfl rfl (by kernel_rfl) (by kernel_rfl) (by kernel_rfl) (by rfl) (fun _ _ _ h => h) hS ?_ ?_
  rotate_left
  · (intro w hSw; have c0 := (World.cell?_of_block (w := W) (w' := w) (a := ⟨b1, f1, none⟩) (hSw b1 (.inl rfl))).trans r0; have c1 := (World.cell?_of_block (w := W) (w' := w) (a := ⟨b1, f1 + 1, none⟩) (hSw b1 (.inl rfl))).trans r1; have c2 := (World.cell?_of_block (w := W) (w' := w) (a := ⟨b1, f1 + 2, none⟩) (hSw b1 (.inl rfl))).trans r2; have c3 := (World.cell?_of_block (w := W) (w' := w) (a := ⟨b1, f1 + 3, none⟩) (hSw b1 (.inl rfl))).trans r3; have c4 := (World.cell?_of_block (w := W) (w' := w) (a := ⟨b1, f1 + 4, none⟩) (hSw b1 (.inl rfl))).trans r4; have c5 := (World.cell?_of_block (w := W) (w' := w) (a := ⟨b1, f1 + 5, none⟩) (hSw b1 (.inl rfl))).trans r5; go_simp; first | done | with_reducible rfl)
  simp only [Act.put, List.setIfInBounds_toArray, List.set_cons_zero, List.set_cons_succ]
  refine held_val (i := 3) ?_ 46 rfl rfl (by kernel_rfl) (by kernel_rfl) (by kernel_rfl) (by rfl) (fun _ _ _ h => h) hS ?_ ?_
  rotate_left
  · (intro w hSw; go_simp; first | done | with_reducible rfl)
  simp only [Act.put, List.setIfInBounds_toArray, List.set_cons_zero, List.set_cons_succ]
  refine held_val (i := 4) ?_ 47 rfl rfl (by kernel_rfl) (by kernel_rfl) (by kernel_rfl) (by rfl) (fun _ _ _ h => h) hS ?_ ?_
  rotate_left
  · (intro w hSw; go_simp; first | done | with_reducible rfl)
  simp only [Act.put, List.setIfInBounds_toArray, List.set_cons_zero, List.set_cons_succ]
  refine held_val (i := 5) ?_ 48 rfl rfl (by kernel_rfl) (by kernel_rfl) (by kernel_rfl) (by rfl) (fun _ _ _ h => h) hS ?_ ?_
  rotate_left
  · (intro w hSw; have c0 := (World.cell?_of_block (w := W) (w' := w) (a := ⟨b1, f1, none⟩) (hSw b1 (.inl rfl))).trans r0; have c1 := (World.cell?_of_block (w := W) (w' := w) (a := ⟨b1, f1 + 1, none⟩) (hSw b1 (.inl rfl))).trans r1; have c2 := (World.cell?_of_block (w := W) (w' := w) (a := ⟨b1, f1 + 2, none⟩) (hSw b1 (.inl rfl))).trans r2; have c3 := (World.cell?_of_block (w := W) (w' := w) (a := ⟨b1, f1 + 3, none⟩) (hSw b1 (.inl rfl))).trans r3; have c4 := (World.cell?_of_block (w := W) (w' := w) (a := ⟨b1, f1 + 4, none⟩) (hSw b1 (.inl rfl))).trans r4; have c5 := (World.cell?_of_block (w := W) (w' := w) (a := ⟨b1, f1 + 5, none⟩) (hSw b1 (.inl rfl))).trans r5; go_simp; first | done | with_reducible rfl)
  simp only [Act.put, List.setIfInBounds_toArray, List.set_cons_zero, List.set_cons_succ]
  refine held_val (i := 6) ?_ 49 rfl rfl (by kernel_rfl) (by kernel_rfl) (by kernel_rfl) (by rfl) (fun _ _ _ h => h) hS ?_ ?_
  rotate_left
  · (intro w hSw; go_simp; first | done | with_reducible rfl)
  simp only [Act.put, List.setIfInBounds_toArray, List.set_cons_zero, List.set_cons_succ]
  refine held_val (i := 7) ?_ 50 rfl rfl (by kernel_rfl) (by kernel_rfl) (by kernel_rfl) (by rfl) (fun _ _ _ h => h) hS ?_ ?_
  rotate_left
  · (intro w hSw; go_simp; first | done | with_reducible rfl)
  simp only [Act.put, List.setIfInBounds_toArray, List.set_cons_zero, List.set_cons_succ]
  refine held_val (i := 8) ?_ 51 rfl rfl (by kernel_rfl) (by kernel_rfl) (by kernel_rfl) (by rfl) (fun _ _ _ h => h) hS ?_ ?_
  rotate_left
  · (intro w hSw; have c0 := (World.cell?_of_block (w := W) (w' := w) (a := ⟨b1, f1, none⟩) (hSw b1 (.inl rfl))).trans r0; have c1 := (World.cell?_of_block (w := W) (w' := w) (a := ⟨b1, f1 + 1, none⟩) (hSw b1 (.inl rfl))).trans r1; have c2 := (World.cell?_of_block (w := W) (w' := w) (a := ⟨b1, f1 + 2, none⟩) (hSw b1 (.inl rfl))).trans r2; have c3 := (World.cell?_of_block (w := W) (w' := w) (a := ⟨b1, f1 + 3, none⟩) (hSw b1 (.inl rfl))).trans r3; have c4 := (World.cell?_of_block (w := W) (w' := w) (a := ⟨b1, f1 + 4, none⟩) (hSw b1 (.inl rfl))).trans r4; have c5 := (World.cell?_of_block (w := W) (w' := w) (a := ⟨b1, f1 + 5, none⟩) (hSw b1 (.inl rfl))).trans r5; go_simp; first | done | with_reducible rfl)
  simp only [Act.put, List.setIfInBounds_toArray, List.set_cons_zero, List.set_cons_succ]
  refine held_val (i := 9) ?_ 52 rfl rfl (by kernel_rfl) (by kernel_rfl) (by kernel_rfl) (by rfl) (fun _ _ _ h => h) hS ?_ ?_
  rotate_left
  · (intro w hSw; go_simp; first | done | with_reducible rfl)
  simp only [Act.put, List.setIfInBounds_toArray, List.set_cons_zero, List.set_cons_succ]
  refine held_val (i := 10) ?_ 53 rfl rfl (by kernel_rfl) (by kernel_rfl) (by kernel_rfl) (by rfl) (fun _ _ _ h => h) hS ?_ ?_
  rotate_left
  · (intro w hSw; go_simp; first | done | with_reducible rfl)
  simp only [Act.put, List.setIfInBounds_toArray, List.set_cons_zero, List.set_cons_succ]
  refine held_val (i := 11) ?_ 54 rfl rfl (by kernel_rfl) (by kernel_rfl) (by kernel_rfl) (by rfl) (fun _ _ _ h => h) hS ?_ ?_
  rotate_left
  · (intro w hSw; have c0 := (World.cell?_of_block (w := W) (w' := w) (a := ⟨b1, f1, none⟩) (hSw b1 (.inl rfl))).trans r0; have c1 := (World.cell?_of_block (w := W) (w' := w) (a := ⟨b1, f1 + 1, none⟩) (hSw b1 (.inl rfl))).trans r1; have c2 := (World.cell?_of_block (w := W) (w' := w) (a := ⟨b1, f1 + 2, none⟩) (hSw b1 (.inl rfl))).trans r2; have c3 := (World.cell?_of_block (w := W) (w' := w) (a := ⟨b1, f1 + 3, none⟩) (hSw b1 (.inl rfl))).trans r3; have c4 := (World.cell?_of_block (w := W) (w' := w) (a := ⟨b1, f1 + 4, none⟩) (hSw b1 (.inl rfl))).trans r4; have c5 := (World.cell?_of_block (w := W) (w' := w) (a := ⟨b1, f1 + 5, none⟩) (hSw b1 (.inl rfl))).trans r5; go_simp; first | done | with_reducible rfl)
  simp only [Act.put, List.setIfInBounds_toArray, List.set_cons_zero, List.set_cons_succ]
  refine held_val (i := 12) (.int .i64 (n3 - 1)) 55 rfl rfl (by kernel_rfl) (by kernel_rfl) (by kernel_rfl) (by rfl) (fun _ _ _ h => h) hS ?_ ?_
  · (intro w hSw; go_simp; first | done | with_reducible rfl | simp [hw3, hw4])
  simp only [Act.put, List.setIfInBounds_toArray, List.set_cons_zero, List.set_cons_succ]
  refine held_val (i := 13) ?_ 56 rfl rfl (by kernel_rfl) (by kernel_rfl) (by kernel_rfl) (by rfl) (fun _ _ _ h => h) hS ?_ ?_
  rotate_left
  · (intro w hSw; go_simp; first | done | with_reducible rfl)
  simp only [Act.put, List.setIfInBounds_toArray, List.set_cons_zero, List.set_cons_succ]
  refine held_val (i := 14) ?_ 57 rfl rfl (by kernel_rfl) (by kernel_rfl) (by kernel_rfl) (by rfl) (fun _ _ _ h => h) hS ?_ ?_
  rotate_left
  · (intro w hSw; go_simp; first | done | with_reducible rfl)
  simp only [Act.put, List.setIfInBounds_toArray, List.set_cons_zero, List.set_cons_succ]
  refine held_val (i := 15) ?_ 58 rfl rfl (by kernel_rfl) (by kernel_rfl) (by kernel_rfl) (by rfl) (fun _ _ _ h => h) hS ?_ ?_
  rotate_left
  · (intro w hSw; have c0 := (World.cell?_of_block (w := W) (w' := w) (a := ⟨b1, f1, none⟩) (hSw b1 (.inl rfl))).trans r0; have c1 := (World.cell?_of_block (w := W) (w' := w) (a := ⟨b1, f1 + 1, none⟩) (hSw b1 (.inl rfl))).trans r1; have c2 := (World.cell?_of_block (w := W) (w' := w) (a := ⟨b1, f1 + 2, none⟩) (hSw b1 (.inl rfl))).trans r2; have c3 := (World.cell?_of_block (w := W) (w' := w) (a := ⟨b1, f1 + 3, none⟩) (hSw b1 (.inl rfl))).trans r3; have c4 := (World.cell?_of_block (w := W) (w' := w) (a := ⟨b1, f1 + 4, none⟩) (hSw b1 (.inl rfl))).trans r4; have c5 := (World.cell?_of_block (w := W) (w' := w) (a := ⟨b1, f1 + 5, none⟩) (hSw b1 (.inl rfl))).trans r5; go_simp; first | done | with_reducible rfl)
  simp only [Act.put, List.setIfInBounds_toArray, List.set_cons_zero, List.set_cons_succ]
  refine held_val (i := 16) (.int .i64 (n4 - 1)) 59 rfl rfl (by kernel_rfl) (by kernel_rfl) (by kernel_rfl) (by rfl) (fun _ _ _ h => h) hS ?_ ?_
  · (intro w hSw; go_simp; first | done | with_reducible rfl | simp [hw3, hw4])
  simp only [Act.put, List.setIfInBounds_toArray, List.set_cons_zero, List.set_cons_succ]
  refine held_val (i := 17) ?_ 60 rfl rfl (by kernel_rfl) (by kernel_rfl) (by kernel_rfl) (by rfl) (fun _ _ _ h => h) hS ?_ ?_
  rotate_left
  · (intro w hSw; go_simp; first | done | with_reducible rfl)
  simp only [Act.put, List.setIfInBounds_toArray, List.set_cons_zero, List.set_cons_succ]
  refine held_val (i := 18) ?_ 61 rfl rfl (by kernel_rfl) (by kernel_rfl) (by kernel_rfl) (by rfl) (fun _ _ _ h => h) hS ?_ ?_
  rotate_left
  · (intro w hSw; go_simp; first | done | with_reducible rfl)
  simp only [Act.put, List.setIfInBounds_toArray, List.set_cons_zero, List.set_cons_succ]
  refine held_val (i := 19) ?_ 62 rfl rfl (by kernel_rfl) (by kernel_rfl) (by kernel_rfl) (by rfl) (fun _ _ _ h => h) hS ?_ ?_
  rotate_left
  · (intro w hSw; have c0 := (World.cell?_of_block (w := W) (w' := w) (a := ⟨b1, f1, none⟩) (hSw b1 (.inl rfl))).trans r0; have c1 := (World.cell?_of_block (w := W) (w' := w) (a := ⟨b1, f1 + 1, none⟩) (hSw b1 (.inl rfl))).trans r1; have c2 := (World.cell?_of_block (w := W) (w' := w) (a := ⟨b1, f1 + 2, none⟩) (hSw b1 (.inl rfl))).trans r2; have c3 := (World.cell?_of_block (w := W) (w' := w) (a := ⟨b1, f1 + 3, none⟩) (hSw b1 (.inl rfl))).trans r3; have c4 := (World.cell?_of_block (w := W) (w' := w) (a := ⟨b1, f1 + 4, none⟩) (hSw b1 (.inl rfl))).trans r4; have c5 := (World.cell?_of_block (w := W) (w' := w) (a := ⟨b1, f1 + 5, none⟩) (hSw b1 (.inl rfl))).trans r5; go_simp; first | done | with_reducible rfl)
  simp only [Act.put, List.setIfInBounds_toArray, List.set_cons_zero, List.set_cons_succ]
  refine held_val (i := 20) (.int .u16 n5) 63 rfl rfl (by kernel_rfl) (by kernel_rfl) (by kernel_rfl) (by rfl) (fun _ _ _ h => h) hS ?_ ?_
  · (intro w hSw; go_simp; first | done | with_reducible rfl | simp [hw5])
  simp only [Act.put, List.setIfInBounds_toArray, List.set_cons_zero, List.set_cons_succ]
  refine held_val (i := 21) (.agg #[.int .i64 n6, .int .i64 n7, .int .i64 n8, .complex .f64 x y]) 64 rfl rfl (by kernel_rfl) (by kernel_rfl) (by kernel_rfl) (by rfl) (fun _ _ _ h => h) hS ?_ ?_
  · (intro w hSw; have e0 := (World.cell?_of_block (w := W) (w' := w) (a := ⟨w2.heap.size, 0, none⟩) (hSw w2.heap.size (.inr rfl))).trans d0; have e1 := (World.cell?_of_block (w := W) (w' := w) (a := ⟨w2.heap.size, 1, none⟩) (hSw w2.heap.size (.inr rfl))).trans d1; have e2 := (World.cell?_of_block (w := W) (w' := w) (a := ⟨w2.heap.size, 2, none⟩) (hSw w2.heap.size (.inr rfl))).trans d2; have e3 := (World.cell?_of_block (w := W) (w' := w) (a := ⟨w2.heap.size, 3, none⟩) (hSw w2.heap.size (.inr rfl))).trans d3; go_simp; first | done | with_reducible rfl)
  simp only [Act.put, List.setIfInBounds_toArray, List.set_cons_zero, List.set_cons_succ]
  refine held_val (i := 22) ?_ 65 rfl rfl (by kernel_rfl) (by kernel_rfl) (by kernel_rfl) (by rfl) (fun _ _ _ h => h) hS ?_ ?_
  rotate_left
  · (intro w hSw; go_simp; first | done | with_reducible rfl)
  simp only [Act.put, List.setIfInBounds_toArray, List.set_cons_zero, List.set_cons_succ]
  have hS2 : ∀ k, k = b1 ∨ k = w2.heap.size → (W.drew.setRow w.heap.size #[.int .i64 n0, .int .i64 n1, .int .i64 n2, .int .i64 (n3 - 1), .int .i64 (n4 - 1), .int .u16 n5, .int .i64 n6, .int .i64 n7, .int .i64 n8, .complex .f64 x y]).heap[k]? = W.heap[k]? := by
    rintro k (rfl | rfl)
    · exact setRow_other W.drew _ _ _ (fun e => HNE.out.1 e.symm)
    · exact setRow_other W.drew _ _ _ (fun e => HNE.out.2 e.symm)
  have hZ : SgAt (W.drew.setRow w.heap.size #[.int .i64 n0, .int .i64 n1, .int .i64 n2, .int .i64 (n3 - 1), .int .i64 (n4 - 1), .int .u16 n5, .int .i64 n6, .int .i64 n7, .int .i64 n8, .complex .f64 x y]) w.heap.size ⟨n0, n1, n2, n3 - 1, n4 - 1, n5, n6, n7, n8, (x, y)⟩ := setRow_heap W.drew w.heap.size _ _ 50 _ HS3.out
  have hBZ : Below w.heap.size w (W.drew.setRow w.heap.size #[.int .i64 n0, .int .i64 n1, .int .i64 n2, .int .i64 (n3 - 1), .int .i64 (n4 - 1), .int .u16 n5, .int .i64 n6, .int .i64 n7, .int .i64 n8, .complex .f64 x y]) :=
    ⟨HB3.out.os, HB3.out.tape, HB3.out.output, by simpa using HB3.out.size, fun k hk => (setRow_other W.drew _ _ _ (by omega)).trans (HB3.out.block k hk)⟩
  refine held_last (i := 23) (W.drew.setRow w.heap.size #[.int .i64 n0, .int .i64 n1, .int .i64 n2, .int .i64 (n3 - 1), .int .i64 (n4 - 1), .int .u16 n5, .int .i64 n6, .int .i64 n7, .int .i64 n8, .complex .f64 x y]) rfl (by kernel_rfl) (by rfl) (Go.wp_store_row 50 _ _ rfl w.heap.size _ rfl rfl 50 _ HS3.out (by kernel_rfl) rfl (by simp [Value.oneCell']) ⟨rfl, rfl⟩) hS2 ?_
  refine held_val (i := 24) ?_ 3 rfl rfl (by kernel_rfl) (by kernel_rfl) (by kernel_rfl) (by rfl) (fun _ _ _ h => h) hS2 ?_ ?_
  rotate_left
  · (intro w hSw; go_simp; first | done | with_reducible rfl)
  simp only [Act.put, List.setIfInBounds_toArray, List.set_cons_zero, List.set_cons_succ]
  refine wpAnyH_done (by kernel_rfl) ?_ _
  have HZ : Hid (SgAt (W.drew.setRow w.heap.size #[.int .i64 n0, .int .i64 n1, .int .i64 n2, .int .i64 (n3 - 1), .int .i64 (n4 - 1), .int .u16 n5, .int .i64 n6, .int .i64 n7, .int .i64 n8, .complex .f64 x y]) w.heap.size ⟨n0, n1, n2, n3 - 1, n4 - 1, n5, n6, n7, n8, (x, y)⟩ ∧ Below w.heap.size w (W.drew.setRow w.heap.size #[.int .i64 n0, .int .i64 n1, .int .i64 n2, .int .i64 (n3 - 1), .int .i64 (n4 - 1), .int .u16 n5, .int .i64 n6, .int .i64 n7, .int .i64 n8, .complex .f64 x y])) := ⟨hZ, hBZ⟩
  clear hS hS2 hZ hBZ
  generalize W.drew.setRow w.heap.size #[.int .i64 n0, .int .i64 n1, .int .i64 n2, .int .i64 (n3 - 1), .int .i64 (n4 - 1), .int .u16 n5, .int .i64 n6, .int .i64 n7, .int .i64 n8, .complex .f64 x y] = Wz at *
  obtain ⟨z0, z1, z2, z3, z4, z5, z6, z7, z8, z9⟩ := HZ.out.1.cells
  simp only at z0 z1 z2 z3 z4 z5 z6 z7 z8 z9
  go_wp2
  refine bodyPost_ret (by simp [results, Tryz.results17, go_sem, z0, z1, z2, z3, z4, z5, z6, z7, z8, z9]; try rfl) rfl ?_
  exact ⟨rfl, HZ.out.2⟩
end Go.Proofs.YtemldmjpanmdbaaGreatDoor

namespace Go.Proofs.YtemldmjpanmdbaaGreatDoor
open Go.RowKit
set_option linter.unusedVariables false

theorem readStep_any (ao : Option Addr) (cap : Nat) (zs : List Int) (w : World) (hrd : RdI w .u8 ao cap zs) (hn : zs.length = 43) (hb : ∀ z ∈ zs, 0 ≤ z ∧ z < 256) :
    Calls Tryz.prog 17 #[.slice ao 43 cap] w fun x w' => x = .returned (stR zs) ∧ Below w.heap.size w w' := by
  cases hv : val1 (zs.drop 27) with
  | none =>
    have h : st2 zs = none := by unfold st2 st1; rw [hv]; simp
    unfold stR
    rw [h]
    exact readStep_none ao cap zs w hrd hn hb hv
  | some q =>
    obtain ⟨v, r⟩ := q
    have hr : r = [] := by
      have := (val1_drop hv).1
      rw [this, List.drop_drop]
      exact List.drop_of_length_le (by omega)
    subst hr
    by_cases h5 : at3 zs 5 ≤ 65535
    · have h : st2 zs = some (⟨at3 zs 0, at3 zs 1, at3 zs 2, at3 zs 3 - 1, at3 zs 4 - 1, at3 zs 5, at3 zs 6, at3 zs 7, at3 zs 8, v⟩, []) := by
        unfold st2 st1
        rw [if_pos h5, if_pos (by omega), hv]
        simp only
        have := (at3_bd zs 5 hb).1
        rw [Int.emod_eq_of_lt this (by omega)]
      unfold stR
      rw [h]
      exact readStep_some ao cap zs _ _ _ _ _ _ _ _ _ v.1 v.2 w hrd hn hb hv (get9 zs) (at3_bd zs 3 hb) (at3_bd zs 4 hb) ⟨(at3_bd zs 5 hb).1, h5⟩
    · have h : st2 zs = none := by unfold st2; rw [if_neg h5]
      unfold stR
      rw [h]
      exact readStep_mask ao cap zs v w hrd hn hb hv (by omega)

/-- What is behind the bytes of a step is looked at by nobody. -/
theorem at3_take (zs : List Int) (i m : Nat) (h : 3 * i + 3 ≤ m) : at3 (zs.take m) i = at3 zs i := by
  unfold at3
  rw [List.drop_take, List.take_take, Nat.min_eq_left (by omega)]
theorem val1_take {zs : List Int} (h : 16 ≤ zs.length) : val1 (zs.take 16) = (val1 zs).map fun q => (q.1, []) := by
  unfold val1
  have e1 : (zs.take 16).take 8 = zs.take 8 := by rw [List.take_take]; rfl
  have e2 : ((zs.take 16).drop 8).take 8 = (zs.drop 8).take 8 := by rw [List.drop_take, List.take_take]; rfl
  have e3 : 16 ≤ (zs.take 16).length := by simp; omega
  have e4 : (zs.take 16).drop 16 = [] := List.drop_of_length_le (by simp; omega)
  rw [e1, e2, e4]
  by_cases hc : formN (rdW (zs.take 8)) = rdW (zs.take 8) ∧ formN (rdW ((zs.drop 8).take 8)) = rdW ((zs.drop 8).take 8)
  · rw [if_pos ⟨e3, hc⟩, if_pos ⟨h, hc⟩]; rfl
  · rw [if_neg (fun hh => hc hh.2), if_neg (fun hh => hc hh.2)]; rfl
theorem st2_take {zs : List Int} (h : 43 ≤ zs.length) : st2 zs = (st2 (zs.take 43)).map fun q => (q.1, zs.drop 43) := by
  unfold st2 st1
  rw [at3_take zs 5 43 (by omega)]
  by_cases h5 : at3 zs 5 ≤ 65535
  · rw [if_pos h5, if_pos h5, if_pos (by omega), if_pos (by simp; omega)]
    have e : (zs.take 43).drop 27 = (zs.drop 27).take 16 := by rw [List.drop_take]
    rw [e, val1_take (by simp; omega)]
    cases hv : val1 (zs.drop 27) with
    | none => rfl
    | some q =>
      obtain ⟨v, r⟩ := q
      have := (val1_drop hv).1
      simp only [Option.map_some]
      rw [at3_take zs 0 43 (by omega), at3_take zs 1 43 (by omega), at3_take zs 2 43 (by omega), at3_take zs 3 43 (by omega), at3_take zs 4 43 (by omega), at3_take zs 6 43 (by omega), at3_take zs 7 43 (by omega), at3_take zs 8 43 (by omega)]
      rw [this, List.drop_drop]
  · rw [if_neg h5, if_neg h5]; rfl
end Go.Proofs.YtemldmjpanmdbaaGreatDoor
