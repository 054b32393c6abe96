/- The script of some bytes: the document's Read, walked. -/
import Derived.Test.YtemldmjpanmdbaaGreatDoorTA
namespace Go.Proofs.YtemldmjpanmdbaaGreatDoor
open Go.RowKit
set_option linter.unusedVariables false

set_option maxHeartbeats 4000000 in
set_option maxRecDepth 1000000 in
theorem refRead_any (ao : Option Addr) (cap n : Nat) (zs : List Int) (w : World) (hrd : RdI w .u8 ao cap zs) (hn : zs.length = n) (hb : ∀ z ∈ zs, 0 ≤ z ∧ z < 256) (hlen : n ≤ 140737488355328) :
    Calls Tryz.prog 8 #[.slice ao n cap] w fun x w' => ReadQ zs w x w' := by
  have hle := hrd.le
  have hB0 : Below w.heap.size w (w.alloc (scO sc0 none 0 0)) := below_box _ _
  have hs := ScAt.new w sc0 none 0 0
  have h0 := hrd.alloc (scO sc0 none 0 0)
  go_enter Tryz.func8, Tryz.ntmps8
  go_upto_region 1 with fail
  generalize w.alloc (scO sc0 none 0 0) = W0 at *
  have HS : Hid (ScAt W0 w.heap.size sc0 none 0 0) := hs
  have HB0 : Hid (Below w.heap.size w W0) := hB0
  have HR : Hid (RdI W0 .u8 ao cap zs) := h0
  have HBD : Hid (∀ z ∈ zs, 0 ≤ z ∧ z < 256) := hb
  clear hs hB0 hrd h0 hb
  by_cases h18 : n < 18
  · have HN : Hid (readD zs = none) := by unfold readD; rw [Hid, if_neg (by omega)]
    obtain ⟨z0, z1, z2, z3, z4, z5⟩ := HS.out.cells
    have hfz := HS.out.fz
    simp only at z0 z1 z2 z3 z4 z5
    go_wp2_with (first
      | (go_at_call 18; refine (refGet_bad _ _ _ _ _ (by omega) (by omega)).mono ?_; rintro x w1 ⟨rfl, hw⟩; subst w1))
    refine bodyPost_ret (by simp [results, Tryz.results8, go_sem, z0, z1, z2, z3, z4, z5]; try rfl) rfl ?_
    unfold ReadQ
    rw [HN.out]
    exact ⟨rfl, by have h := HB0.out; go_grown⟩
  · obtain ⟨n0, n1, n2, n3, n4, n5, he, e0, e1, e2, e3, e4, e5⟩ : ∃ n0 n1 n2 n3 n4 n5, getN zs 6 = [n0, n1, n2, n3, n4, n5] ∧ at3 zs 0 = n0 ∧ at3 zs 1 = n1 ∧ at3 zs 2 = n2 ∧ at3 zs 3 = n3 ∧ at3 zs 4 = n4 ∧ at3 zs 5 = n5 := ⟨_, _, _, _, _, _, get6 zs, rfl, rfl, rfl, rfl, rfl, rfl⟩
    have hG := refGet_six ao cap n (n - 18) zs n0 n1 n2 n3 n4 n5 W0 HR.out hn HBD.out (by omega) rfl hlen he
    have h5b := at3_bd zs 5 HBD.out
    rw [e5] at h5b
    obtain ⟨h5a, h5b⟩ := h5b
    obtain ⟨m, rfl⟩ := Int.eq_ofNat_of_zero_le h5a
    have HE : Hid (at3 zs 0 = n0 ∧ at3 zs 1 = n1 ∧ at3 zs 2 = n2 ∧ at3 zs 3 = n3 ∧ at3 zs 4 = n4 ∧ at3 zs 5 = (m : Int)) := ⟨e0, e1, e2, e3, e4, e5⟩
    clear he e0 e1 e2 e3 e4 e5
    go_upto_region 4 with (first
      | (go_at_call 18; refine hG.mono ?_; rintro x w1 ⟨b1, f1, c1, a2, c2, rfl, hlt1, hge1, hc6, ⟨p0, p1, p2, p3, p4, p5⟩, ho2, hb1⟩))
    have HB1 : Hid (Below W0.heap.size W0 w1) := hb1
    have HO2 : Hid (OwnI w1 W0.heap.size 5 .u8 a2 c2 (zs.drop 18)) := ho2
    have HB2 : Hid (Below w.heap.size w w1) := HB0.out.trans (HB1.out.mono HB0.out.size)
    have HS1 : Hid (ScAt w1 w.heap.size sc0 none 0 0) := HS.out.below HB1.out
    clear hG hb1 ho2
    refine wp_region_held (S := fun U => U.heap[b1]? = w1.heap[b1]?) (by kernel_rfl) ?_
    have hS : w1.drew.heap[b1]? = w1.heap[b1]? := rfl
    refine held_val (i := 0) ?_ 26 rfl rfl (by kernel_rfl) (by kernel_rfl) (by kernel_rfl) (by rfl) (fun _ _ _ h => h) hS ?_ ?_
    rotate_left
    · (intro w hSw; go_simp; first | done | with_reducible rfl)
    simp only [Act.put, List.setIfInBounds_toArray, List.set_cons_zero, List.set_cons_succ]
    refine held_val (i := 1) ?_ 27 rfl rfl (by kernel_rfl) (by kernel_rfl) (by kernel_rfl) (by rfl) (fun _ _ _ h => h) hS ?_ ?_
    rotate_left
    · (intro w hSw; go_simp; first | done | with_reducible rfl)
    simp only [Act.put, List.setIfInBounds_toArray, List.set_cons_zero, List.set_cons_succ]
    refine held_val (i := 2) ?_ 28 rfl rfl (by kernel_rfl) (by kernel_rfl) (by kernel_rfl) (by rfl) (fun _ _ _ h => h) hS ?_ ?_
    rotate_left
    · (intro w hSw; have c0 := (World.cell?_of_block (w := w1) (w' := w) (a := ⟨b1, f1, none⟩) hSw).trans p0; have c1 := (World.cell?_of_block (w := w1) (w' := w) (a := ⟨b1, f1 + 1, none⟩) hSw).trans p1; have c2 := (World.cell?_of_block (w := w1) (w' := w) (a := ⟨b1, f1 + 2, none⟩) hSw).trans p2; have c3 := (World.cell?_of_block (w := w1) (w' := w) (a := ⟨b1, f1 + 3, none⟩) hSw).trans p3; have c4 := (World.cell?_of_block (w := w1) (w' := w) (a := ⟨b1, f1 + 4, none⟩) hSw).trans p4; go_simp; first | done | with_reducible rfl)
    simp only [Act.put, List.setIfInBounds_toArray, List.set_cons_zero, List.set_cons_succ]
    refine held_val (i := 3) ?_ 29 rfl rfl (by kernel_rfl) (by kernel_rfl) (by kernel_rfl) (by rfl) (fun _ _ _ h => h) hS ?_ ?_
    rotate_left
    · (intro w hSw; go_simp; first | done | with_reducible rfl)
    simp only [Act.put, List.setIfInBounds_toArray, List.set_cons_zero, List.set_cons_succ]
    refine held_val (i := 4) ?_ 30 rfl rfl (by kernel_rfl) (by kernel_rfl) (by kernel_rfl) (by rfl) (fun _ _ _ h => h) hS ?_ ?_
    rotate_left
    · (intro w hSw; go_simp; first | done | with_reducible rfl)
    simp only [Act.put, List.setIfInBounds_toArray, List.set_cons_zero, List.set_cons_succ]
    refine held_val (i := 5) ?_ 31 rfl rfl (by kernel_rfl) (by kernel_rfl) (by kernel_rfl) (by rfl) (fun _ _ _ h => h) hS ?_ ?_
    rotate_left
    · (intro w hSw; have c0 := (World.cell?_of_block (w := w1) (w' := w) (a := ⟨b1, f1, none⟩) hSw).trans p0; have c1 := (World.cell?_of_block (w := w1) (w' := w) (a := ⟨b1, f1 + 1, none⟩) hSw).trans p1; have c2 := (World.cell?_of_block (w := w1) (w' := w) (a := ⟨b1, f1 + 2, none⟩) hSw).trans p2; have c3 := (World.cell?_of_block (w := w1) (w' := w) (a := ⟨b1, f1 + 3, none⟩) hSw).trans p3; have c4 := (World.cell?_of_block (w := w1) (w' := w) (a := ⟨b1, f1 + 4, none⟩) hSw).trans p4; go_simp; first | done | with_reducible rfl)
    simp only [Act.put, List.setIfInBounds_toArray, List.set_cons_zero, List.set_cons_succ]
    refine held_val (i := 6) ?_ 32 rfl rfl (by kernel_rfl) (by kernel_rfl) (by kernel_rfl) (by rfl) (fun _ _ _ h => h) hS ?_ ?_
    rotate_left
    · (intro w hSw; go_simp; first | done | with_reducible rfl)
    simp only [Act.put, List.setIfInBounds_toArray, List.set_cons_zero, List.set_cons_succ]
    refine held_val (i := 7) ?_ 33 rfl rfl (by kernel_rfl) (by kernel_rfl) (by kernel_rfl) (by rfl) (fun _ _ _ h => h) hS ?_ ?_
    rotate_left
    · (intro w hSw; go_simp; first | done | with_reducible rfl)
    simp only [Act.put, List.setIfInBounds_toArray, List.set_cons_zero, List.set_cons_succ]
    refine held_val (i := 8) ?_ 34 rfl rfl (by kernel_rfl) (by kernel_rfl) (by kernel_rfl) (by rfl) (fun _ _ _ h => h) hS ?_ ?_
    rotate_left
    · (intro w hSw; have c0 := (World.cell?_of_block (w := w1) (w' := w) (a := ⟨b1, f1, none⟩) hSw).trans p0; have c1 := (World.cell?_of_block (w := w1) (w' := w) (a := ⟨b1, f1 + 1, none⟩) hSw).trans p1; have c2 := (World.cell?_of_block (w := w1) (w' := w) (a := ⟨b1, f1 + 2, none⟩) hSw).trans p2; have c3 := (World.cell?_of_block (w := w1) (w' := w) (a := ⟨b1, f1 + 3, none⟩) hSw).trans p3; have c4 := (World.cell?_of_block (w := w1) (w' := w) (a := ⟨b1, f1 + 4, none⟩) hSw).trans p4; go_simp; first | done | with_reducible rfl)
    simp only [Act.put, List.setIfInBounds_toArray, List.set_cons_zero, List.set_cons_succ]
    refine held_val (i := 9) ?_ 35 rfl rfl (by kernel_rfl) (by kernel_rfl) (by kernel_rfl) (by rfl) (fun _ _ _ h => h) hS ?_ ?_
    rotate_left
    · (intro w hSw; go_simp; first | done | with_reducible rfl)
    simp only [Act.put, List.setIfInBounds_toArray, List.set_cons_zero, List.set_cons_succ]
    refine held_val (i := 10) ?_ 36 rfl rfl (by kernel_rfl) (by kernel_rfl) (by kernel_rfl) (by rfl) (fun _ _ _ h => h) hS ?_ ?_
    rotate_left
    · (intro w hSw; go_simp; first | done | with_reducible rfl)
    simp only [Act.put, List.setIfInBounds_toArray, List.set_cons_zero, List.set_cons_succ]
    refine held_val (i := 11) ?_ 37 rfl rfl (by kernel_rfl) (by kernel_rfl) (by kernel_rfl) (by rfl) (fun _ _ _ h => h) hS ?_ ?_
    rotate_left
    · (intro w hSw; have c0 := (World.cell?_of_block (w := w1) (w' := w) (a := ⟨b1, f1, none⟩) hSw).trans p0; have c1 := (World.cell?_of_block (w := w1) (w' := w) (a := ⟨b1, f1 + 1, none⟩) hSw).trans p1; have c2 := (World.cell?_of_block (w := w1) (w' := w) (a := ⟨b1, f1 + 2, none⟩) hSw).trans p2; have c3 := (World.cell?_of_block (w := w1) (w' := w) (a := ⟨b1, f1 + 3, none⟩) hSw).trans p3; have c4 := (World.cell?_of_block (w := w1) (w' := w) (a := ⟨b1, f1 + 4, none⟩) hSw).trans p4; go_simp; first | done | with_reducible rfl)
    simp only [Act.put, List.setIfInBounds_toArray, List.set_cons_zero, List.set_cons_succ]
    refine held_val (i := 12) ?_ 38 rfl rfl (by kernel_rfl) (by kernel_rfl) (by kernel_rfl) (by rfl) (fun _ _ _ h => h) hS ?_ ?_
    rotate_left
    · (intro w hSw; go_simp; first | done | with_reducible rfl)
    simp only [Act.put, List.setIfInBounds_toArray, List.set_cons_zero, List.set_cons_succ]
    refine held_val (i := 13) ?_ 39 rfl rfl (by kernel_rfl) (by kernel_rfl) (by kernel_rfl) (by rfl) (fun _ _ _ h => h) hS ?_ ?_
    rotate_left
    · (intro w hSw; go_simp; first | done | with_reducible rfl)
    simp only [Act.put, List.setIfInBounds_toArray, List.set_cons_zero, List.set_cons_succ]
    refine held_val (i := 14) ?_ 40 rfl rfl (by kernel_rfl) (by kernel_rfl) (by kernel_rfl) (by rfl) (fun _ _ _ h => h) hS ?_ ?_
    rotate_left
    · (intro w hSw; have c0 := (World.cell?_of_block (w := w1) (w' := w) (a := ⟨b1, f1, none⟩) hSw).trans p0; have c1 := (World.cell?_of_block (w := w1) (w' := w) (a := ⟨b1, f1 + 1, none⟩) hSw).trans p1; have c2 := (World.cell?_of_block (w := w1) (w' := w) (a := ⟨b1, f1 + 2, none⟩) hSw).trans p2; have c3 := (World.cell?_of_block (w := w1) (w' := w) (a := ⟨b1, f1 + 3, none⟩) hSw).trans p3; have c4 := (World.cell?_of_block (w := w1) (w' := w) (a := ⟨b1, f1 + 4, none⟩) hSw).trans p4; go_simp; first | done | with_reducible rfl)
    simp only [Act.put, List.setIfInBounds_toArray, List.set_cons_zero, List.set_cons_succ]
    refine held_val (i := 15) ?_ 41 rfl rfl (by kernel_rfl) (by kernel_rfl) (by kernel_rfl) (by rfl) (fun _ _ _ h => h) hS ?_ ?_
    rotate_left
    · (intro w hSw; go_simp; first | done | with_reducible rfl)
    simp only [Act.put, List.setIfInBounds_toArray, List.set_cons_zero, List.set_cons_succ]
    refine held_val (i := 16) ?_ 42 rfl rfl (by kernel_rfl) (by kernel_rfl) (by kernel_rfl) (by rfl) (fun _ _ _ h => h) hS ?_ ?_
    rotate_left
    · (intro w hSw; go_simp; first | done | with_reducible rfl)
    simp only [Act.put, List.setIfInBounds_toArray, List.set_cons_zero, List.set_cons_succ]
    have hS2 : (w1.drew.alloc (scO sc0 none 0 0)).heap[b1]? = w1.heap[b1]? := (below_box w1.drew (scO sc0 none 0 0)).block b1 hlt1
    refine held_run (i := 17) 7 (.pointer (some ⟨w1.drew.heap.size, 0, none⟩)) (w1.drew.alloc (scO sc0 none 0 0)) rfl rfl (by kernel_rfl) (by rfl) (by go_simp; first | done | with_reducible rfl) hS2 ?_
    simp only [Act.put, List.setIfInBounds_toArray, List.set_cons_zero, List.set_cons_succ]
    have hsd0 : w1.drew.heap.size = w1.heap.size := rfl
    have hne : b1 ≠ w1.drew.heap.size := by omega
    have hS3 : ((w1.drew.alloc (scO sc0 none 0 0)).setRow w1.drew.heap.size #[.int .i64 n0, .int .i64 n1, .int .i64 n2, .int .i64 n3, .int .i64 n4, .slice none 0 0]).heap[b1]? = w1.heap[b1]? := (setRow_other _ _ _ _ hne).trans hS2
    refine held_last (i := 18) ((w1.drew.alloc (scO sc0 none 0 0)).setRow w1.drew.heap.size #[.int .i64 n0, .int .i64 n1, .int .i64 n2, .int .i64 n3, .int .i64 n4, .slice none 0 0]) rfl (by kernel_rfl) (by rfl) (Go.wp_store_row 28 _ _ rfl w1.drew.heap.size _ rfl rfl 28 _ (heap_alloc_new w1.drew _) (by kernel_rfl) rfl (by simp [Value.oneCell']) ⟨rfl, rfl⟩) hS3 ?_
    refine wpAnyH_done (by kernel_rfl) ?_ _
    have HSC : Hid (ScAt ((w1.drew.alloc (scO sc0 none 0 0)).setRow w1.drew.heap.size #[.int .i64 n0, .int .i64 n1, .int .i64 n2, .int .i64 n3, .int .i64 n4, .slice none 0 0]) w1.heap.size ⟨n0, n1, n2, n3, n4, []⟩ none 0 0) := setRow_heap _ w1.drew.heap.size _ _ 28 _ (heap_alloc_new w1.drew (scO sc0 none 0 0))
    have HBW : Hid (Below w1.heap.size w1 ((w1.drew.alloc (scO sc0 none 0 0)).setRow w1.drew.heap.size #[.int .i64 n0, .int .i64 n1, .int .i64 n2, .int .i64 n3, .int .i64 n4, .slice none 0 0])) := by
      have h := below_box w1.drew (scO sc0 none 0 0)
      have e : w1.drew.heap.size = w1.heap.size := rfl
      exact ⟨h.os, h.tape, h.output, by simp, fun k hk => (setRow_other _ _ _ _ (by omega)).trans (h.block k hk)⟩
    clear hS hS2 hS3 hne hsd0
    generalize ((w1.drew.alloc (scO sc0 none 0 0)).setRow w1.drew.heap.size #[.int .i64 n0, .int .i64 n1, .int .i64 n2, .int .i64 n3, .int .i64 n4, .slice none 0 0]) = W2 at *
    have HGW : Hid (w.heap.size < w1.heap.size) := HS1.out.lt
    have hsd : w1.drew.heap.size = w1.heap.size := rfl
    generalize w1.drew.heap.size = g7' at *
    subst hsd
    generalize hg7 : w1.heap.size = g7 at *
    have HG7 : Hid (w1.heap.size = g7) := hg7
    have HP5 : Hid (w1.cell? ⟨b1, f1 + 5, none⟩ = some (.int .i64 (m : Int)) ∧ b1 < g7) := ⟨p5, hlt1⟩
    clear p0 p1 p2 p3 p4 p5
    go_upto_region 6 with fail
    go_loopw [5, 8] (fun l i wr => ∃ (k : Nat) (ss : List Sg) (r : List Int) (aL : Option Addr) (cL : Nat) (a7 : Option Addr) (c7 : Nat), l = .slice aL r.length cL ∧ i = .int .i64 k ∧ k ≤ m ∧ k ≤ 501 ∧ r.length ≤ n ∧ takeS st1 k (zs.drop 18) = some (ss, r) ∧ ss.length = k ∧ RdI wr .u8 aL cL r ∧
      (∀ a, aL = some a → a.block ≠ g7 ∧ ∀ b, a7 = some b → b.block ≠ a.block) ∧ ScAt wr g7 ⟨n0, n1, n2, n3, n4, ss⟩ a7 k c7 ∧ OwR stC 10 50 wr a7 c7 ss ∧ (∀ a, a7 = some a → g7 < a.block) ∧ Below g7 w1 wr) (fun _ i _ => 501 - (intOf i).toNat)
    case atStart =>
      refine ⟨0, [], zs.drop 18, a2, c2, none, 0, by rw [List.length_drop, hn], rfl, Nat.zero_le _, by omega, by rw [List.length_drop]; omega, rfl, rfl, HO2.out.rd.keepB HBW.out (fun a ha => by have := (HO2.out.blk a ha).2; omega), fun a ha => ⟨by have := (HO2.out.blk a ha).2; omega, fun b hb => by cases hb⟩, HSC.out, OwR.nil 50 W2, (fun a h => by cases h), HBW.out⟩
    case round =>
      have hst := fun (ad : Addr) (re im : Nat) (W : World) => run_store Tryz.prog W ad (.complex .f64 re im) .plain rfl
      obtain ⟨k, ss, r, aL, cL, a7, c7, rfl, rfl, hkm, hk5, hrn, htk, hsl, hrr, hap1, hsc, how, hap2, hbel⟩ := hrel
      have hrle := hrr.le
      have q5 := (hbel.cell (p := ⟨b1, f1 + 5, none⟩) HP5.out.2).trans HP5.out.1
      have HK : Hid (takeS st1 k (zs.drop 18) = some (ss, r) ∧ RdI wr .u8 aL cL r ∧ (∀ a, aL = some a → a.block ≠ g7 ∧ ∀ b, a7 = some b → b.block ≠ a.block) ∧ ScAt wr g7 ⟨n0, n1, n2, n3, n4, ss⟩ a7 k c7 ∧ OwR stC 10 50 wr a7 c7 ss ∧ (∀ a, a7 = some a → g7 < a.block) ∧ Below g7 w1 wr) := ⟨htk, hrr, hap1, hsc, how, hap2, hbel⟩
      have HZ : Hid (ScAt wr w.heap.size sc0 none 0 0 ∧ Below w.heap.size w wr) := ⟨HS1.out.below (hbel.mono (Nat.le_of_eq HG7.out)), HB2.out.trans (hbel.mono (by have := HB2.out.size; have := HG7.out; omega))⟩
      have hszr : g7 ≤ wr.heap.size := by have := hbel.size; have := HG7.out; omega
      clear htk hrr hap1 hsc how hap2 hbel
      by_cases hlt : k < m
      · by_cases h501 : k < 501
        · have hD : ∀ z ∈ zs.drop 18, 0 ≤ z ∧ z < 256 := fun z hz => HBD.out z (List.mem_of_mem_drop hz)
          have HRB : Hid ((∀ s ∈ ss, wordB s.v) ∧ (∀ s ∈ ss, 0 ≤ s.m ∧ s.m ≤ 65535) ∧ ∀ z ∈ r, 0 ≤ z ∧ z < 256) := takeS1_words k hD HK.out.1
          have HSTOP : Hid (st1 r = none → readD zs = none) := by
            intro h
            unfold readD
            rw [HE.out.2.2.2.2.2, show ((m : Int)).toNat = m from rfl, takeS1_stop (m := min m 501) HK.out.1 h (by omega)]
            split <;> rfl
          clear hD
          by_cases h27 : r.length < 27
          · have HN : Hid (readD zs = none) := HSTOP.out (st1_short h27)
            obtain ⟨z0, z1, z2, z3, z4, z5⟩ := HZ.out.1.cells
            have hfz := HZ.out.1.fz
            simp only at z0 z1 z2 z3 z4 z5
            go_wp2_with (first
              | (go_at_call 18; refine (refGet_bad _ _ _ _ _ (by omega) (by omega)).mono ?_; rintro x w2 ⟨rfl, hw⟩; subst w2))
            refine bodyPost_ret (by simp [results, Tryz.results8, go_sem, z0, z1, z2, z3, z4, z5]; try rfl) rfl ?_
            unfold ReadQ
            rw [HN.out]
            exact ⟨rfl, by have h := HZ.out.2; go_grown⟩
          · obtain ⟨g0, g1, g2, g3, g4, g5, g6, g7', g8, he9, hat⟩ : ∃ g0 g1 g2 g3 g4 g5 g6 g7' g8, getN r 9 = [g0, g1, g2, g3, g4, g5, g6, g7', g8] ∧ (at3 r 0 = g0 ∧ at3 r 1 = g1 ∧ at3 r 2 = g2 ∧ at3 r 3 = g3 ∧ at3 r 4 = g4 ∧ at3 r 5 = g5 ∧ at3 r 6 = g6 ∧ at3 r 7 = g7' ∧ at3 r 8 = g8) := ⟨_, _, _, _, _, _, _, _, _, get9 r, rfl, rfl, rfl, rfl, rfl, rfl, rfl, rfl, rfl⟩
            have hG9 := refGet_nine aL cL r.length (r.length - 27) r g0 g1 g2 g3 g4 g5 g6 g7' g8 wr HK.out.2.1 rfl HRB.out.2.2 (by omega) rfl (by omega) he9
            have hr3 := at3_bd r 3 HRB.out.2.2
            have hr4 := at3_bd r 4 HRB.out.2.2
            rw [hat.2.2.2.1] at hr3
            rw [hat.2.2.2.2.1] at hr4
            obtain ⟨hr3a, hr3b⟩ := hr3
            obtain ⟨hr4a, hr4b⟩ := hr4
            have HAT : Hid (at3 r 0 = g0 ∧ at3 r 1 = g1 ∧ at3 r 2 = g2 ∧ at3 r 3 = g3 ∧ at3 r 4 = g4 ∧ at3 r 5 = g5 ∧ at3 r 6 = g6 ∧ at3 r 7 = g7' ∧ at3 r 8 = g8) := hat
            have HD9 : Hid ((∀ z ∈ r.drop 27, 0 ≤ z ∧ z < 256) ∧ (r.drop 27).length = r.length - 27) := ⟨fun z hz => HRB.out.2.2 z (List.mem_of_mem_drop hz), by simp⟩
            clear he9 hat
            go_upto_region 11 with (first
              | (go_at_call 18; refine hG9.mono ?_; rintro x w2 ⟨b9, f9, c9, aA, cA, rfl, hlt9, hge9, hc99, ⟨p0, p1, p2, p3, p4, p5, p6, p7, p8⟩, hoA, hb2⟩))
            have HB2' : Hid (Below wr.heap.size wr w2) := hb2
            have HOA : Hid (OwnI w2 wr.heap.size 5 .u8 aA cA (r.drop 27)) := hoA
            clear hG9 hb2 hoA
            cases hv : val1 (r.drop 27) with
            | none =>
              have HN : Hid (readD zs = none) := HSTOP.out (st1_none hv)
              have HV : Hid (val1 (r.drop 27) = none) := hv
              clear hv
              go_upto_region 12 with (first
                | (go_at_call 19; refine (refTake_none _ _ _ (r.drop 27) _ HOA.out.rd HD9.out.2 HD9.out.1 (by omega) HV.out).mono ?_; rintro x w3 ⟨rfl, hb3⟩))
              have hb23 : Below wr.heap.size wr w3 := HB2'.out.trans (hb3.mono HB2'.out.size)
              have hz2 := HZ.out.1.below hb23
              obtain ⟨z0, z1, z2, z3, z4, z5⟩ := hz2.cells
              have hfz := hz2.fz
              have HB3 : Hid (Below w.heap.size w w3) := HZ.out.2.trans (hb23.mono HZ.out.2.size)
              simp only at z0 z1 z2 z3 z4 z5
              clear hz2 hb23 hb3 p0 p1 p2 p3 p4 p5 p6 p7 p8
              go_wp2
              refine bodyPost_ret (by simp [results, Tryz.results8, go_sem, z0, z1, z2, z3, z4, z5]; try rfl) rfl ?_
              unfold ReadQ
              rw [HN.out]
              exact ⟨rfl, by have h := HB3.out; go_grown⟩
            | some q =>
              obtain ⟨⟨vx, vy⟩, t⟩ := q
              have HV : Hid (val1 (r.drop 27) = some ((vx, vy), t)) := hv
              have htl : t.length ≤ r.length := by have := (val1_drop hv).1; rw [this]; simp
              clear hv
              go_upto_region 15 with (first
                | (go_at_call 19; refine (refTake_some _ _ _ t.length (r.drop 27) t (vx, vy) _ HOA.out.rd HD9.out.2 HD9.out.1 (by omega) HV.out rfl).mono ?_; rintro x w3 ⟨aB, cB, rfl, hoB, hb3⟩))
              have HB3 : Hid (Below wr.heap.size wr w3) := HB2'.out.trans (hb3.mono HB2'.out.size)
              have HOB : Hid (OwnI w3 w2.heap.size 5 .u8 aB cB t) := hoB
              have HO3 : Hid (OwR stC 10 50 w3 a7 c7 ss) := HK.out.2.2.2.2.1.below HB3.out
              have HC3 : Hid (ScAt w3 g7 ⟨n0, n1, n2, n3, n4, ss⟩ a7 k c7) := HK.out.2.2.2.1.below HB3.out
              have hlt3 : b9 < w3.heap.size := Nat.lt_of_lt_of_le hlt9 hb3.size
              have hne9 : b9 ≠ g7 := by have h1 := HK.out.2.2.2.1.lt; omega
              obtain ⟨y0, y1, y2, y3, y4, y5⟩ := HC3.out.cells
              have hF0 : ∀ U : World, U.heap[g7]? = w3.heap[g7]? → U.heap[b9]? = w3.heap[b9]? → (U.cell? ⟨g7, 5, none⟩ = some (.slice a7 k c7) ∧ U.frozen? ⟨g7, 5, none⟩ = false) ∧ U.cell? ⟨b9, f9, none⟩ = some (.int .i64 g0) ∧ U.cell? ⟨b9, f9 + 1, none⟩ = some (.int .i64 g1) ∧ U.cell? ⟨b9, f9 + 2, none⟩ = some (.int .i64 g2) ∧ U.cell? ⟨b9, f9 + 3, none⟩ = some (.int .i64 g3) ∧ U.cell? ⟨b9, f9 + 4, none⟩ = some (.int .i64 g4) ∧ U.cell? ⟨b9, f9 + 5, none⟩ = some (.int .i64 g5) ∧ U.cell? ⟨b9, f9 + 6, none⟩ = some (.int .i64 g6) ∧ U.cell? ⟨b9, f9 + 7, none⟩ = some (.int .i64 g7') ∧ U.cell? ⟨b9, f9 + 8, none⟩ = some (.int .i64 g8) := by
                intro U h1 h2
                have c := fun j => World.cell?_of_block (w := w3) (w' := U) (a := ⟨b9, j, none⟩) h2
                have d := fun j v (hj : w2.cell? ⟨b9, j, none⟩ = some v) => (c j).trans ((hb3.cell (p := ⟨b9, j, none⟩) hlt9).trans hj)
                exact ⟨⟨(World.cell?_of_block (w := w3) (w' := U) (a := ⟨g7, 5, none⟩) h1).trans y5, (World.frozen?_of_block (w := w3) h1).trans (HC3.out.fz 5)⟩, d _ _ p0, d _ _ p1, d _ _ p2, d _ _ p3, d _ _ p4, d _ _ p5, d _ _ p6, d _ _ p7, d _ _ p8⟩
              have HF0 : Hid _ := hF0
              clear p0 p1 p2 p3 p4 p5 p6 p7 p8 y0 y1 y2 y3 y4 y5 hb3 hoB
              refine wp_region_till (fun U => (U.cell? ⟨g7, 5, none⟩ = some (.slice a7 k c7) ∧ U.frozen? ⟨g7, 5, none⟩ = false) ∧ U.cell? ⟨b9, f9, none⟩ = some (.int .i64 g0) ∧ U.cell? ⟨b9, f9 + 1, none⟩ = some (.int .i64 g1) ∧ U.cell? ⟨b9, f9 + 2, none⟩ = some (.int .i64 g2) ∧ U.cell? ⟨b9, f9 + 3, none⟩ = some (.int .i64 g3) ∧ U.cell? ⟨b9, f9 + 4, none⟩ = some (.int .i64 g4) ∧ U.cell? ⟨b9, f9 + 5, none⟩ = some (.int .i64 g5) ∧ U.cell? ⟨b9, f9 + 6, none⟩ = some (.int .i64 g6) ∧ U.cell? ⟨b9, f9 + 7, none⟩ = some (.int .i64 g7') ∧ U.cell? ⟨b9, f9 + 8, none⟩ = some (.int .i64 g8)) 38 (by kernel_rfl) ?_
              have hF := hF0 w3.drew rfl rfl
              have hw3 : IntKind.i64.wrap (g3 - 1) = g3 - 1 := by rw [IntKind.wrap_i64]; omega
              have hw4 : IntKind.i64.wrap (g4 - 1) = g4 - 1 := by rw [IntKind.wrap_i64]; omega
              have hw5 : IntKind.u16.wrap g5 = g5 % 65536 := by rw [IntKind.wrap_u16]
              clear hF0
              refine Till.val (i := 0) ?_ 73 rfl rfl rfl (by kernel_rfl) (by decide) (by kernel_rfl) (by kernel_rfl) (by kernel_rfl) (by kernel_rfl) (by rfl) (fun _ _ _ h => h) hF ?_ ?_
              rotate_left
              · (intro w hSw; go_simp; first | done | with_reducible rfl)
              simp only [Act.put, List.setIfInBounds_toArray, List.set_cons_zero, List.set_cons_succ]
              refine Till.val (i := 1) ?_ 74 rfl rfl rfl (by kernel_rfl) (by decide) (by kernel_rfl) (by kernel_rfl) (by kernel_rfl) (by kernel_rfl) (by rfl) (fun _ _ _ h => h) hF ?_ ?_
              rotate_left
              · (intro w hSw; obtain ⟨⟨k0, k1⟩, k2, k3, k4, k5, k6, k7, k8, k9, kA⟩ := hSw; go_simp; first | done | with_reducible rfl)
              simp only [Act.put, List.setIfInBounds_toArray, List.set_cons_zero, List.set_cons_succ]
              refine Till.val (i := 2) ?_ 75 rfl rfl rfl (by kernel_rfl) (by decide) (by kernel_rfl) (by kernel_rfl) (by kernel_rfl) (by kernel_rfl) (by rfl) (fun _ _ _ h => h) hF ?_ ?_
              rotate_left
              · (intro w hSw; go_simp; first | done | with_reducible rfl)
              simp only [Act.put, List.setIfInBounds_toArray, List.set_cons_zero, List.set_cons_succ]
              refine Till.val (i := 3) ?_ 76 rfl rfl rfl (by kernel_rfl) (by decide) (by kernel_rfl) (by kernel_rfl) (by kernel_rfl) (by kernel_rfl) (by rfl) (fun _ _ _ h => h) hF ?_ ?_
              rotate_left
              · (intro w hSw; go_simp; first | done | with_reducible rfl)
              simp only [Act.put, List.setIfInBounds_toArray, List.set_cons_zero, List.set_cons_succ]
              refine Till.val (i := 4) ?_ 77 rfl rfl rfl (by kernel_rfl) (by decide) (by kernel_rfl) (by kernel_rfl) (by kernel_rfl) (by kernel_rfl) (by rfl) (fun _ _ _ h => h) hF ?_ ?_
              rotate_left
              · (intro w hSw; obtain ⟨⟨k0, k1⟩, k2, k3, k4, k5, k6, k7, k8, k9, kA⟩ := hSw; go_simp; first | done | with_reducible rfl)
              simp only [Act.put, List.setIfInBounds_toArray, List.set_cons_zero, List.set_cons_succ]
              refine Till.val (i := 5) ?_ 78 rfl rfl rfl (by kernel_rfl) (by decide) (by kernel_rfl) (by kernel_rfl) (by kernel_rfl) (by kernel_rfl) (by rfl) (fun _ _ _ h => h) hF ?_ ?_
              rotate_left
              · (intro w hSw; go_simp; first | done | with_reducible rfl)
              simp only [Act.put, List.setIfInBounds_toArray, List.set_cons_zero, List.set_cons_succ]
              refine Till.val (i := 6) ?_ 79 rfl rfl rfl (by kernel_rfl) (by decide) (by kernel_rfl) (by kernel_rfl) (by kernel_rfl) (by kernel_rfl) (by rfl) (fun _ _ _ h => h) hF ?_ ?_
              rotate_left
              · (intro w hSw; go_simp; first | done | with_reducible rfl)
              simp only [Act.put, List.setIfInBounds_toArray, List.set_cons_zero, List.set_cons_succ]
              refine Till.val (i := 7) ?_ 80 rfl rfl rfl (by kernel_rfl) (by decide) (by kernel_rfl) (by kernel_rfl) (by kernel_rfl) (by kernel_rfl) (by rfl) (fun _ _ _ h => h) hF ?_ ?_
              rotate_left
              · (intro w hSw; obtain ⟨⟨k0, k1⟩, k2, k3, k4, k5, k6, k7, k8, k9, kA⟩ := hSw; go_simp; first | done | with_reducible rfl)
              simp only [Act.put, List.setIfInBounds_toArray, List.set_cons_zero, List.set_cons_succ]
              refine Till.val (i := 8) ?_ 81 rfl rfl rfl (by kernel_rfl) (by decide) (by kernel_rfl) (by kernel_rfl) (by kernel_rfl) (by kernel_rfl) (by rfl) (fun _ _ _ h => h) hF ?_ ?_
              rotate_left
              · (intro w hSw; go_simp; first | done | with_reducible rfl)
              simp only [Act.put, List.setIfInBounds_toArray, List.set_cons_zero, List.set_cons_succ]
              refine Till.val (i := 9) ?_ 82 rfl rfl rfl (by kernel_rfl) (by decide) (by kernel_rfl) (by kernel_rfl) (by kernel_rfl) (by kernel_rfl) (by rfl) (fun _ _ _ h => h) hF ?_ ?_
              rotate_left
              · (intro w hSw; go_simp; first | done | with_reducible rfl)
              simp only [Act.put, List.setIfInBounds_toArray, List.set_cons_zero, List.set_cons_succ]
              refine Till.val (i := 10) ?_ 83 rfl rfl rfl (by kernel_rfl) (by decide) (by kernel_rfl) (by kernel_rfl) (by kernel_rfl) (by kernel_rfl) (by rfl) (fun _ _ _ h => h) hF ?_ ?_
              rotate_left
              · (intro w hSw; obtain ⟨⟨k0, k1⟩, k2, k3, k4, k5, k6, k7, k8, k9, kA⟩ := hSw; go_simp; first | done | with_reducible rfl)
              simp only [Act.put, List.setIfInBounds_toArray, List.set_cons_zero, List.set_cons_succ]
              refine Till.val (i := 11) ?_ 84 rfl rfl rfl (by kernel_rfl) (by decide) (by kernel_rfl) (by kernel_rfl) (by kernel_rfl) (by kernel_rfl) (by rfl) (fun _ _ _ h => h) hF ?_ ?_
              rotate_left
              · (intro w hSw; go_simp; first | done | with_reducible rfl)
              simp only [Act.put, List.setIfInBounds_toArray, List.set_cons_zero, List.set_cons_succ]
              refine Till.val (i := 12) ?_ 85 rfl rfl rfl (by kernel_rfl) (by decide) (by kernel_rfl) (by kernel_rfl) (by kernel_rfl) (by kernel_rfl) (by rfl) (fun _ _ _ h => h) hF ?_ ?_
              rotate_left
              · (intro w hSw; go_simp; first | done | with_reducible rfl)
              simp only [Act.put, List.setIfInBounds_toArray, List.set_cons_zero, List.set_cons_succ]
              refine Till.val (i := 13) ?_ 86 rfl rfl rfl (by kernel_rfl) (by decide) (by kernel_rfl) (by kernel_rfl) (by kernel_rfl) (by kernel_rfl) (by rfl) (fun _ _ _ h => h) hF ?_ ?_
              rotate_left
              · (intro w hSw; obtain ⟨⟨k0, k1⟩, k2, k3, k4, k5, k6, k7, k8, k9, kA⟩ := hSw; go_simp; first | done | with_reducible rfl)
              simp only [Act.put, List.setIfInBounds_toArray, List.set_cons_zero, List.set_cons_succ]
              refine Till.val (i := 14) (.int .i64 (g3 - 1)) 87 rfl rfl rfl (by kernel_rfl) (by decide) (by kernel_rfl) (by kernel_rfl) (by kernel_rfl) (by kernel_rfl) (by rfl) (fun _ _ _ h => h) hF ?_ ?_
              · (intro w hSw; go_simp; first | done | with_reducible rfl | simp [hw3, hw4])
              simp only [Act.put, List.setIfInBounds_toArray, List.set_cons_zero, List.set_cons_succ]
              refine Till.val (i := 15) ?_ 88 rfl rfl rfl (by kernel_rfl) (by decide) (by kernel_rfl) (by kernel_rfl) (by kernel_rfl) (by kernel_rfl) (by rfl) (fun _ _ _ h => h) hF ?_ ?_
              rotate_left
              · (intro w hSw; go_simp; first | done | with_reducible rfl)
              simp only [Act.put, List.setIfInBounds_toArray, List.set_cons_zero, List.set_cons_succ]
              refine Till.val (i := 16) ?_ 89 rfl rfl rfl (by kernel_rfl) (by decide) (by kernel_rfl) (by kernel_rfl) (by kernel_rfl) (by kernel_rfl) (by rfl) (fun _ _ _ h => h) hF ?_ ?_
              rotate_left
              · (intro w hSw; go_simp; first | done | with_reducible rfl)
              simp only [Act.put, List.setIfInBounds_toArray, List.set_cons_zero, List.set_cons_succ]
              refine Till.val (i := 17) ?_ 90 rfl rfl rfl (by kernel_rfl) (by decide) (by kernel_rfl) (by kernel_rfl) (by kernel_rfl) (by kernel_rfl) (by rfl) (fun _ _ _ h => h) hF ?_ ?_
              rotate_left
              · (intro w hSw; obtain ⟨⟨k0, k1⟩, k2, k3, k4, k5, k6, k7, k8, k9, kA⟩ := hSw; go_simp; first | done | with_reducible rfl)
              simp only [Act.put, List.setIfInBounds_toArray, List.set_cons_zero, List.set_cons_succ]
              refine Till.val (i := 18) (.int .i64 (g4 - 1)) 91 rfl rfl rfl (by kernel_rfl) (by decide) (by kernel_rfl) (by kernel_rfl) (by kernel_rfl) (by kernel_rfl) (by rfl) (fun _ _ _ h => h) hF ?_ ?_
              · (intro w hSw; go_simp; first | done | with_reducible rfl | simp [hw3, hw4])
              simp only [Act.put, List.setIfInBounds_toArray, List.set_cons_zero, List.set_cons_succ]
              refine Till.val (i := 19) ?_ 92 rfl rfl rfl (by kernel_rfl) (by decide) (by kernel_rfl) (by kernel_rfl) (by kernel_rfl) (by kernel_rfl) (by rfl) (fun _ _ _ h => h) hF ?_ ?_
              rotate_left
              · (intro w hSw; go_simp; first | done | with_reducible rfl)
              simp only [Act.put, List.setIfInBounds_toArray, List.set_cons_zero, List.set_cons_succ]
              refine Till.val (i := 20) ?_ 93 rfl rfl rfl (by kernel_rfl) (by decide) (by kernel_rfl) (by kernel_rfl) (by kernel_rfl) (by kernel_rfl) (by rfl) (fun _ _ _ h => h) hF ?_ ?_
              rotate_left
              · (intro w hSw; go_simp; first | done | with_reducible rfl)
              simp only [Act.put, List.setIfInBounds_toArray, List.set_cons_zero, List.set_cons_succ]
              refine Till.val (i := 21) ?_ 94 rfl rfl rfl (by kernel_rfl) (by decide) (by kernel_rfl) (by kernel_rfl) (by kernel_rfl) (by kernel_rfl) (by rfl) (fun _ _ _ h => h) hF ?_ ?_
              rotate_left
              · (intro w hSw; obtain ⟨⟨k0, k1⟩, k2, k3, k4, k5, k6, k7, k8, k9, kA⟩ := hSw; go_simp; first | done | with_reducible rfl)
              simp only [Act.put, List.setIfInBounds_toArray, List.set_cons_zero, List.set_cons_succ]
              refine Till.val (i := 22) (.int .u16 (g5 % 65536)) 95 rfl rfl rfl (by kernel_rfl) (by decide) (by kernel_rfl) (by kernel_rfl) (by kernel_rfl) (by kernel_rfl) (by rfl) (fun _ _ _ h => h) hF ?_ ?_
              · (intro w hSw; go_simp; first | done | with_reducible rfl | simp [hw5])
              simp only [Act.put, List.setIfInBounds_toArray, List.set_cons_zero, List.set_cons_succ]
              refine Till.val (i := 23) ?_ 96 rfl rfl rfl (by kernel_rfl) (by decide) (by kernel_rfl) (by kernel_rfl) (by kernel_rfl) (by kernel_rfl) (by rfl) (fun _ _ _ h => h) hF ?_ ?_
              rotate_left
              · (intro w hSw; go_simp; first | done | with_reducible rfl)
              simp only [Act.put, List.setIfInBounds_toArray, List.set_cons_zero, List.set_cons_succ]
              refine Till.val (i := 24) ?_ 97 rfl rfl rfl (by kernel_rfl) (by decide) (by kernel_rfl) (by kernel_rfl) (by kernel_rfl) (by kernel_rfl) (by rfl) (fun _ _ _ h => h) hF ?_ ?_
              rotate_left
              · (intro w hSw; go_simp; first | done | with_reducible rfl)
              simp only [Act.put, List.setIfInBounds_toArray, List.set_cons_zero, List.set_cons_succ]
              refine Till.val (i := 25) ?_ 98 rfl rfl rfl (by kernel_rfl) (by decide) (by kernel_rfl) (by kernel_rfl) (by kernel_rfl) (by kernel_rfl) (by rfl) (fun _ _ _ h => h) hF ?_ ?_
              rotate_left
              · (intro w hSw; obtain ⟨⟨k0, k1⟩, k2, k3, k4, k5, k6, k7, k8, k9, kA⟩ := hSw; go_simp; first | done | with_reducible rfl)
              simp only [Act.put, List.setIfInBounds_toArray, List.set_cons_zero, List.set_cons_succ]
              refine Till.val (i := 26) ?_ 99 rfl rfl rfl (by kernel_rfl) (by decide) (by kernel_rfl) (by kernel_rfl) (by kernel_rfl) (by kernel_rfl) (by rfl) (fun _ _ _ h => h) hF ?_ ?_
              rotate_left
              · (intro w hSw; go_simp; first | done | with_reducible rfl)
              simp only [Act.put, List.setIfInBounds_toArray, List.set_cons_zero, List.set_cons_succ]
              refine Till.val (i := 27) ?_ 100 rfl rfl rfl (by kernel_rfl) (by decide) (by kernel_rfl) (by kernel_rfl) (by kernel_rfl) (by kernel_rfl) (by rfl) (fun _ _ _ h => h) hF ?_ ?_
              rotate_left
              · (intro w hSw; go_simp; first | done | with_reducible rfl)
              simp only [Act.put, List.setIfInBounds_toArray, List.set_cons_zero, List.set_cons_succ]
              refine Till.val (i := 28) ?_ 101 rfl rfl rfl (by kernel_rfl) (by decide) (by kernel_rfl) (by kernel_rfl) (by kernel_rfl) (by kernel_rfl) (by rfl) (fun _ _ _ h => h) hF ?_ ?_
              rotate_left
              · (intro w hSw; obtain ⟨⟨k0, k1⟩, k2, k3, k4, k5, k6, k7, k8, k9, kA⟩ := hSw; go_simp; first | done | with_reducible rfl)
              simp only [Act.put, List.setIfInBounds_toArray, List.set_cons_zero, List.set_cons_succ]
              refine Till.val (i := 29) ?_ 102 rfl rfl rfl (by kernel_rfl) (by decide) (by kernel_rfl) (by kernel_rfl) (by kernel_rfl) (by kernel_rfl) (by rfl) (fun _ _ _ h => h) hF ?_ ?_
              rotate_left
              · (intro w hSw; go_simp; first | done | with_reducible rfl)
              simp only [Act.put, List.setIfInBounds_toArray, List.set_cons_zero, List.set_cons_succ]
              refine Till.val (i := 30) ?_ 103 rfl rfl rfl (by kernel_rfl) (by decide) (by kernel_rfl) (by kernel_rfl) (by kernel_rfl) (by kernel_rfl) (by rfl) (fun _ _ _ h => h) hF ?_ ?_
              rotate_left
              · (intro w hSw; go_simp; first | done | with_reducible rfl)
              simp only [Act.put, List.setIfInBounds_toArray, List.set_cons_zero, List.set_cons_succ]
              refine Till.val (i := 31) ?_ 104 rfl rfl rfl (by kernel_rfl) (by decide) (by kernel_rfl) (by kernel_rfl) (by kernel_rfl) (by kernel_rfl) (by rfl) (fun _ _ _ h => h) hF ?_ ?_
              rotate_left
              · (intro w hSw; obtain ⟨⟨k0, k1⟩, k2, k3, k4, k5, k6, k7, k8, k9, kA⟩ := hSw; go_simp; first | done | with_reducible rfl)
              simp only [Act.put, List.setIfInBounds_toArray, List.set_cons_zero, List.set_cons_succ]
              refine Till.val (i := 32) ?_ 105 rfl rfl rfl (by kernel_rfl) (by decide) (by kernel_rfl) (by kernel_rfl) (by kernel_rfl) (by kernel_rfl) (by rfl) (fun _ _ _ h => h) hF ?_ ?_
              rotate_left
              · (intro w hSw; go_simp; first | done | with_reducible rfl)
              simp only [Act.put, List.setIfInBounds_toArray, List.set_cons_zero, List.set_cons_succ]
              refine Till.val (i := 33) ?_ 106 rfl rfl rfl (by kernel_rfl) (by decide) (by kernel_rfl) (by kernel_rfl) (by kernel_rfl) (by kernel_rfl) (by rfl) (fun _ _ _ h => h) hF ?_ ?_
              rotate_left
              · (intro w hSw; go_simp; first | done | with_reducible rfl)
              simp only [Act.put, List.setIfInBounds_toArray, List.set_cons_zero, List.set_cons_succ]
              refine Till.val (i := 34) ?_ 107 rfl rfl rfl (by kernel_rfl) (by decide) (by kernel_rfl) (by kernel_rfl) (by kernel_rfl) (by kernel_rfl) (by rfl) (fun _ _ _ h => h) hF ?_ ?_
              rotate_left
              · (intro w hSw; go_simp; first | done | with_reducible rfl)
              simp only [Act.put, List.setIfInBounds_toArray, List.set_cons_zero, List.set_cons_succ]
              have hb4 : Below w3.heap.size w3 (w3.drew.alloc (sgO ⟨g0, g1, g2, g3 - 1, g4 - 1, g5 % 65536, g6, g7', g8, (vx, vy)⟩)) := ⟨rfl, rfl, rfl, (below_box w3.drew _).size, fun k hk => (below_box w3.drew _).block k hk⟩
              have hF4 := HF0.out (w3.drew.alloc (sgO ⟨g0, g1, g2, g3 - 1, g4 - 1, g5 % 65536, g6, g7', g8, (vx, vy)⟩)) (hb4.block g7 HC3.out.lt) (hb4.block b9 hlt3)
              refine Till.run (i := 35) 108 (.slice (some ⟨w3.drew.heap.size, 0, none⟩) 1 1) (w3.drew.alloc (sgO ⟨g0, g1, g2, g3 - 1, g4 - 1, g5 % 65536, g6, g7', g8, (vx, vy)⟩)) rfl rfl (by kernel_rfl) (by rfl) (by go_simp; first | done | with_reducible rfl) hF4 ?_
              simp only [Act.put, List.setIfInBounds_toArray, List.set_cons_zero, List.set_cons_succ]
              have HO4 : Hid (OwR stC 10 50 (w3.drew.alloc (sgO ⟨g0, g1, g2, g3 - 1, g4 - 1, g5 % 65536, g6, g7', g8, (vx, vy)⟩)) a7 c7 ss ∧ RdR stC (w3.drew.alloc (sgO ⟨g0, g1, g2, g3 - 1, g4 - 1, g5 % 65536, g6, g7', g8, (vx, vy)⟩)) (some ⟨w3.drew.heap.size, 0, none⟩) 1 [⟨g0, g1, g2, g3 - 1, g4 - 1, g5 % 65536, g6, g7', g8, (vx, vy)⟩] ∧ Below w3.heap.size w3 (w3.drew.alloc (sgO ⟨g0, g1, g2, g3 - 1, g4 - 1, g5 % 65536, g6, g7', g8, (vx, vy)⟩))) := ⟨HO3.out.below hb4, RdR.built stE w3.drew 50 _ [⟨g0, g1, g2, g3 - 1, g4 - 1, g5 % 65536, g6, g7', g8, (vx, vy)⟩] rfl 1 rfl (by unfold maxLen; omega), hb4⟩
              have hl4 : (w3.drew.alloc (sgO ⟨g0, g1, g2, g3 - 1, g4 - 1, g5 % 65536, g6, g7', g8, (vx, vy)⟩)).heap.size = w3.heap.size + 1 := by
                show (w3.drew.heap.push _).size = w3.heap.size + 1
                rw [Array.size_push]; rfl
              clear hb4 hF
              generalize w3.drew.alloc (sgO ⟨g0, g1, g2, g3 - 1, g4 - 1, g5 % 65536, g6, g7', g8, (vx, vy)⟩) = W4 at *
              refine till_append_R stE (i := 36) (n := k) (m := 1) (L := ss) (M := [⟨g0, g1, g2, g3 - 1, g4 - 1, g5 % 65536, g6, g7', g8, (vx, vy)⟩]) 109 (.tmp 74) (.tmp 108) 26 rfl rfl (by kernel_rfl) (by rfl) rfl 50 _ 88 Tryz.underlying26 info50 rfl rfl rfl HO4.out.1 HO4.out.2.1 hsl rfl (by omega) (by unfold maxLen; omega) ?_
              intro l2 c2' W5 ho5 hg5 hl5
              have hk5b : ∀ j, j < W4.heap.size → (∀ a, a7 = some a → a.block ≠ j) → W5.heap[j]? = W4.heap[j]? := by
                intro j hj hne
                refine hg5.block j hj ?_
                cases a7 with
                | none => simp
                | some a => have := hne a rfl; simp; omega
              have hg7l : g7 < w3.heap.size := HC3.out.lt
              have hc5 : W5.heap[g7]? = w3.heap[g7]? := (hk5b g7 (by omega) (fun a ha => by have := HK.out.2.2.2.2.2.1 a ha; omega)).trans (HO4.out.2.2.block g7 hg7l)
              have ha7 : ∀ a, a7 = some a → a.block < wr.heap.size := fun a ha => (HK.out.2.2.2.2.1.lt a ha).1
              have hc9 : W5.heap[b9]? = w3.heap[b9]? := (hk5b b9 (by omega) (fun a ha => by have := ha7 a ha; omega)).trans (HO4.out.2.2.block b9 hlt3)
              have hF5 := HF0.out W5 hc5 hc9
              refine ⟨hF5, ?_⟩
              simp only [Act.put, List.setIfInBounds_toArray, List.set_cons_zero, List.set_cons_succ]
              refine Till.val (i := 37) ?_ 110 rfl rfl rfl (by kernel_rfl) (by decide) (by kernel_rfl) (by kernel_rfl) (by kernel_rfl) (by kernel_rfl) (by rfl) (fun _ _ _ h => h) hF5 ?_ ?_
              rotate_left
              · (intro w hSw; go_simp; first | done | with_reducible rfl)
              simp only [Act.put, List.setIfInBounds_toArray, List.set_cons_zero, List.set_cons_succ]
              have HSC5 : Hid (ScAt W5 g7 ⟨n0, n1, n2, n3, n4, ss⟩ a7 k c7) := hc5.trans HC3.out
              have HX : Hid (OwR stC 10 50 W5 l2 c2' (ss ++ [⟨g0, g1, g2, g3 - 1, g4 - 1, g5 % 65536, g6, g7', g8, (vx, vy)⟩]) ∧ (l2 = a7 ∨ l2 = some ⟨W4.heap.size, 0, none⟩) ∧ W4.heap.size ≤ W5.heap.size ∧ (∀ j, j < W4.heap.size → (∀ a, a7 = some a → a.block ≠ j) → W5.heap[j]? = W4.heap[j]?) ∧ W4.grownBy W5 (a7.map (·.block))) := ⟨ho5, hl5, hg5.size, hk5b, hg5⟩
              clear ho5 hl5 hk5b hg5 hc5 hc9 hF4
              refine Till.last (z := 38) (W5.setCell ⟨g7, 5, none⟩ (.slice l2 (k + 1) c2')) rfl rfl (by kernel_rfl) (by decide) (by rfl) (wp_store_cell 26 _ _ rfl g7 5 (.slice l2 (k + 1) c2') rfl rfl ⟨_, hF5.1.1⟩ hF5.1.2 rfl rfl (by kernel_rfl) ⟨rfl, rfl⟩) ?_
              refine Till.done (by kernel_rfl) ?_ _
              clear hF5 hw3 hw4 hw5
              go_wp2
              go_roundw
              case rel =>
                have hl2 : ∀ a, l2 = some a → g7 < a.block ∧ (a.block < wr.heap.size ∨ a.block = w3.heap.size + 1) := by
                  intro a ha
                  rcases HX.out.2.1 with h | h
                  · exact ⟨HK.out.2.2.2.2.2.1 a (h ▸ ha), .inl (ha7 a (h ▸ ha))⟩
                  · rw [h] at ha
                    cases ha
                    exact ⟨by show g7 < W4.heap.size; omega, .inr hl4⟩
                have hs32 := HB2'.out.size
                have hs33 := HB3.out.size
                have hgr : g7 < wr.heap.size := HK.out.2.2.2.1.lt
                have hbb : ∀ a, aB = some a → w2.heap.size ≤ a.block ∧ a.block < w3.heap.size := fun a ha => HOB.out.blk a ha
                have hst : st1 r = some (⟨g0, g1, g2, g3 - 1, g4 - 1, g5 % 65536, g6, g7', g8, (vx, vy)⟩, t) := by
                  obtain ⟨e0, e1, e2, e3, e4, e5, e6, e7, e8⟩ := HAT.out
                  rw [st1_is (by omega) HV.out, e0, e1, e2, e3, e4, e5, e6, e7, e8]
                have hbel5 : Below g7 w1 W5 := ((HK.out.2.2.2.2.2.2.trans (HB3.out.mono hszr)).trans (HO4.out.2.2.mono (by omega))).trans (grown_below' HX.out.2.2.2.2 (fun a ha => by have := HK.out.2.2.2.2.2.1 a ha; omega) (by omega))
                refine ⟨k + 1, ss ++ [⟨g0, g1, g2, g3 - 1, g4 - 1, g5 % 65536, g6, g7', g8, (vx, vy)⟩], t, aB, cB, l2, c2', rfl, by go_num, by omega, by omega, by omega, takeS1_step HK.out.1 hst, by simp; omega, ?_, ?_, HSC5.out.put, ?_, fun a ha => (hl2 a ha).1, hbel5.setCell (Nat.le_refl _) _⟩
                · refine HOB.out.rd.keepH (by have := HX.out.2.2.1; simp [World.setCell]; omega) (fun a ha _ => ?_)
                  have h1 := hbb a ha
                  exact (heap_setCell_other _ _ _ _ (show a.block ≠ g7 by omega)).trans ((HX.out.2.2.2.1 a.block (by omega) (fun b hb => by have := ha7 b hb; omega)).trans (HO4.out.2.2.block a.block h1.2))
                · intro a ha
                  have h1 := hbb a ha
                  refine ⟨by omega, fun b hb => ?_⟩
                  have h2 := hl2 b hb
                  omega
                · exact HX.out.1.keep fun a ha _ => heap_setCell_other _ _ _ _ (by have := (hl2 a ha).1; show a.block ≠ g7; omega)
              case measure => simp [intOf]; omega
        · have hkk : min m 501 = k := by omega
          have hD : ∀ z ∈ zs.drop 18, 0 ≤ z ∧ z < 256 := fun z hz => HBD.out z (List.mem_of_mem_drop hz)
          have HRB : Hid ((∀ s ∈ ss, wordB s.v) ∧ (∀ s ∈ ss, 0 ≤ s.m ∧ s.m ≤ 65535) ∧ ∀ z ∈ r, 0 ≤ z ∧ z < 256) := takeS1_words k hD HK.out.1
          have HQ : Hid (readD zs = if rightSc ⟨n0, n1, n2, n3, n4, ss⟩ = true ∧ scZ ⟨n0, n1, n2, n3, n4, ss⟩ = zs then some ⟨n0, n1, n2, n3, n4, ss⟩ else none) := by
            obtain ⟨e0, e1, e2, e3, e4, e5⟩ := HE.out
            unfold Hid readD scOf
            rw [if_pos (by omega), e5, show ((m : Int)).toNat = m from rfl, hkk, HK.out.1]
            simp only
            rw [e0, e1, e2, e3, e4]
          clear hD hkk
          obtain ⟨y0, y1, y2, y3, y4, y5⟩ := HK.out.2.2.2.1.cells
          simp only at y0 y1 y2 y3 y4 y5
          cases hr : rightSc ⟨n0, n1, n2, n3, n4, ss⟩
          · have hW := refBytes_wrong n0 n1 n2 n3 n4 ss a7 k c7 wr HK.out.2.2.2.2.1.rd hsl HRB.out.1 hr
            have HN : Hid (readD zs = none) := by rw [Hid, HQ.out, if_neg (fun h => by rw [h.1] at hr; cases hr)]
            clear hr
            go_upto_region 17 with (first
              | (go_at_call 20; refine hW.mono ?_; rintro x w2 ⟨rfl, hb2⟩))
            have hz2 := HZ.out.1.below hb2
            have hB2 := HZ.out.2.trans (hb2.mono HZ.out.2.size)
            obtain ⟨z0, z1, z2, z3, z4, z5⟩ := hz2.cells
            have hfz := hz2.fz
            have HB3 : Hid (Below w.heap.size w w2) := hB2
            simp only at z0 z1 z2 z3 z4 z5
            clear hz2 hB2 hb2 hW y0 y1 y2 y3 y4 y5
            go_wp2
            refine bodyPost_ret (by simp [results, Tryz.results8, go_sem, z0, z1, z2, z3, z4, z5]; try rfl) rfl ?_
            unfold ReadQ
            rw [HN.out]
            exact ⟨rfl, by have h := HB3.out; go_grown⟩
          · have hW := refBytes_right n0 n1 n2 n3 n4 ss a7 k c7 wr HK.out.2.2.2.2.1.rd hsl HRB.out.1 HRB.out.2.1 hr
            have HSB : Hid (∀ z ∈ scZ ⟨n0, n1, n2, n3, n4, ss⟩, 0 ≤ z ∧ z < 256) := by
              intro z hz
              rcases List.mem_append.1 hz with h | h
              · exact formsN_bd _ z h
              · obtain ⟨x, _, h⟩ := List.mem_flatMap.1 h
                rcases List.mem_append.1 h with h | h
                · exact formsN_bd _ z h
                · rcases List.mem_append.1 h with h | h <;> exact wrN_bd _ _ z h
            have HSL : Hid ((scZ ⟨n0, n1, n2, n3, n4, ss⟩).length = 18 + 43 * k) := by rw [Hid, scZ_length, hsl]
            go_upto_region 17 with (first
              | (go_at_call 20; refine hW.mono ?_; rintro x w2 ⟨⟨a9, c9, rfl, ho9⟩, hb2⟩))
            have hz2 := HZ.out.1.below hb2
            have hB2 := HZ.out.2.trans (hb2.mono HZ.out.2.size)
            obtain ⟨z0, z1, z2, z3, z4, z5⟩ := hz2.cells
            have hfz := hz2.fz
            obtain ⟨x0, x1, x2, x3, x4, x5⟩ := (HK.out.2.2.2.1.below hb2).cells
            have HB3 : Hid (Below w.heap.size w w2) := hB2
            have HOW : Hid (OwR stC 10 50 w2 a7 c7 ss) := HK.out.2.2.2.2.1.below hb2
            simp only at z0 z1 z2 z3 z4 z5 x0 x1 x2 x3 x4 x5
            have hbz : RdI w2 .u8 ao cap zs := HR.out.below (HB1.out.trans ((HK.out.2.2.2.2.2.2.trans (hb2.mono hszr)).mono (by have := HB1.out.size; have := HG7.out; omega)))
            have hs1 := strI hbz hn
            have hs2 := strI ho9.rd HSL.out
            clear hz2 hB2 hb2 hW y0 y1 y2 y3 y4 y5 hbz ho9
            by_cases heq : scZ ⟨n0, n1, n2, n3, n4, ss⟩ = zs
            · rw [heq] at hs2
              have HN : Hid (readD zs = some ⟨n0, n1, n2, n3, n4, ss⟩) := by rw [Hid, HQ.out, if_pos ⟨hr, heq⟩]
              clear hr heq
              go_wp2
              refine bodyPost_ret (by simp [results, Tryz.results8, go_sem, z0, z1, z2, z3, z4, z5]; try rfl) rfl ?_
              unfold ReadQ
              rw [HN.out]
              refine ⟨⟨a7, c7, by rw [hsl], (HOW.out.keep fun a ha hl => ?_).rd⟩, by have h := HB3.out; go_grown⟩
              have hne : a.block ≠ w.heap.size := by have h1 := HK.out.2.2.2.2.2.1 a ha; have h2 := HGW.out; omega
              have e : ∀ (U : World) (j : Nat) (v : Value), (U.setCell ⟨w.heap.size, j, none⟩ v).heap[a.block]? = U.heap[a.block]? := fun U j v => heap_setCell_other U _ _ v hne
              rw [e, e, e, e, e, e]
            · have hcmp := str_neI HSB.out HBD.out heq
              have HN : Hid (readD zs = none) := by rw [Hid, HQ.out, if_neg (fun h => heq h.2)]
              clear hr heq
              go_wp2
              refine bodyPost_ret (by simp [results, Tryz.results8, go_sem, z0, z1, z2, z3, z4, z5]; try rfl) rfl ?_
              unfold ReadQ
              rw [HN.out]
              exact ⟨rfl, by have h := HB3.out; go_grown⟩
      · have hkk : min m 501 = k := by omega
        have hD : ∀ z ∈ zs.drop 18, 0 ≤ z ∧ z < 256 := fun z hz => HBD.out z (List.mem_of_mem_drop hz)
        have HRB : Hid ((∀ s ∈ ss, wordB s.v) ∧ (∀ s ∈ ss, 0 ≤ s.m ∧ s.m ≤ 65535) ∧ ∀ z ∈ r, 0 ≤ z ∧ z < 256) := takeS1_words k hD HK.out.1
        have HQ : Hid (readD zs = if rightSc ⟨n0, n1, n2, n3, n4, ss⟩ = true ∧ scZ ⟨n0, n1, n2, n3, n4, ss⟩ = zs then some ⟨n0, n1, n2, n3, n4, ss⟩ else none) := by
          obtain ⟨e0, e1, e2, e3, e4, e5⟩ := HE.out
          unfold Hid readD scOf
          rw [if_pos (by omega), e5, show ((m : Int)).toNat = m from rfl, hkk, HK.out.1]
          simp only
          rw [e0, e1, e2, e3, e4]
        clear hD hkk
        obtain ⟨y0, y1, y2, y3, y4, y5⟩ := HK.out.2.2.2.1.cells
        simp only at y0 y1 y2 y3 y4 y5
        cases hr : rightSc ⟨n0, n1, n2, n3, n4, ss⟩
        · have hW := refBytes_wrong n0 n1 n2 n3 n4 ss a7 k c7 wr HK.out.2.2.2.2.1.rd hsl HRB.out.1 hr
          have HN : Hid (readD zs = none) := by rw [Hid, HQ.out, if_neg (fun h => by rw [h.1] at hr; cases hr)]
          clear hr
          go_upto_region 17 with (first
            | (go_at_call 20; refine hW.mono ?_; rintro x w2 ⟨rfl, hb2⟩))
          have hz2 := HZ.out.1.below hb2
          have hB2 := HZ.out.2.trans (hb2.mono HZ.out.2.size)
          obtain ⟨z0, z1, z2, z3, z4, z5⟩ := hz2.cells
          have hfz := hz2.fz
          have HB3 : Hid (Below w.heap.size w w2) := hB2
          simp only at z0 z1 z2 z3 z4 z5
          clear hz2 hB2 hb2 hW y0 y1 y2 y3 y4 y5
          go_wp2
          refine bodyPost_ret (by simp [results, Tryz.results8, go_sem, z0, z1, z2, z3, z4, z5]; try rfl) rfl ?_
          unfold ReadQ
          rw [HN.out]
          exact ⟨rfl, by have h := HB3.out; go_grown⟩
        · have hW := refBytes_right n0 n1 n2 n3 n4 ss a7 k c7 wr HK.out.2.2.2.2.1.rd hsl HRB.out.1 HRB.out.2.1 hr
          have HSB : Hid (∀ z ∈ scZ ⟨n0, n1, n2, n3, n4, ss⟩, 0 ≤ z ∧ z < 256) := by
            intro z hz
            rcases List.mem_append.1 hz with h | h
            · exact formsN_bd _ z h
            · obtain ⟨x, _, h⟩ := List.mem_flatMap.1 h
              rcases List.mem_append.1 h with h | h
              · exact formsN_bd _ z h
              · rcases List.mem_append.1 h with h | h <;> exact wrN_bd _ _ z h
          have HSL : Hid ((scZ ⟨n0, n1, n2, n3, n4, ss⟩).length = 18 + 43 * k) := by rw [Hid, scZ_length, hsl]
          go_upto_region 17 with (first
            | (go_at_call 20; refine hW.mono ?_; rintro x w2 ⟨⟨a9, c9, rfl, ho9⟩, hb2⟩))
          have hz2 := HZ.out.1.below hb2
          have hB2 := HZ.out.2.trans (hb2.mono HZ.out.2.size)
          obtain ⟨z0, z1, z2, z3, z4, z5⟩ := hz2.cells
          have hfz := hz2.fz
          obtain ⟨x0, x1, x2, x3, x4, x5⟩ := (HK.out.2.2.2.1.below hb2).cells
          have HB3 : Hid (Below w.heap.size w w2) := hB2
          have HOW : Hid (OwR stC 10 50 w2 a7 c7 ss) := HK.out.2.2.2.2.1.below hb2
          simp only at z0 z1 z2 z3 z4 z5 x0 x1 x2 x3 x4 x5
          have hbz : RdI w2 .u8 ao cap zs := HR.out.below (HB1.out.trans ((HK.out.2.2.2.2.2.2.trans (hb2.mono hszr)).mono (by have := HB1.out.size; have := HG7.out; omega)))
          have hs1 := strI hbz hn
          have hs2 := strI ho9.rd HSL.out
          clear hz2 hB2 hb2 hW y0 y1 y2 y3 y4 y5 hbz ho9
          by_cases heq : scZ ⟨n0, n1, n2, n3, n4, ss⟩ = zs
          · rw [heq] at hs2
            have HN : Hid (readD zs = some ⟨n0, n1, n2, n3, n4, ss⟩) := by rw [Hid, HQ.out, if_pos ⟨hr, heq⟩]
            clear hr heq
            go_wp2
            refine bodyPost_ret (by simp [results, Tryz.results8, go_sem, z0, z1, z2, z3, z4, z5]; try rfl) rfl ?_
            unfold ReadQ
            rw [HN.out]
            refine ⟨⟨a7, c7, by rw [hsl], (HOW.out.keep fun a ha hl => ?_).rd⟩, by have h := HB3.out; go_grown⟩
            have hne : a.block ≠ w.heap.size := by have h1 := HK.out.2.2.2.2.2.1 a ha; have h2 := HGW.out; omega
            have e : ∀ (U : World) (j : Nat) (v : Value), (U.setCell ⟨w.heap.size, j, none⟩ v).heap[a.block]? = U.heap[a.block]? := fun U j v => heap_setCell_other U _ _ v hne
            rw [e, e, e, e, e, e]
          · have hcmp := str_neI HSB.out HBD.out heq
            have HN : Hid (readD zs = none) := by rw [Hid, HQ.out, if_neg (fun h => heq h.2)]
            clear hr heq
            go_wp2
            refine bodyPost_ret (by simp [results, Tryz.results8, go_sem, z0, z1, z2, z3, z4, z5]; try rfl) rfl ?_
            unfold ReadQ
            rw [HN.out]
            exact ⟨rfl, by have h := HB3.out; go_grown⟩
end Go.Proofs.YtemldmjpanmdbaaGreatDoor
