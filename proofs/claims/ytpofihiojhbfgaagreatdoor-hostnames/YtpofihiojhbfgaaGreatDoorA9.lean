/- A log in memory; what Open, Force and Last of package wal do, walked. What write and Append of package wal do, walked. What Append does with an empty batch, and what Durable does, walked. What IndexFunc and DeleteFunc do with commits and isMark; Commits of package wal, walked. -/
import Derived.Test.YtpofihiojhbfgaaGreatDoorA8
namespace Go.Proofs.YtpofihiojhbfgaaGreatDoor
open Go.RowKit
set_option linter.unusedVariables false
set_option maxRecDepth 8000

structure Lg (w : World) (gl g : Nat) (last : Nat) : Prop where
  c0 : w.cell? ⟨gl, 0, none⟩ = some (tp g)
  c1 : w.cell? ⟨gl, 1, none⟩ = some (.int .i64 (last : Int))
  fz : ∀ j, w.frozen? ⟨gl, j, none⟩ = false
  lt : gl < w.heap.size

theorem Lg.keep {w w' : World} {gl g last : Nat} (h : Lg w gl g last) (hg : w'.heap[gl]? = w.heap[gl]?) (hs : w.heap.size ≤ w'.heap.size) : Lg w' gl g last :=
  ⟨(World.cell?_of_block (w := w) hg).trans h.c0, (World.cell?_of_block (w := w) hg).trans h.c1, fun j => (World.frozen?_of_block (w := w) hg).trans (h.fz j), Nat.lt_of_lt_of_le h.lt hs⟩

theorem Lg.new (w : World) (g last : Nat) : Lg (w.alloc (.cells #[tp g, .int .i64 (last : Int)] 119)) w.heap.size g last := by
  have h := heap_alloc_new w (.cells #[tp g, .int .i64 (last : Int)] 119)
  refine ⟨?_, ?_, fun j => frozen_of_row _ _ _ _ _ h, by simp⟩
  all_goals rw [cell_of_row _ _ _ _ _ _ h]; rfl

theorem Lg.put {w : World} {gl g last : Nat} (h : Lg w gl g last) (k : Nat) : Lg (w.setCell ⟨gl, 1, none⟩ (.int .i64 (k : Int))) gl g k :=
  ⟨by rw [put_other _ _ _ _ _ (by omega)]; exact h.c0, World.cell?_setCell_same _ _ _ h.c1, fun j => by rw [World.frozen?_setCell]; exact h.fz j, by simpa [World.setCell] using h.lt⟩

structure LogAt (w : World) (B gl g : Nat) (ao : Option Addr) (n cap : Nat) (bs : List Nat) (s r last : Nat) : Prop where
  t : Tp w B g ao n cap bs s r
  l : Lg w gl g last
  bl : B ≤ gl
  ng : gl ≠ g
  na : ∀ a, ao = some a → a.block ≠ gl

section
variable {w w' : World} {B gl g : Nat} {ao : Option Addr} {n cap : Nat} {bs : List Nat} {s r last : Nat}

theorem LogAt.below (h : LogAt w B gl g ao n cap bs s r last) (hb : Below w.heap.size w w') : LogAt w' B gl g ao n cap bs s r last :=
  ⟨h.t.below hb, h.l.keep (hb.block gl h.l.lt) hb.size, h.bl, h.ng, h.na⟩

theorem Lg.off (h : Lg w gl g last) (hO : Off2 g ao w w') (h1 : gl ≠ g) (h2 : ∀ a, ao = some a → a.block ≠ gl) : Lg w' gl g last :=
  h.keep (hO.block gl h.lt h1 h2) hO.size

theorem Fnd.keep {base : Nat} {v : Value} {L : List Bt} (h : Fnd w base v L) (hb : ∀ k, base ≤ k → k < w.heap.size → w'.heap[k]? = w.heap[k]?) (hs : w.heap.size ≤ w'.heap.size) : Fnd w' base v L := by
  obtain ⟨R, h1, hp, h2, h3⟩ := h
  refine ⟨R, h1, fun r hr => (hp r hr).keep (fun g a1 a2 _ => hb g a1 a2) hs, h2, ?_⟩
  rcases h3 with h3 | ⟨g, cp, cur, hv, hg2, hh, r⟩
  · exact .inl h3
  · exact .inr ⟨g, cp, cur, hv, hg2, by rw [hb g hg2 (Array.getElem?_eq_some_iff.1 hh).1]; exact hh, r⟩
end

structure OffL (gl g : Nat) (ao : Option Addr) (w w' : World) : Prop where
  os : w'.os = w.os
  tape : w'.tape = w.tape
  output : w'.output = w.output
  size : w.heap.size ≤ w'.heap.size
  block : ∀ k, k < w.heap.size → k ≠ gl → k ≠ g → (∀ a, ao = some a → a.block ≠ k) → w'.heap[k]? = w.heap[k]?

theorem OffL.of_off2 {g : Nat} {ao : Option Addr} {w w' : World} (gl : Nat) (h : Off2 g ao w w') : OffL gl g ao w w' := ⟨h.os, h.tape, h.output, h.size, fun k hk _ h1 h2 => h.block k hk h1 h2⟩
theorem OffL.setL {gl g : Nat} {ao : Option Addr} {w w' : World} (h : OffL gl g ao w w') (j : Nat) (u : Value) : OffL gl g ao w (w'.setCell ⟨gl, j, none⟩ u) :=
  ⟨h.os, h.tape, h.output, by simpa [World.setCell] using h.size, fun k hk h0 h1 h2 => (Below.heap_setCell _ _ _ _ h0).trans (h.block k hk h0 h1 h2)⟩

theorem rowN_le (L : List Bt) : L.length ≤ (rowN L).length := by
  induction L with
  | nil => simp
  | cons b r ih =>
    have e : rowN (b :: r) = wbN b ++ rowN r := rfl
    rw [e, List.length_append, wbN_length, List.length_cons]
    omega

set_option maxHeartbeats 800000 in
theorem open_log (B g : Nat) (ao : Option Addr) (n cap : Nat) (L : List Bt) (s r : Nat) (w : World) (hT : Tp w B g ao n cap (rowN L) s r) (hok : ∀ b ∈ L, BtOk b) (hch : Chain L) :
    Calls Tryz.prog 27 #[tp g] w fun x w' => ∃ gl, x = .returned (tp gl) ∧ LogAt w' B gl g ao n cap (rowN L) s r (lastL L) ∧ Below B w w' ∧ w.heap.size ≤ gl ∧ Off2 g ao w w' := by
  have hle := hT.le
  have hlen := hT.own.len
  have hsl := hT.sl
  have hLL : L.length ≤ 20000 := by have := rowN_le L; omega
  have HOK : Hid (∀ b ∈ L, BtOk b) := hok
  have HC : Hid (Chain L) := hch
  have HX : Hid ((rowN L).take n = rowN L) := List.take_of_length_le (Nat.le_of_eq hlen)
  have HM : Hid (min s n = s) := Nat.min_eq_left hsl
  have HCN : Hid (cutN (n : Int) n = n) := by show cutN (n : Int) n = n; unfold cutN; omega
  clear hok hch
  go_enter Tryz.func27, Tryz.ntmps27
  go_wp2_with (first
    | (go_at_call 53; refine (lastLSN_any v L w1.heap.size _ hF3 hLL).mono ?_; rintro x w' ⟨rfl, hw⟩; subst w')
    | (go_at_call 52; refine (cut_at _ _ _ _ _ _ _ _ _ hT2 (n : Int) n s (rowN L) HCN.out HM.out HX.out).mono ?_; rintro x w3 ⟨rfl, hT3, hO3, -⟩; have hF3 : Fnd w3 w1.heap.size v L := hF2.keep (fun k h1 h2 => hO3.block k h2 (by have := hT1.hd.lt; omega) (fun a ha => by have := hT1.own.lt a ha; omega)) hO3.size)
    | (go_at_call 50; refine (scan_ok L _ _ _ _ ho1.rd HOK.out HC.out hle).mono ?_; rintro x w2 ⟨v, rfl, hF2, hb2⟩; have hT2 := hT1.below hb2)
    | (go_at_call 51; refine (bytes_any _ _ _ _ _ _ _ _ _ hT).mono ?_; rintro x w1 ⟨ao1, cap1, rfl, ho1, hb1⟩; have hT1 := hT.below hb1)
    | (fail))
  go_ret
  have hg3 := hT3.hd.lt
  have hbg := hT.bg
  have hg0 := hT.hd.lt
  have hBw : Below B w w2 := (below_step hb1 hb2).mono (by omega)
  have hB3 : Below B w w3 := hBw.trans (hT2.belowB hO3)
  have hs : w.heap.size ≤ w3.heap.size := hB3.size
  refine ⟨w3.heap.size, rfl, ⟨hT3.below (below_box _ _), Lg.new w3 g _, by omega, by omega, fun a ha => ?_⟩, hB3.alloc (by omega) _, hs, ((Off2.of_below ao (below_step hb1 hb2)).trans hO3 (Nw.refl _ _)).trans (Off2.of_below ao (below_box _ _)) (Nw.refl _ _)⟩
  have := hT3.own.lt a ha
  omega

theorem force_log (B gl g : Nat) (ao : Option Addr) (n cap : Nat) (bs : List Nat) (s r last : Nat) (w : World) (h : LogAt w B gl g ao n cap bs s r last) :
    Calls Tryz.prog 65 #[tp gl] w fun x w' => x = .returned (.tuple #[]) ∧ LogAt w' B gl g ao n cap bs n r last ∧ Below B w w' ∧ Off2 g ao w w' := by
  have h0 := h.l.c0
  go_enter Tryz.func65, Tryz.ntmps65
  go_wp2_with (first
    | (go_at_call 104; refine (sync_any _ _ _ _ _ _ _ _ _ h.t).mono ?_; rintro x w1 ⟨rfl, hT1, hO1, -⟩)
    | (fail))
  go_end0
  exact ⟨rfl, ⟨hT1, h.l.off hO1 h.ng h.na, h.bl, h.ng, h.na⟩, h.t.belowB hO1, hO1⟩

end Go.Proofs.YtpofihiojhbfgaaGreatDoor

namespace Go.Proofs.YtpofihiojhbfgaaGreatDoor
open Go.RowKit
set_option linter.unusedVariables false
set_option maxRecDepth 8000

set_option maxHeartbeats 400000 in
theorem write_log (B gl g : Nat) (ao : Option Addr) (n cap : Nat) (bs : List Nat) (s r last : Nat) (b : Bt) (ap : Option Addr) (m cp : Nat) (w : World) (h : LogAt w B gl g ao n cap bs s r last) (hp : RdP w ap m cp b.ps) (hok : BtOk b) (hfit : n + (20 + 22 * m) ≤ r) :
    Calls Tryz.prog 187 #[tp gl, btV b.lsn b.cl b.ep b.tx ap m cp] w fun x w' => x = .returned (.int .i64 0) ∧ Led w w' B g ao (n + (20 + 22 * m)) (bs ++ wbN b) s r := by
  have hbx := below_box w (btO b.lsn b.cl b.ep b.tx ap m cp)
  have hp0 := hp.below hbx
  have h0 := h.below hbx
  have HK : Hid (BtOk b) := hok
  clear hok
  go_enter Tryz.func187, Tryz.ntmps187
  go_wp2_with (first
    | (go_at_call 200; refine (append_ok _ _ _ _ _ _ _ _ _ h1.t _ _ _ _ ho1.rd (.inr hfit)).mono ?_; rintro x w2 ⟨rfl, ao2, cap2, hT2, hO2, hN2⟩)
    | (go_at_call 199; refine (wbytes_ok b _ _ _ _ hp0 HK.out).mono ?_; rintro x w1 ⟨ao1, cap1, rfl, ho1, hb1⟩; have h1 := h0.below hb1; have q0 := h1.l.c0)
    | (fail))
  go_ret
  have hB1 : Below w.heap.size w w1 := below_alloc (hb1.mono (by simp))
  exact ⟨rfl, ao2, cap2, hT2, (Off2.of_below ao hB1).trans hO2 (Nw.refl _ _), (Nw.refl w ao).trans hN2 hB1.size⟩

set_option maxHeartbeats 800000 in
theorem append_log (B gl g : Nat) (ao : Option Addr) (n cap : Nat) (bs : List Nat) (s r last : Nat) (b : Bt) (l0 : Int) (ap : Option Addr) (m cp : Nat) (w : World) (h : LogAt w B gl g ao n cap bs s r last) (hp : RdP w ap m cp b.ps) (hl : b.lsn = last + 1) (hok : BtOk b) (hfit : n + (20 + 22 * m) ≤ r) :
    Calls Tryz.prog 164 #[tp gl, btV l0 b.cl b.ep b.tx ap m cp] w fun x w' => x = .returned (.tuple #[.int .i64 ((last + 1 : Nat) : Int), .int .i64 0]) ∧ ∃ ao2 cap2, LogAt w' B gl g ao2 (n + (20 + 22 * m)) cap2 (bs ++ wbN b) s r (last + 1) ∧ Below B w w' ∧ OffL gl g ao w w' ∧ Nw w ao ao2 := by
  have hbx := below_box w (btO b.lsn b.cl b.ep b.tx ap m cp)
  have hp0 := hp.below hbx
  have h0 := h.below hbx
  have q0 := h.l.c0
  have q1 := h.l.c1
  have hlt := h.l.lt
  have hb16 := hok.lsn
  have hl2 : ((last : Int) + 1) = (b.lsn : Int) := by omega
  have hbd : last + 1 ≤ 16777215 := by omega
  have HK : Hid (BtOk b) := hok
  have HL : Hid (b.lsn = last + 1) := hl
  clear hok hl hb16
  go_enter Tryz.func164, Tryz.ntmps164
  go_wp2_with (first
    | (go_at_call 187; refine (write_log _ _ _ _ _ _ _ _ _ _ b _ _ _ _ h1 hp1 HK.out hfit).mono ?_; rintro x w2 ⟨rfl, ao2, cap2, hT2, hO2, hN2⟩; have hq2 := hq1.keep (hO2.block w.heap.size hq1.lt (by have := h.t.hd.lt; omega) (fun a ha => by have := h.t.own.lt a ha; omega)) hO2.size; have z0 := hq2.c0; have hL2 := h1.l.off hO2 h.ng h.na; have x1 := hL2.c1; have y1 := hL2.fz 1)
    | (go_at_call 186; refine (isCommit_ok _ _ _ _ _ _ _ _ _ hp0 HK.out.ps ⟨by have := HK.out.lsn; omega, by have := HK.out.lsn; omega⟩ ⟨by omega, by have := HK.out.cl; omega⟩ ⟨by have := HK.out.ep; omega, by have := HK.out.ep; omega⟩ ⟨by have := HK.out.tx; omega, by have := HK.out.tx; omega⟩).mono ?_; rintro x w1 ⟨rfl, hb1⟩; have h1 := h0.below hb1; have hp1 := hp0.below hb1; have hq1 := (BtAt.new w b.lsn b.cl b.ep b.tx ap m cp).below hb1; have v0 := hq1.c0; have v1 := hq1.c1; have v2 := hq1.c2; have v3 := hq1.c3; have v4 := hq1.c4)
    | (fail))
  go_returns
  have hB1 : Below w.heap.size w w1 := below_alloc (hb1.mono (by simp))
  have hN : Nw w ao ao2 := (Nw.refl w ao).trans hN2 hB1.size
  have hna : ∀ a, ao2 = some a → a.block ≠ gl := ne_own h.na hlt hN
  have hB2 : Below B w w2 := (hB1.mono (by have := h.t.bg; have := h.t.hd.lt; omega)).trans (h1.t.belowB hO2)
  refine ⟨?_, ao2, cap2, ⟨hT2.other _ _ h.ng hna, ?_, h.bl, h.ng, hna⟩, hB2.setCell h.bl _, (OffL.of_off2 gl ((Off2.of_below ao hB1).trans hO2 (Nw.refl _ _))).setL _ _, hN⟩
  · show Ending.returned (.tuple #[.int .i64 (b.lsn : Int), .int .i64 0]) = _
    rw [HL.out]
  · have := hL2.put b.lsn
    rwa [HL.out] at this ⊢

end Go.Proofs.YtpofihiojhbfgaaGreatDoor

namespace Go.Proofs.YtpofihiojhbfgaaGreatDoor
open Go.RowKit
set_option linter.unusedVariables false
set_option maxRecDepth 8000

theorem head_rd {w : World} {base : Nat} {ao : Option Addr} {n cap s : Nat} {L : List Bt} {rest : List Nat} (h : Own8 w base ao n cap (rowN L ++ rest)) (hs : s = (rowN L).length) (hn : s ≤ n) : Rd8 w ao s cap (rowN L) := by
  have h1 := h.rd.head s hn
  rw [hs, List.take_left] at h1
  rw [hs]
  exact h1

set_option maxHeartbeats 800000 in
theorem durable_log (B gl g : Nat) (ao : Option Addr) (n cap : Nat) (L : List Bt) (rest : List Nat) (s r last : Nat) (w : World) (h : LogAt w B gl g ao n cap (rowN L ++ rest) s r last) (hs : s = (rowN L).length) (hok : ∀ b ∈ L, BtOk b) (hch : Chain L) :
    Calls Tryz.prog 38 #[tp gl] w fun x w' => x = .returned (.int .i64 (lastL L : Int)) ∧ Below w.heap.size w w' := by
  have hD : LogAt w.drew B gl g ao n cap (rowN L ++ rest) s r last := h.below ((Below.refl _ _).drew)
  have q0 := h.l.c0
  have hle := h.t.le
  have hsl := h.t.sl
  have HS : Hid (s = (rowN L).length) := hs
  have hLL : L.length ≤ 20000 := by have := rowN_le L; omega
  have HOK : Hid (∀ b ∈ L, BtOk b) := hok
  have HC : Hid (Chain L) := hch
  clear hok hch hs
  go_enter Tryz.func38, Tryz.ntmps38
  go_wp2
  go_region_with (first
    | (go_at_call 50; refine (scan_ok L _ _ _ _ (head_rd ho1 HS.out hsl) HOK.out HC.out (by omega)).mono ?_; rintro x w2 ⟨v, rfl, hF2, hb2⟩)
    | (go_at_call 68; refine (safe_any _ _ _ _ _ _ _ _ _ hT1.t).mono ?_; rintro x w' ⟨rfl, hw⟩; subst w')
    | (go_at_call 68; refine (safe_any _ _ _ _ _ _ _ _ _ hD.t).mono ?_; rintro x w' ⟨rfl, hw⟩; subst w')
    | (go_at_call 51; refine (bytes_any _ _ _ _ _ _ _ _ _ hD.t).mono ?_; rintro x w1 ⟨ao1, cap1, rfl, ho1, hb1⟩; have hT1 := hD.below hb1; have q1 := hT1.l.c0; have hcp := ho1.rd.rd.le; rw [ci_length, ho1.len] at hcp))
  all_goals (
    go_wp2_with (first
      | (go_at_call 53; refine (lastLSN_any v L _ _ hF2 hLL).mono ?_; rintro x w' ⟨rfl, hw⟩; subst w')
      | (fail))
    go_ret
    exact ⟨rfl, below_step (below_drewn hb1) hb2⟩)

end Go.Proofs.YtpofihiojhbfgaaGreatDoor

namespace Go.Proofs.YtpofihiojhbfgaaGreatDoor
open Go.RowKit
set_option linter.unusedVariables false
set_option maxRecDepth 8000

set_option maxHeartbeats 400000 in
theorem index_none (v : Value) (L : List Bt) (base : Nat) (w : World) (h : Fnd w base v L) (hok : ∀ b ∈ L, BtOk b) (hl : L.length ≤ 20000) :
    Calls Tryz.prog 93 #[v, .func (.func 55) #[] #[]] w fun x w' => x = .returned (.int .i64 (-1)) ∧ Below w.heap.size w w' := by
  have HF : Hid (Fnd w base v L) := h
  have HOK : Hid (∀ b ∈ L, BtOk b) := hok
  obtain ⟨ao, cap, rfl, -⟩ := h.shape
  obtain ⟨m, hm⟩ : ∃ m, L.length = m := ⟨_, rfl⟩
  have HM : Hid (L.length = m) := hm
  rw [hm] at HF hl ⊢
  clear h hok hm
  go_enter Tryz.func93, Tryz.ntmps93
  go_wp2
  go_loopw [8] (fun i wr => ∃ k : Nat, k ≤ m ∧ i = .int .i64 k ∧ Below w.heap.size w wr) (fun i _ => m - (intOf i).toNat)
  case atStart => exact ⟨0, Nat.zero_le _, rfl, Below.refl _ _⟩
  case round =>
    obtain ⟨k, hk, rfl, hbel⟩ := hrel
    by_cases hlt : k < m
    · have hkl : k < L.length := by have := HM.out; omega
      obtain ⟨g, cap', ap, hv, hg, -, q0, q1, q2, q3, q4, -⟩ := (HF.out.below hbel).at k hkl
      rw [HM.out] at hv
      simp only [Value.slice.injEq, true_and] at hv
      obtain ⟨rfl, rfl⟩ := hv
      have hb := HOK.out L[k] (List.getElem_mem _)
      have hb1 := hb.lsn
      have hb2 := hb.tx
      generalize L[k] = b at *
      clear hb
      go_wp2_with (first
        | (go_at_call 55; refine (isMark_no _ _ _ _ _ _ _ _ ⟨by omega, by omega⟩ (by omega)).mono ?_; rintro x w1 ⟨rfl, hbb⟩)
        | (fail))
      go_roundw
      case rel => exact ⟨k + 1, by omega, by go_num, below_step hbel hbb⟩
      case measure => simp [intOf]; omega
    · go_wp2
      go_ret
      exact ⟨rfl, hbel⟩

set_option maxHeartbeats 400000 in
theorem delete_none (v : Value) (L : List Bt) (base : Nat) (w : World) (h : Fnd w base v L) (hok : ∀ b ∈ L, BtOk b) (hl : L.length ≤ 20000) :
    Calls Tryz.prog 54 #[v, .func (.func 55) #[] #[]] w fun x w' => x = .returned v ∧ Below w.heap.size w w' := by
  have HK : Hid (Calls Tryz.prog 93 #[v, .func (.func 55) #[] #[]] w fun x w' => x = .returned (.int .i64 (-1)) ∧ Below w.heap.size w w') := index_none v L base w h hok hl
  clear h hok hl
  go_enter Tryz.func54, Tryz.ntmps54
  go_wp2_with (first
    | (go_at_call 93; refine HK.out.mono ?_; rintro x w1 ⟨rfl, hb1⟩)
    | (fail))
  go_ret
  exact ⟨rfl, hb1⟩

set_option maxHeartbeats 400000 in
theorem commits_log (B gl g : Nat) (ao : Option Addr) (n cap : Nat) (L : List Bt) (s r last : Nat) (w : World) (h : LogAt w B gl g ao n cap (rowN L) s r last) (hok : ∀ b ∈ L, BtOk b) (hch : Chain L) :
    Calls Tryz.prog 29 #[tp gl] w fun x w' => ∃ v, x = .returned v ∧ Fnd w' w.heap.size v L ∧ Below w.heap.size w w' := by
  have q0 := h.l.c0
  have hle := h.t.le
  have hlen := h.t.own.len
  have hLL : L.length ≤ 20000 := by have := rowN_le L; omega
  have HOK : Hid (∀ b ∈ L, BtOk b) := hok
  have HC : Hid (Chain L) := hch
  clear hok hch hlen
  go_enter Tryz.func29, Tryz.ntmps29
  go_wp2_with (first
    | (go_at_call 54; refine (delete_none v L _ _ hF2 HOK.out hLL).mono ?_; rintro x w3 ⟨rfl, hb3⟩)
    | (go_at_call 50; refine (scan_ok L _ _ _ _ ho1.rd HOK.out HC.out hle).mono ?_; rintro x w2 ⟨v, rfl, hF2, hb2⟩)
    | (go_at_call 51; refine (bytes_any _ _ _ _ _ _ _ _ _ h.t).mono ?_; rintro x w1 ⟨ao1, cap1, rfl, ho1, hb1⟩)
    | (fail))
  go_ret
  exact ⟨v, rfl, (hF2.below hb3).mono hb1.size, below_step (below_step hb1 hb2) hb3⟩

end Go.Proofs.YtpofihiojhbfgaaGreatDoor
