/- What write and Append of package wal do, walked. -/
import Derived.Test.YthckdfggnmoaeaaX1
namespace Go.Proofs.Ythckdfggnmoaeaa
open Go.RowKit
set_option linter.unusedVariables false

set_option maxHeartbeats 400000 in
theorem write_log (B gl g : Nat) (ao : Option Addr) (n cap : Nat) (bs : List Nat) (s r last : Nat) (b : Bt) (ap : Option Addr) (m cp : Nat) (w : World) (h : LogAt w B gl g ao n cap bs s r last) (hp : RdP w ap m cp b.ps) (hok : BtOk b) (hfit : n + (20 + 22 * m) ≤ r) :
    Calls Try.prog 39 #[tp gl, btV b.lsn b.cl b.ep b.tx ap m cp] w fun x w' => x = .returned (.int .i64 0) ∧ Led w w' B g ao (n + (20 + 22 * m)) (bs ++ wbN b) s r := by
  have hbx := below_box w (btO b.lsn b.cl b.ep b.tx ap m cp)
  have hp0 := hp.below hbx
  have h0 := h.below hbx
  have HK : Hid (BtOk b) := hok
  clear hok
  go_enter Try.func39, Try.ntmps39
  go_wp2_with (first
    | (go_at_call 57; refine (append_ok _ _ _ _ _ _ _ _ _ h1.t _ _ _ _ ho1.rd (.inr hfit)).mono ?_; rintro x w2 ⟨rfl, ao2, cap2, hT2, hO2, hN2⟩)
    | (go_at_call 56; refine (wbytes_ok b _ _ _ _ hp0 HK.out).mono ?_; rintro x w1 ⟨ao1, cap1, rfl, ho1, hb1⟩; have h1 := h0.below hb1; have q0 := h1.l.c0)
    | (fail))
  go_ret
  have hB1 : Below w.heap.size w w1 := below_alloc (hb1.mono (by simp))
  exact ⟨rfl, ao2, cap2, hT2, (Off2.of_below ao hB1).trans hO2 (Nw.refl _ _), (Nw.refl w ao).trans hN2 hB1.size⟩

set_option maxHeartbeats 800000 in
theorem append_log (B gl g : Nat) (ao : Option Addr) (n cap : Nat) (bs : List Nat) (s r last : Nat) (b : Bt) (l0 : Int) (ap : Option Addr) (m cp : Nat) (w : World) (h : LogAt w B gl g ao n cap bs s r last) (hp : RdP w ap m cp b.ps) (hl : b.lsn = last + 1) (hok : BtOk b) (hfit : n + (20 + 22 * m) ≤ r) :
    Calls Try.prog 19 #[tp gl, btV l0 b.cl b.ep b.tx ap m cp] w fun x w' => x = .returned (.tuple #[.int .i64 ((last + 1 : Nat) : Int), .int .i64 0]) ∧ ∃ ao2 cap2, LogAt w' B gl g ao2 (n + (20 + 22 * m)) cap2 (bs ++ wbN b) s r (last + 1) ∧ Below B w w' ∧ OffL gl g ao w w' ∧ Nw w ao ao2 := by
  have hbx := below_box w (btO b.lsn b.cl b.ep b.tx ap m cp)
  have hp0 := hp.below hbx
  have h0 := h.below hbx
  have q0 := h.l.c0
  have q1 := h.l.c1
  have hlt := h.l.lt
  have hb16 := hok.lsn
  have hl2 : ((last : Int) + 1) = (b.lsn : Int) := by omega
  have hbd : last + 1 ≤ 16777215 := by omega
  have HK : Hid (BtOk b) := hok
  have HL : Hid (b.lsn = last + 1) := hl
  clear hok hl hb16
  go_enter Try.func19, Try.ntmps19
  go_wp2_with (first
    | (go_at_call 39; refine (write_log _ _ _ _ _ _ _ _ _ _ b _ _ _ _ h1 hp1 HK.out hfit).mono ?_; rintro x w2 ⟨rfl, ao2, cap2, hT2, hO2, hN2⟩; have hq2 := hq1.keep (hO2.block w.heap.size hq1.lt (by have := h.t.hd.lt; omega) (fun a ha => by have := h.t.own.lt a ha; omega)) hO2.size; have z0 := hq2.c0; have hL2 := h1.l.off hO2 h.ng h.na; have x1 := hL2.c1; have y1 := hL2.fz 1)
    | (go_at_call 38; refine (isCommit_ok _ _ _ _ _ _ _ _ _ hp0 HK.out.ps ⟨by have := HK.out.lsn; omega, by have := HK.out.lsn; omega⟩ ⟨by omega, by have := HK.out.cl; omega⟩ ⟨by have := HK.out.ep; omega, by have := HK.out.ep; omega⟩ ⟨by have := HK.out.tx; omega, by have := HK.out.tx; omega⟩).mono ?_; rintro x w1 ⟨rfl, hb1⟩; have h1 := h0.below hb1; have hp1 := hp0.below hb1; have hq1 := (BtAt.new w b.lsn b.cl b.ep b.tx ap m cp).below hb1; have v0 := hq1.c0; have v1 := hq1.c1; have v2 := hq1.c2; have v3 := hq1.c3; have v4 := hq1.c4)
    | (fail))
  go_returns
  have hB1 : Below w.heap.size w w1 := below_alloc (hb1.mono (by simp))
  have hN : Nw w ao ao2 := (Nw.refl w ao).trans hN2 hB1.size
  have hna : ∀ a, ao2 = some a → a.block ≠ gl := ne_own h.na hlt hN
  have hB2 : Below B w w2 := (hB1.mono (by have := h.t.bg; have := h.t.hd.lt; omega)).trans (h1.t.belowB hO2)
  refine ⟨?_, ao2, cap2, ⟨hT2.other _ _ h.ng hna, ?_, h.bl, h.ng, hna⟩, hB2.setCell h.bl _, (OffL.of_off2 gl ((Off2.of_below ao hB1).trans hO2 (Nw.refl _ _))).setL _ _, hN⟩
  · show Ending.returned (.tuple #[.int .i64 (b.lsn : Int), .int .i64 0]) = _
    rw [HL.out]
  · have := hL2.put b.lsn
    rwa [HL.out] at this ⊢

end Go.Proofs.Ythckdfggnmoaeaa
