/- Whatever is done with a link: the walk. -/
import Derived.Test.YtgdlejeopdipiaaRp
import Derived.Deep.RegionHeldLaw
import Derived.Deep.DeepCutAuto
import Derived.Deep.CutBlock
namespace Go.Proofs.Ytgdlejeopdipiaa
open Go.RowKit
set_option linter.unusedVariables false

theorem rd8_zero (w : World) (a : Addr) : Rd8 w (some a) 0 0 [] := ⟨⟨by simp [ci], by simp, fun h => (by cases h), fun h => absurd rfl h⟩, rfl, by simp⟩

theorem Rf.sx {w w' : World} {B gr : Nat} {ao : Option Addr} {V : Nat → Prop} {I : LkI} {LL : List (List Nat)} {N kn h : Nat} {ar : Option Addr} {cr : Nat} (R : Rf w B gr ao V I LL N kn h ar cr) {b : Nat} {cs : Array Value} {e : TypeId} {fr : Nat × Nat} (hx : Sx b w w') (hb : w.heap[b]? = some (.cells cs e fr)) (h5 : e ≠ 5) (h27 : e ≠ 27) (h34 : e ≠ 34) : Rf w' B gr ao V I LL N kn h ar cr :=
  ⟨R.x.keep (hx.block gr (ne_type R.x.blk hb (fun e => h34 e.symm)) R.x.lt), R.r.sx hx hb h5 h27, R.len, R.kl, R.ap, R.bg⟩
theorem AvAt.sx {w w' : World} {g : Nat} {a : WAct} (A : AvAt w g a) {b : Nat} {cs : Array Value} {e : TypeId} {fr : Nat × Nat} (hx : Sx b w w') (hb : w.heap[b]? = some (.cells cs e fr)) (h36 : e ≠ 36) : AvAt w' g a :=
  ⟨(hx.block g (ne_type A.blk hb (fun e => h36 e.symm)) A.lt).trans A.blk⟩

abbrev hdI (P : PkG) : LkI := ⟨P.cl, P.ep, P.bo, P.sv⟩

set_option maxRecDepth 100000 in
set_option maxHeartbeats 12800000 in
theorem runs_main (P0 : PkG) (u0 : Option Addr) (m0 c0 : Nat) (a1 : Option Addr) (c1 n1 : Nat) (A : List WAct) (w : World) (hA : WActsAt w a1 A) (hn : A.length = n1) (hm : n1 ≤ 100)
    (t1 : ¬ (P0.cl < 0)) (t2 : ¬ (3 < P0.cl)) (t3 : ¬ (P0.ep < 0)) (t4 : ¬ (16777215 < P0.ep)) (t5 : ¬ (P0.bo < 0)) (t6 : ¬ (16777215 < P0.bo)) :
    Calls Try.prog 4 #[pkV P0 (.slice u0 m0 c0), .slice a1 n1 c1] w fun e w' => e = .returned (.bool true) ∧ Below w.heap.size w w' := by
  have HA : Hid (WActsAt w a1 A) := hA
  have t0 : ¬ ((100 : Int) < (n1 : Int)) := by omega
  clear hA
  go_enter Try.func4, Try.ntmps4
  go_wp2_with (first
    | (go_at_call 9; refine (new_any P0.cl P0.ep P0.bo P0.sv w1).mono ?_; rintro e w2 ⟨rfl, hK, hb2⟩; have hP2 := hP1.below hb2; have K2 := hK w.heap.size (fun _ => True) hB1.size; clear hK; have hB2 : Below w.heap.size w w2 := below_step hB1 hb2; have j0 := hP2.c0; have j1 := hP2.c1; have j2 := hP2.c2; have j5 := hP2.c5; simp only [Nat.zero_add] at j1 j2 j5)
    | (go_at_call 11; refine (alive_any _).mono ?_; rintro e w1 ⟨rfl, hb1⟩; have hP1 := (PkIn.new w P0 (.slice u0 m0 c0)).below hb1; have hB1 : Below w.heap.size w w1 := below_alloc (hb1.mono (by simp)); have i0 := hP1.c0; have i1 := hP1.c1; have i2 := hP1.c2; have i5 := hP1.c5; simp only [Nat.zero_add] at i1 i2 i5))
  have hal : Below w2.heap.size w2 (w2.alloc (rfO (hdI P0) (.slice none 0 0) 0 0)) := (Below.refl _ _).alloc (Nat.le_refl _) _
  have H0 : Hid (Lk (w2.alloc (rfO (hdI P0) (.slice none 0 0) 0 0)) w.heap.size w1.heap.size none 0 0 (fun _ => True) (hdI P0) [] 0 0 ∧ Rf (w2.alloc (rfO (hdI P0) (.slice none 0 0) 0 0)) w.heap.size w2.heap.size none (fun _ => True) (hdI P0) [] 0 0 0 none 0) := ⟨K2.below hal, ⟨C7.new w2 34 _ _ _ _ _ _ _, ⟨[], OwnS.nil _ _ _, Bys.nil _ _⟩, rfl, Nat.le_refl _, fun a b h => (by cases h), hB2.size⟩⟩
  have hB3 : Below w.heap.size w (w2.alloc (rfO (hdI P0) (.slice none 0 0) 0 0)) := below_step hB2 hal
  clear hal K2 hP1 hP2
  go_loopw [73] (fun i wr => ∃ (k : Nat) (ao : Option Addr) (n cap : Nat) (LL : List (List Nat)) (N kn h : Nat) (ar : Option Addr) (cr : Nat), k ≤ n1 ∧ i = .int .i64 k ∧ Hid (Lk wr w.heap.size w1.heap.size ao n cap (fun _ => True) (hdI P0) (LL.drop kn) N h ∧ Rf wr w.heap.size w2.heap.size ao (fun _ => True) (hdI P0) LL N kn h ar cr ∧ N ≤ k ∧ h ≤ k) ∧ Below w.heap.size w wr) (fun i _ => n1 - (intOf i).toNat)
  case atStart => exact ⟨0, none, 0, 0, [], 0, 0, 0, none, 0, Nat.zero_le _, rfl, ⟨H0.out.1, H0.out.2, Nat.le_refl _, Nat.le_refl _⟩, hB3⟩
  case round =>
    obtain ⟨k, ao, n, cap, LL, N, kn, h, ar, cr, hk, rfl, HI, hbel⟩ := hrel
    by_cases hlt : k < n1
    · have hAr := HA.out.below hbel
      obtain ⟨bk, off, rfl, _, hcA⟩ := hAr.cell (by intro e; rw [e] at hn; simp at hn; omega)
      have hc := hcA k (by omega)
      clear hcA
      have hX := HA.out.rd A[k] (List.getElem_mem _)
      generalize A[k] = x at *
      obtain ⟨kk, aa, mm, cc, ys, P, pa, pm, pc⟩ := x
      have d0 : wr.cell? ⟨bk, off + k * 9, none⟩ = some (.int .i64 kk) := hc 0 (by omega)
      have d1 : wr.cell? ⟨bk, off + k * 9 + 1, none⟩ = some (.slice aa mm cc) := hc 1 (by omega)
      have d2 : wr.cell? ⟨bk, off + k * 9 + 2, none⟩ = some (.int .i64 P.cl) := hc 2 (by omega)
      have d3 : wr.cell? ⟨bk, off + k * 9 + 3, none⟩ = some (.int .i64 P.ep) := hc 3 (by omega)
      have d4 : wr.cell? ⟨bk, off + k * 9 + 4, none⟩ = some (.int .i64 P.bo) := hc 4 (by omega)
      have d5 : wr.cell? ⟨bk, off + k * 9 + 5, none⟩ = some (.int .i64 P.sq) := hc 5 (by omega)
      have d6 : wr.cell? ⟨bk, off + k * 9 + 6, none⟩ = some (.int .i64 P.ak) := hc 6 (by omega)
      have d7 : wr.cell? ⟨bk, off + k * 9 + 7, none⟩ = some (.bool P.sv) := hc 7 (by omega)
      have d8 : wr.cell? ⟨bk, off + k * 9 + 8, none⟩ = some (.slice pa pm pc) := hc 8 (by omega)
      obtain ⟨hX1, hX2, hX3, hX4, hX5⟩ := hX
      simp only at hX1 hX2 hX3 hX4 hX5
      have HX1 : Hid (Rd8 w aa mm cc ys) := hX1
      have HX3 : Hid (Rd8 w pa pm pc P.bs) := hX3
      have HX5 : Hid (PkWf P) := hX5
      have hml := hX1.len
      have hpl := hX3.len
      clear hAr hc hX1 hX3 hX5
      have hbA : Below wr.heap.size wr (((wr.alloc (.cells #[.int .i64 kk, .slice aa mm cc, .int .i64 P.cl, .int .i64 P.ep, .int .i64 P.bo, .int .i64 P.sq, .int .i64 P.ak, .bool P.sv, .slice pa pm pc] 36)).alloc (.cells #[] 5)).alloc (.cells #[] 5)) := below_step ((Below.refl _ _).alloc (Nat.le_refl _) _) (below2 _ _ _)
      have HW0 : Hid (Lk (((wr.alloc (.cells #[.int .i64 kk, .slice aa mm cc, .int .i64 P.cl, .int .i64 P.ep, .int .i64 P.bo, .int .i64 P.sq, .int .i64 P.ak, .bool P.sv, .slice pa pm pc] 36)).alloc (.cells #[] 5)).alloc (.cells #[] 5)) w.heap.size w1.heap.size ao n cap (fun _ => True) (hdI P0) (LL.drop kn) N h ∧ Rf (((wr.alloc (.cells #[.int .i64 kk, .slice aa mm cc, .int .i64 P.cl, .int .i64 P.ep, .int .i64 P.bo, .int .i64 P.sq, .int .i64 P.ak, .bool P.sv, .slice pa pm pc] 36)).alloc (.cells #[] 5)).alloc (.cells #[] 5)) w.heap.size w2.heap.size ao (fun _ => True) (hdI P0) LL N kn h ar cr ∧ N ≤ k ∧ h ≤ k ∧ AvAt (((wr.alloc (.cells #[.int .i64 kk, .slice aa mm cc, .int .i64 P.cl, .int .i64 P.ep, .int .i64 P.bo, .int .i64 P.sq, .int .i64 P.ak, .bool P.sv, .slice pa pm pc] 36)).alloc (.cells #[] 5)).alloc (.cells #[] 5)) wr.heap.size ⟨kk, aa, mm, cc, ys, P, pa, pm, pc⟩ ∧ Below w.heap.size w (((wr.alloc (.cells #[.int .i64 kk, .slice aa mm cc, .int .i64 P.cl, .int .i64 P.ep, .int .i64 P.bo, .int .i64 P.sq, .int .i64 P.ak, .bool P.sv, .slice pa pm pc] 36)).alloc (.cells #[] 5)).alloc (.cells #[] 5))) := ⟨HI.out.1.below hbA, HI.out.2.1.below hbA, HI.out.2.2.1, HI.out.2.2.2, AvAt.below ⟨heap_alloc_new wr _⟩ (below2 _ _ _), below_step hbel hbA⟩
      have e0 := HW0.out.2.2.2.2.1.c0
      clear HI
      go_upto_if 81 with fail
      generalize (((wr.alloc (.cells #[.int .i64 kk, .slice aa mm cc, .int .i64 P.cl, .int .i64 P.ep, .int .i64 P.bo, .int .i64 P.sq, .int .i64 P.ak, .bool P.sv, .slice pa pm pc] 36)).alloc (.cells #[] 5)).alloc (.cells #[] 5)) = w0 at *
      have hnN : n = N - kn := by have h1 := HW0.out.1.len; have h2 := HW0.out.2.1.len; simp at h1; omega
      have hn8 := HW0.out.1.le
      have hkN := HW0.out.2.1.kl
      have hNk := HW0.out.2.2.1
      have hhk := HW0.out.2.2.2.1
      have HnN : Hid (n = N - kn) := hnN
      have HLL : Hid (LL.length = N) := HW0.out.2.1.len
      have hB0 := HW0.out.2.2.2.2.2
      have hgr0 : w2.heap.size < w0.heap.size := HW0.out.2.1.x.lt
      have hg0 : w1.heap.size < w0.heap.size := HW0.out.1.hd.lt
      clear hnN d0 d1 d2 d3 d4 d5 d6 d7 d8 hbA
      go_cut [9, 10, 11, 12, 13, 14, 15, 16, 17] (fun e f x y o z l1 l2 l3 wc => ∃ (E : Int) (O : Bool) (X : List Nat) (ax : Option Addr) (mx cx : Nat) (ay : Option Addr) (my cy : Nat) (ao : Option Addr) (n cap : Nat) (LL : List (List Nat)) (N kn h : Nat) (ar : Option Addr) (cr : Nat), e = .int .i64 E ∧ f = .int .i64 E ∧ x = .slice ax mx cx ∧ y = .slice ay my cy ∧ o = .bool O ∧ z = .bool O ∧ Hid (Rd8 wc ax mx cx X ∧ Rd8 wc ay my cy X ∧ Lk wc w.heap.size w1.heap.size ao n cap (fun _ => True) (hdI P0) (LL.drop kn) N h ∧ Rf wc w.heap.size w2.heap.size ao (fun _ => True) (hdI P0) LL N kn h ar cr ∧ N ≤ k + 1 ∧ h ≤ k + 1) ∧ Below w.heap.size w wc)
      case first =>
        by_cases hk0 : kk = 0
        · subst hk0
          have e1 : (w0.alloc (.cells #[] 5)).cell? ⟨wr.heap.size, 1, none⟩ = some (.slice aa mm cc) := (HW0.out.2.2.2.2.1.below ((Below.refl _ _).alloc (Nat.le_refl _) (.cells #[] 5))).c1
          obtain ⟨E, hE⟩ : ∃ E, pshE mm n = E := ⟨_, rfl⟩
          obtain ⟨n2, hn2⟩ : ∃ n2, pshN mm n n = n2 := ⟨_, rfl⟩
          obtain ⟨N2, hN2⟩ : ∃ N2, pshN mm n N = N2 := ⟨_, rfl⟩
          obtain ⟨LL2, hLL2⟩ : ∃ LL2, pshL mm n LL ys = LL2 := ⟨_, rfl⟩
          have HE : Hid (pshE mm n = E ∧ pshN mm n n = n2 ∧ pshN mm n N = N2 ∧ pshL mm n LL ys = LL2 ∧ pshL mm n (LL.drop kn) ys = LL2.drop kn ∧ LL2.length = N2 ∧ kn ≤ N2 ∧ N2 ≤ N + 1) := ⟨hE, hn2, hN2, hLL2, by rw [← hLL2]; exact psh_drop HLL.out hkN, by rw [← hLL2, ← hN2]; exact psh_len HLL.out, by have := psh_le mm n N; omega, by have := psh_le mm n N; omega⟩
          clear hE hn2 hN2 hLL2
          go_wp2_with (first
            | (go_at_call 13; refine (rpush_any w4 w.heap.size (fun k => k < w0.heap.size ∨ wa.heap.size ≤ k) (hdI P0) ar N cr kn h LL aa mm cc ys R4.r HLL.out (HX1.out.below hB4') (by omega) hkN hB4'.size (fun k hk => .inr (by omega)) n HnN.out hn8 E N2 LL2 HE.out.1 HE.out.2.2.1 HE.out.2.2.2.1).mono ?_; rintro e w5 ⟨ar5, cr5, rfl, hR5, hNx, hb5⟩; have R5 := R4.below hb5; have K5 := K4.below hb5; have O5 := O4.below hb5; have hB5 := below_step hB4' hb5; have s0 := R5.x.c0; have f0 := R5.x.fz 0; have s1 := R5.x.c1; have f1 := R5.x.fz 1; have s2 := R5.x.c2; have f2 := R5.x.fz 2; have s3 := R5.x.c3; have f3 := R5.x.fz 3; have s4 := R5.x.c4; have f4 := R5.x.fz 4; have s5 := R5.x.c5; have f5 := R5.x.fz 5; have s6 := R5.x.c6; have f6 := R5.x.fz 6)
            | (go_at_call 10; refine (push_any wa w.heap.size w1.heap.size ao n cap (fun k => k < w0.heap.size ∨ wa.heap.size ≤ k) (hdI P0) (LL.drop kn) N h KA.out.1 aw mm cw ys KA.out.2.2.1.rd (by omega) (fun k hk => .inr hk) E n2 N2 (LL2.drop kn) HE.out.1 HE.out.2.1 HE.out.2.2.1 HE.out.2.2.2.2.1).mono ?_; rintro e w4 ⟨rfl, ao4, cap4, K4, hO4, hN4⟩; have R4 := KA.out.2.1.link KA.out.1 hO4 hN4; have O4 := KA.out.2.2.1.kt (KA.out.1.ktOff hO4); have A4 := KA.out.2.2.2.1.kt (KA.out.1.ktOff hO4); have hB4' := KA.out.2.2.2.2.trans (KA.out.1.belowB hO4); have hz4 := hO4.size; have g1 : w4.cell? ⟨wr.heap.size, 1, none⟩ = some (.slice aa mm cc) := A4.c1; have r0 := R4.x.c0; have r1 := R4.x.c1; have r2 := R4.x.c2; have r3 := R4.x.c3; have r4 := R4.x.c4; have r5 := R4.x.c5; have r6 := R4.x.c6)
            | (at_builtin; refine wpList_append_rdI _ rfl _ _ 27 rfl w0.heap.size 5 .u8 (.int .u8 0) 1 Try.underlying27 info5 rfl rfl rfl (OwnI.fresh w0 w0.heap.size 5 .u8 (Nat.le_refl _)) ((HX1.out.below hB0).alloc _).rd rfl (by rw [ci_length]; exact hml) (by omega) (by unfold maxLen; omega) (by simp) ?_; intro aw cw wa how' hbw; have how : Own8 wa w0.heap.size aw mm cw ys := ⟨by simpa using how', hml, HX1.out.byte⟩; have hBw : Below w0.heap.size w0 wa := below_alloc hbw; have KA : Hid (Lk wa w.heap.size w1.heap.size ao n cap (fun k => k < w0.heap.size ∨ wa.heap.size ≤ k) (hdI P0) (LL.drop kn) N h ∧ Rf wa w.heap.size w2.heap.size ao (fun k => k < w0.heap.size ∨ wa.heap.size ≤ k) (hdI P0) LL N kn h ar cr ∧ Own8 wa w0.heap.size aw mm cw ys ∧ AvAt wa wr.heap.size ⟨0, aa, mm, cc, ys, P, pa, pm, pc⟩ ∧ Below w.heap.size w wa) := ⟨(HW0.out.1.mono (Nat.le_refl _) (fun k hk _ => .inl hk)).below hBw, (HW0.out.2.1.mono (fun k hk _ => .inl hk)).below hBw, how, HW0.out.2.2.2.2.1.below hBw, below_step hB0 hBw⟩; have hza := hBw.size; clear how how' hbw))
          obtain ⟨R6, hx6⟩ := R5.put (w' := (((((((w5.setCell ⟨w2.heap.size, 0, none⟩ (.int .i64 P0.cl)).setCell ⟨w2.heap.size, 1, none⟩ (.int .i64 P0.ep)).setCell ⟨w2.heap.size, 2, none⟩ (.int .i64 P0.bo)).setCell ⟨w2.heap.size, 3, none⟩ (.bool P0.sv)).setCell ⟨w2.heap.size, 4, none⟩ (.slice ar5 N2 cr5)).setCell ⟨w2.heap.size, 5, none⟩ (.int .i64 (kn : Int))).setCell ⟨w2.heap.size, 6, none⟩ (.int .i64 (h : Int)))) hR5 HE.out.2.2.2.2.2.1 HE.out.2.2.2.2.2.2.1 (fun a b ha hb => by
            rcases hNx a ha with h1 | h1
            · exact R4.ap a b h1 hb
            · have := (K4.ge b hb).2; omega) rfl
          have K6 := K5.sx hx6 R5.x.blk (by decide) (by decide) (by decide)
          have O6 := O5.sx hx6 R5.x.blk (by decide)
          have hB6 : Below w.heap.size w (((((((w5.setCell ⟨w2.heap.size, 0, none⟩ (.int .i64 P0.cl)).setCell ⟨w2.heap.size, 1, none⟩ (.int .i64 P0.ep)).setCell ⟨w2.heap.size, 2, none⟩ (.int .i64 P0.bo)).setCell ⟨w2.heap.size, 3, none⟩ (.bool P0.sv)).setCell ⟨w2.heap.size, 4, none⟩ (.slice ar5 N2 cr5)).setCell ⟨w2.heap.size, 5, none⟩ (.int .i64 (kn : Int))).setCell ⟨w2.heap.size, 6, none⟩ (.int .i64 (h : Int))) := put7_below _ _ _ _ R5.bg hB5 _ _ _ _ _ _ _
          have HOW : Hid (Own8 wa w0.heap.size aw mm cw ys ∧ wa.heap.size ≤ w5.heap.size) := ⟨KA.out.2.2.1, by have := hb5.size; omega⟩
          have H6 : Hid (Lk (((((((w5.setCell ⟨w2.heap.size, 0, none⟩ (.int .i64 P0.cl)).setCell ⟨w2.heap.size, 1, none⟩ (.int .i64 P0.ep)).setCell ⟨w2.heap.size, 2, none⟩ (.int .i64 P0.bo)).setCell ⟨w2.heap.size, 3, none⟩ (.bool P0.sv)).setCell ⟨w2.heap.size, 4, none⟩ (.slice ar5 N2 cr5)).setCell ⟨w2.heap.size, 5, none⟩ (.int .i64 (kn : Int))).setCell ⟨w2.heap.size, 6, none⟩ (.int .i64 (h : Int))) w.heap.size w1.heap.size ao4 n2 cap4 (fun k => k < w0.heap.size ∨ wa.heap.size ≤ k) (hdI P0) (LL2.drop kn) N2 h ∧ Rf (((((((w5.setCell ⟨w2.heap.size, 0, none⟩ (.int .i64 P0.cl)).setCell ⟨w2.heap.size, 1, none⟩ (.int .i64 P0.ep)).setCell ⟨w2.heap.size, 2, none⟩ (.int .i64 P0.bo)).setCell ⟨w2.heap.size, 3, none⟩ (.bool P0.sv)).setCell ⟨w2.heap.size, 4, none⟩ (.slice ar5 N2 cr5)).setCell ⟨w2.heap.size, 5, none⟩ (.int .i64 (kn : Int))).setCell ⟨w2.heap.size, 6, none⟩ (.int .i64 (h : Int))) w.heap.size w2.heap.size ao4 (fun k => k < w0.heap.size ∨ wa.heap.size ≤ k) (hdI P0) LL2 N2 kn h ar5 cr5 ∧ ∃ xs, Own8 (((((((w5.setCell ⟨w2.heap.size, 0, none⟩ (.int .i64 P0.cl)).setCell ⟨w2.heap.size, 1, none⟩ (.int .i64 P0.ep)).setCell ⟨w2.heap.size, 2, none⟩ (.int .i64 P0.bo)).setCell ⟨w2.heap.size, 3, none⟩ (.bool P0.sv)).setCell ⟨w2.heap.size, 4, none⟩ (.slice ar5 N2 cr5)).setCell ⟨w2.heap.size, 5, none⟩ (.int .i64 (kn : Int))).setCell ⟨w2.heap.size, 6, none⟩ (.int .i64 (h : Int))) w0.heap.size aw mm cw xs) := ⟨K6, R6, _, O6⟩
          clear K4 R4 O4 A4 K5 R5 O5 K6 R6 O6 hx6 g1 r0 r1 r2 r3 r4 r5 r6 s0 s1 s2 s3 s4 s5 s6 f0 f1 f2 f3 f4 f5 f6 KA hR5
          obtain ⟨wA, hwA⟩ : ∃ x, x = wr := ⟨wr, rfl⟩
          subst hwA
          generalize (((((((w5.setCell ⟨w2.heap.size, 0, none⟩ (.int .i64 P0.cl)).setCell ⟨w2.heap.size, 1, none⟩ (.int .i64 P0.ep)).setCell ⟨w2.heap.size, 2, none⟩ (.int .i64 P0.bo)).setCell ⟨w2.heap.size, 3, none⟩ (.bool P0.sv)).setCell ⟨w2.heap.size, 4, none⟩ (.slice ar5 N2 cr5)).setCell ⟨w2.heap.size, 5, none⟩ (.int .i64 (kn : Int))).setCell ⟨w2.heap.size, 6, none⟩ (.int .i64 (h : Int))) = W6 at *
          go_loopw [98] (fun t wq => ∃ k2 : Nat, k2 ≤ mm ∧ t = .int .i64 k2 ∧ Hid (Lk wq w.heap.size w1.heap.size ao4 n2 cap4 (fun k => k < w0.heap.size ∨ wa.heap.size ≤ k) (hdI P0) (LL2.drop kn) N2 h ∧ Rf wq w.heap.size w2.heap.size ao4 (fun k => k < w0.heap.size ∨ wa.heap.size ≤ k) (hdI P0) LL2 N2 kn h ar5 cr5 ∧ ∃ xs, Own8 wq w0.heap.size aw mm cw xs) ∧ Below w.heap.size w wq) (fun t _ => mm - (intOf t).toNat)
          case atStart => exact ⟨0, Nat.zero_le _, rfl, H6, hB6⟩
          case round =>
            obtain ⟨k2, hk2, rfl, HX, hbq⟩ := hrel
            by_cases hlt2 : k2 < mm
            · obtain ⟨oo, rfl, ho1, ho2⟩ := HOW.out.1.at0 (by omega)
              obtain ⟨xs, hxs⟩ := HX.out.2.2
              have hfz := OwnI.frozenAt hxs.own k2
              obtain ⟨y, hy, hcy⟩ := hxs.cellAt k2 hlt2
              obtain ⟨z, hz256, hwy⟩ : ∃ z : Nat, z < 256 ∧ IntKind.u8.wrap ((y : Int) + 1) = (z : Int) := ⟨(y + 1) % 256, by omega, by rw [IntKind.wrap_u8]; omega⟩
              have hnv : ¬ (fun k => k < w0.heap.size ∨ wa.heap.size ≤ k) oo := by simp only; omega
              go_wp2
              go_roundw
              case rel => exact ⟨k2 + 1, by omega, by go_num, ⟨HX.out.1.avoid _ _ _ hnv (hxs.tyx _ rfl), HX.out.2.1.avoid _ _ _ hnv (hxs.tyx _ rfl), _, hxs.put k2 z hz256⟩, hbq.setCell (p := ⟨oo, k2, none⟩) (by have := hB0.size; simp; omega) _⟩
              case measure => simp [intOf]; omega
            · go_wp2
              go_meet
              exact ⟨E, false, [], _, _, _, _, _, _, ao4, n2, cap4, LL2, N2, kn, h, ar5, cr5, rfl, rfl, rfl, rfl, rfl, rfl, ⟨rd8_zero _ _, rd8_zero _ _, HX.out.1.mono (Nat.le_refl _) (fun _ _ _ => trivial), HX.out.2.1.mono (fun _ _ _ => trivial), by have := HE.out.2.2.2.2.2.2.2; omega, by omega⟩, hbq⟩
        · skip
          obtain ⟨b, hb⟩ : ∃ b, gotB (hdI P0) N h P = b := ⟨_, rfl⟩
          obtain ⟨k2, hk2⟩ : ∃ k2, gotK (hdI P0) N kn P = k2 := ⟨_, rfl⟩
          obtain ⟨h2, hh2⟩ : ∃ h2, gotH (hdI P0) N h P = h2 := ⟨_, rfl⟩
          obtain ⟨X, hX⟩ : ∃ X, gotX (hdI P0) N h P = X := ⟨_, rfl⟩
          obtain ⟨n2, hn2⟩ : ∃ n2, n - gotC (hdI P0) n N P = n2 := ⟨_, rfl⟩
          have HG : Hid (gotB (hdI P0) N h P = b ∧ gotK (hdI P0) N kn P = k2 ∧ gotH (hdI P0) N h P = h2 ∧ gotX (hdI P0) N h P = X ∧ n - gotC (hdI P0) n N P = n2 ∧ (LL.drop kn).drop (gotC (hdI P0) n N P) = LL.drop k2 ∧ k2 ≤ N ∧ h2 ≤ h + 1) := ⟨hb, hk2, hh2, hX, hn2, by rw [← hk2]; exact (got_drop (hdI P0) LL n N kn P hkN HnN.out).1, by rw [← hk2]; exact (got_le (hdI P0) N kn P hkN).2, by rw [← hh2]; exact gotH_le _ _ _ _⟩
          obtain ⟨ay, my, cy, hU, hRy⟩ : ∃ ay my cy, gotU b (.slice pa pm pc) = .slice ay my cy ∧ Rd8 w ay my cy X := by
            rw [← hX, ← hb]
            unfold gotX gotU
            split
            · exact ⟨pa, pm, pc, rfl, HX3.out⟩
            · exact ⟨none, 0, 0, rfl, Rd8.empty w⟩
          have HU : Hid (gotU b (.slice pa pm pc) = .slice ay my cy) := hU
          have HRy : Hid (Rd8 w ay my cy X) := hRy
          clear hb hk2 hh2 hX hn2 hU hRy
          have kne : (kk == 0) = false := by simpa using hk0
          have q2 : w0.cell? ⟨wr.heap.size, 2, none⟩ = some (.int .i64 P.cl) := HW0.out.2.2.2.2.1.c2
          have q3 : w0.cell? ⟨wr.heap.size, 3, none⟩ = some (.int .i64 P.ep) := HW0.out.2.2.2.2.1.c3
          have q4 : w0.cell? ⟨wr.heap.size, 4, none⟩ = some (.int .i64 P.bo) := HW0.out.2.2.2.2.1.c4
          have q5 : w0.cell? ⟨wr.heap.size, 5, none⟩ = some (.int .i64 P.sq) := HW0.out.2.2.2.2.1.c5
          have q6 : w0.cell? ⟨wr.heap.size, 6, none⟩ = some (.int .i64 P.ak) := HW0.out.2.2.2.2.1.c6
          have q7 : w0.cell? ⟨wr.heap.size, 7, none⟩ = some (.bool P.sv) := HW0.out.2.2.2.2.1.c7
          have q8 : w0.cell? ⟨wr.heap.size, 8, none⟩ = some (.slice pa pm pc) := HW0.out.2.2.2.2.1.c8
          have HC0 : Hid (C7 (w0.alloc (pkO P (.slice pa pm pc))) w0.heap.size 30 (.int .i64 P.cl) (.int .i64 P.ep) (.int .i64 P.bo) (.int .i64 P.sq) (.int .i64 P.ak) (.bool P.sv) (.slice pa pm pc)) := C7.new _ _ _ _ _ _ _ _ _
          have HBp : Hid (Below w0.heap.size w0 (w0.alloc (pkO P (.slice pa pm pc)))) := (Below.refl _ _).alloc (Nat.le_refl _) _
          have HBq : Hid (Below (w0.alloc (pkO P (.slice pa pm pc))).heap.size (w0.alloc (pkO P (.slice pa pm pc))) ((w0.alloc (pkO P (.slice pa pm pc))).alloc (.cells #[] 5))) := (Below.refl _ _).alloc (Nat.le_refl _) _
          have p6 : ((w0.alloc (pkO P (.slice pa pm pc))).alloc (.cells #[] 5)).cell? ⟨w0.heap.size, 6, none⟩ = some (.slice pa pm pc) := (HC0.out.below HBq.out).c6
          go_wp2_with (first
            | (go_at_call 15; refine (rgot_any w4 (hdI P0) ar N cr kn h P (.slice pa pm pc) HX5.out b k2 h2 HG.out.1 HG.out.2.1 HG.out.2.2.1).mono ?_; rw [HU.out]; rintro e w5 ⟨rfl, hb5⟩; have R5 := R4.below hb5; have K5 := K4.below hb5; have hB5 := below_step hB4' hb5; have hyx5 := hyx.below hb5; have s0 := R5.x.c0; have f0 := R5.x.fz 0; have s1 := R5.x.c1; have f1 := R5.x.fz 1; have s2 := R5.x.c2; have f2 := R5.x.fz 2; have s3 := R5.x.c3; have f3 := R5.x.fz 3; have s4 := R5.x.c4; have f4 := R5.x.fz 4; have s5 := R5.x.c5; have f5 := R5.x.fz 5; have s6 := R5.x.c6; have f6 := R5.x.fz 6)
            | (go_at_call 14; refine (got_is _ w.heap.size w1.heap.size ao n cap (fun _ => True) (hdI P0) (LL.drop kn) N h KB.out.1 P (.slice a2 pm c2) _ KB.out.2.2.2.1 (by omega) (by omega) b n2 h2 X (LL.drop k2) HG.out.1 HG.out.2.2.2.2.1 HG.out.2.2.2.2.2.1 HG.out.2.2.1 HG.out.2.2.2.1).mono ?_; rintro e w4 ⟨vx, rfl, hyx, K4, hO4⟩; have hyx' := hyx; obtain ⟨ax, mx, cx, rfl, hrx, -⟩ := hyx'; have R4 := KB.out.2.1.link KB.out.1 hO4 (Nw.refl _ _); have A4 := KB.out.2.2.1.kt (KB.out.1.ktOff hO4); have hB4' := KB.out.2.2.2.2.trans (KB.out.1.belowB hO4); have r0 := R4.x.c0; have r1 := R4.x.c1; have r2 := R4.x.c2; have r3 := R4.x.c3; have r4 := R4.x.c4; have r5 := R4.x.c5; have r6 := R4.x.c6; have g2 : w4.cell? ⟨wr.heap.size, 2, none⟩ = some (.int .i64 P.cl) := A4.c2; have g3 : w4.cell? ⟨wr.heap.size, 3, none⟩ = some (.int .i64 P.ep) := A4.c3; have g4 : w4.cell? ⟨wr.heap.size, 4, none⟩ = some (.int .i64 P.bo) := A4.c4; have g5 : w4.cell? ⟨wr.heap.size, 5, none⟩ = some (.int .i64 P.sq) := A4.c5; have g6 : w4.cell? ⟨wr.heap.size, 6, none⟩ = some (.int .i64 P.ak) := A4.c6; have g7 : w4.cell? ⟨wr.heap.size, 7, none⟩ = some (.bool P.sv) := A4.c7; have g8 : w4.cell? ⟨wr.heap.size, 8, none⟩ = some (.slice pa pm pc) := A4.c8)
            | (at_builtin; refine wpList_append_rdI _ rfl _ _ 27 rfl (w0.heap.size + 1) 5 .u8 (.int .u8 0) 1 Try.underlying27 info5 rfl rfl rfl (OwnI.freshq (w0.alloc (pkO P (.slice pa pm pc))) (w0.heap.size + 1) (by simp) _ (by simp)) ((((HX3.out.below hB0).below HBp.out)).alloc _).rd rfl (by rw [ci_length]; exact hpl) (by omega) (by unfold maxLen; omega) (by simp) ?_; intro a2 c2 wa how' hbw; have how : Own8 wa (w0.heap.size + 1) a2 pm c2 P.bs := ⟨by simpa using how', hpl, HX3.out.byte⟩; have hBw : Below (w0.alloc (pkO P (.slice pa pm pc))).heap.size (w0.alloc (pkO P (.slice pa pm pc))) wa := HBq.out.trans (hbw.mono (by simp)); have hBz : Below w0.heap.size w0 wa := below_step HBp.out hBw; have hCa := HC0.out.below hBw; have hx := Sx.setCell wa w0.heap.size 6 (.slice a2 pm c2); have KB : Hid (Lk (wa.setCell ⟨w0.heap.size, 6, none⟩ (.slice a2 pm c2)) w.heap.size w1.heap.size ao n cap (fun _ => True) (hdI P0) (LL.drop kn) N h ∧ Rf (wa.setCell ⟨w0.heap.size, 6, none⟩ (.slice a2 pm c2)) w.heap.size w2.heap.size ao (fun _ => True) (hdI P0) LL N kn h ar cr ∧ AvAt (wa.setCell ⟨w0.heap.size, 6, none⟩ (.slice a2 pm c2)) wr.heap.size ⟨kk, aa, mm, cc, ys, P, pa, pm, pc⟩ ∧ By (wa.setCell ⟨w0.heap.size, 6, none⟩ (.slice a2 pm c2)) (fun k => w0.heap.size + 1 ≤ k) (.slice a2 pm c2) P.bs ∧ Below w.heap.size w (wa.setCell ⟨w0.heap.size, 6, none⟩ (.slice a2 pm c2))) := ⟨(HW0.out.1.below hBz).sx hx hCa.blk (by decide) (by decide) (by decide), (HW0.out.2.1.below hBz).sx hx hCa.blk (by decide) (by decide) (by decide), (HW0.out.2.2.2.2.1.below hBz).sx hx hCa.blk (by decide), (By.own how).keepx hx.size (hx.k5 hCa.blk (by decide)), (below_step hB0 hBz).setCell (p := ⟨w0.heap.size, 6, none⟩) hB0.size _⟩; have c0' := hCa.c0; have c1' := hCa.c1; have c2' := hCa.c2; have c3' := hCa.c3; have c4' := hCa.c4; have c5' := hCa.c5; have c6' := hCa.c6; have cf' := hCa.fz 6; clear how how' hbw hx))
          obtain ⟨R6, hx6⟩ := R5.put (w' := (((((((w5.setCell ⟨w2.heap.size, 0, none⟩ (.int .i64 P0.cl)).setCell ⟨w2.heap.size, 1, none⟩ (.int .i64 P0.ep)).setCell ⟨w2.heap.size, 2, none⟩ (.int .i64 P0.bo)).setCell ⟨w2.heap.size, 3, none⟩ (.bool P0.sv)).setCell ⟨w2.heap.size, 4, none⟩ (.slice ar N cr)).setCell ⟨w2.heap.size, 5, none⟩ (.int .i64 (k2 : Int))).setCell ⟨w2.heap.size, 6, none⟩ (.int .i64 (h2 : Int)))) (LL2 := LL) (N2 := N) (kn2 := k2) (h2 := h2) (ar2 := ar) (cr2 := cr) R5.r HLL.out HG.out.2.2.2.2.2.2.1 R5.ap rfl
          have K6 := K5.sx hx6 R5.x.blk (by decide) (by decide) (by decide)
          have hB6 : Below w.heap.size w (((((((w5.setCell ⟨w2.heap.size, 0, none⟩ (.int .i64 P0.cl)).setCell ⟨w2.heap.size, 1, none⟩ (.int .i64 P0.ep)).setCell ⟨w2.heap.size, 2, none⟩ (.int .i64 P0.bo)).setCell ⟨w2.heap.size, 3, none⟩ (.bool P0.sv)).setCell ⟨w2.heap.size, 4, none⟩ (.slice ar N cr)).setCell ⟨w2.heap.size, 5, none⟩ (.int .i64 (k2 : Int))).setCell ⟨w2.heap.size, 6, none⟩ (.int .i64 (h2 : Int))) := put7_below _ _ _ _ R5.bg hB5 _ _ _ _ _ _ _
          have hrx6 : Rd8 (((((((w5.setCell ⟨w2.heap.size, 0, none⟩ (.int .i64 P0.cl)).setCell ⟨w2.heap.size, 1, none⟩ (.int .i64 P0.ep)).setCell ⟨w2.heap.size, 2, none⟩ (.int .i64 P0.bo)).setCell ⟨w2.heap.size, 3, none⟩ (.bool P0.sv)).setCell ⟨w2.heap.size, 4, none⟩ (.slice ar N cr)).setCell ⟨w2.heap.size, 5, none⟩ (.int .i64 (k2 : Int))).setCell ⟨w2.heap.size, 6, none⟩ (.int .i64 (h2 : Int))) ax mx cx X := by
            obtain ⟨ax', mx', cx', e', hr', -⟩ := (By.keepx (w' := (((((((w5.setCell ⟨w2.heap.size, 0, none⟩ (.int .i64 P0.cl)).setCell ⟨w2.heap.size, 1, none⟩ (.int .i64 P0.ep)).setCell ⟨w2.heap.size, 2, none⟩ (.int .i64 P0.bo)).setCell ⟨w2.heap.size, 3, none⟩ (.bool P0.sv)).setCell ⟨w2.heap.size, 4, none⟩ (.slice ar N cr)).setCell ⟨w2.heap.size, 5, none⟩ (.int .i64 (k2 : Int))).setCell ⟨w2.heap.size, 6, none⟩ (.int .i64 (h2 : Int)))) hyx5 hx6.size (hx6.k5 R5.x.blk (by decide)))
            simp only [Value.slice.injEq] at e'
            obtain ⟨rfl, rfl, rfl⟩ := e'
            exact hr'
          go_meet
          exact ⟨0, b, X, ax, mx, cx, ay, my, cy, ao, n2, cap, LL, N, k2, h2, ar, cr, rfl, rfl, rfl, rfl, rfl, rfl, ⟨hrx6, HRy.out.below hB6, K6, R6, by omega, by have := HG.out.2.2.2.2.2.2.2; omega⟩, hB6⟩
      case rest =>
        obtain ⟨E, O, X, ax, mx, cx, ay, my, cy, ao', n', cap', LL', N', kn', h', ar', cr', rfl, rfl, rfl, rfl, rfl, rfl, HW, hBw⟩ := hcut
        have hd7 : n' = N' - kn' := by have h1 := HW.out.2.2.1.len; have h2 := HW.out.2.2.2.1.len; simp at h1; omega
        have hkl := HW.out.2.2.2.1.kl
        have hNb := HW.out.2.2.2.2.1
        have hhb := HW.out.2.2.2.2.2
        have hL8 := HW.out.2.2.1.le
        have HK : Hid (∀ W' : World, Below wc.heap.size wc W' → Lk W' w.heap.size w1.heap.size ao' n' cap' (fun _ => True) (hdI P0) (LL'.drop kn') N' h' ∧ Rf W' w.heap.size w2.heap.size ao' (fun _ => True) (hdI P0) LL' N' kn' h' ar' cr') := fun W' hb => ⟨HW.out.2.2.1.below hb, HW.out.2.2.2.1.below hb⟩
        have HS : Hid (∀ W' : World, Below wc.heap.size wc W' → (W'.cell? ⟨w2.heap.size, 0, none⟩ = some (.int .i64 P0.cl) ∧ W'.cell? ⟨w2.heap.size, 1, none⟩ = some (.int .i64 P0.ep) ∧ W'.cell? ⟨w2.heap.size, 2, none⟩ = some (.int .i64 P0.bo) ∧ W'.cell? ⟨w2.heap.size, 3, none⟩ = some (.bool P0.sv) ∧ W'.cell? ⟨w2.heap.size, 4, none⟩ = some (.slice ar' N' cr') ∧ W'.cell? ⟨w2.heap.size, 5, none⟩ = some (.int .i64 (kn' : Int)) ∧ W'.cell? ⟨w2.heap.size, 6, none⟩ = some (.int .i64 (h' : Int)) ∧ (convert 27 9 (.slice ax mx cx)).run Try.prog W' = .ok (.string (strOfNums (ci X))) W' ∧ (convert 27 9 (.slice ay my cy)).run Try.prog W' = .ok (.string (strOfNums (ci X))) W')) := fun W' hb => by
          have t := (HK.out W' hb).2.x
          exact ⟨t.c0, t.c1, t.c2, t.c3, t.c4, t.c5, t.c6, (HW.out.1.below hb).str, (HW.out.2.1.below hb).str⟩
        have HPL : Hid ((pksOf (hdI P0) (LL'.drop kn') N' h').length ≤ 1000) := by
          unfold Hid pksOf
          split
          · simp
          · rw [pksFrom_length]
            have := HW.out.2.2.2.1.len
            simp; omega
        have hBd : Below wc.heap.size wc wc.drew := (Below.refl _ _).drew
        have hE1 : (E != E) = false := by simp
        have hn1 : ((n' : Int) != (N' : Int) - (kn' : Int)) = false := by simp; omega
        have hwn : IntKind.i64.wrap ((N' : Int) - (kn' : Int)) = (N' : Int) - (kn' : Int) := by rw [IntKind.wrap_i64]; omega
        clear hd7
        go_wp2
        first
          | go_region_held (fun W' => (W'.cell? ⟨w2.heap.size, 0, none⟩ = some (.int .i64 P0.cl) ∧ W'.cell? ⟨w2.heap.size, 1, none⟩ = some (.int .i64 P0.ep) ∧ W'.cell? ⟨w2.heap.size, 2, none⟩ = some (.int .i64 P0.bo) ∧ W'.cell? ⟨w2.heap.size, 3, none⟩ = some (.bool P0.sv) ∧ W'.cell? ⟨w2.heap.size, 4, none⟩ = some (.slice ar' N' cr') ∧ W'.cell? ⟨w2.heap.size, 5, none⟩ = some (.int .i64 (kn' : Int)) ∧ W'.cell? ⟨w2.heap.size, 6, none⟩ = some (.int .i64 (h' : Int)) ∧ (convert 27 9 (.slice ax mx cx)).run Try.prog W' = .ok (.string (strOfNums (ci X))) W' ∧ (convert 27 9 (.slice ay my cy)).run Try.prog W' = .ok (.string (strOfNums (ci X))) W'))
              (first | with_reducible exact HS.out _ hBd | with_reducible exact HS.out _ hB9 | with_reducible exact HS.out _ hB10 | with_reducible exact HS.out _ hB11 | fail)
              (first
                | (go_at_call 20; refine (heard_any _ _ _ _ _ _ _ _ _ _ _ (HK.out _ hB11).1).mono ?_; rintro e w' ⟨rfl, hw⟩; subst w')
                | (go_at_call 12; refine (sent_any _ _ _ _ _ _ _ _ _ _ _ (HK.out _ hB11).1).mono ?_; rintro e w' ⟨rfl, hw⟩; subst w')
                | (go_at_call 19; refine (open_any _ _ _ _ _ _ _ _ _ _ _ (HK.out _ hB11).1).mono ?_; rintro e w' ⟨rfl, hw⟩; subst w')
                | (go_at_call 16; refine (samePackets_same w10 _ _ _ _ v9 v10 _ (hp9.below hb10) hp10 HPL.out).mono ?_; rintro e w11 ⟨rfl, hb11⟩; have hB11 : Below wc.heap.size wc w11 := below_step hB10 hb11)
                | (go_at_call 18; refine (rpackets_any w9 w.heap.size (fun _ => True) (hdI P0) ar' N' cr' kn' h' LL' (HK.out _ hB9).2.r (HK.out _ hB9).2.len hkl (by omega)).mono ?_; rintro e w10 ⟨v10, rfl, hp10, hb10⟩; have hB10 : Below wc.heap.size wc w10 := below_step hB9 hb10)
                | (go_at_call 17; refine (packets_any wc.drew _ _ _ _ _ _ _ _ _ _ (HK.out _ hBd).1).mono ?_; rintro e w9 ⟨v9, rfl, hp9, hb9⟩; have hB9 : Below wc.heap.size wc w9 := ⟨hb9.os, hb9.tape, hb9.output, hb9.size, hb9.block⟩)
                | fail)
          | fail
        go_wp2
        go_roundw
        case rel => exact ⟨k + 1, ao', n', cap', LL', N', kn', h', ar', cr', by omega, by go_num, ⟨(HK.out _ hB11).1, (HK.out _ hB11).2, hNb, hhb⟩, below_step hBw hB11⟩
        case measure => simp [intOf]; omega
    · go_wp2
      go_ret
      exact ⟨rfl, hbel⟩

end Go.Proofs.Ytgdlejeopdipiaa
