/- Whatever is done with a drive: the walk. -/
import Derived.Test.YtnapkcejpllmcaaR9
import Derived.Test.YtnapkcejpllmcaaAc
import Derived.Deep.RegionHeldLaw
namespace Go.Proofs.Ytnapkcejpllmcaa
open Go.RowKit
set_option linter.unusedVariables false

/-- An act lies in a block. -/
structure AvAt (w : World) (p : Nat) (kk nn : Int) (v : Value) : Prop where
  c0 : w.cell? ⟨p, 0, none⟩ = some (.int .i64 kk)
  c1 : w.cell? ⟨p, 1, none⟩ = some (.int .i64 nn)
  c2 : w.cell? ⟨p, 2, none⟩ = some v
  lt : p < w.heap.size

theorem AvAt.of {w : World} {p : Nat} {kk nn : Int} {v : Value} (h : w.heap[p]? = some (.cells #[.int .i64 kk, .int .i64 nn, v] 37)) : AvAt w p kk nn v :=
  ⟨by rw [cell_of_row _ _ _ _ _ _ h]; rfl, by rw [cell_of_row _ _ _ _ _ _ h]; rfl, by rw [cell_of_row _ _ _ _ _ _ h]; rfl, (Array.getElem?_eq_some_iff.1 h).1⟩
theorem AvAt.block {w w' : World} {p : Nat} {kk nn : Int} {v : Value} (h : AvAt w p kk nn v) (hb : w'.heap[p]? = w.heap[p]?) (hs : w.heap.size ≤ w'.heap.size) : AvAt w' p kk nn v :=
  ⟨(World.cell?_of_block (w := w) hb).trans h.c0, (World.cell?_of_block (w := w) hb).trans h.c1, (World.cell?_of_block (w := w) hb).trans h.c2, Nat.lt_of_lt_of_le h.lt hs⟩
theorem AvAt.below {w w' : World} {p : Nat} {kk nn : Int} {v : Value} (h : AvAt w p kk nn v) (hb : Below w.heap.size w w') : AvAt w' p kk nn v := h.block (hb.block p h.lt) hb.size
theorem AvAt.off {w w' : World} {p g : Nat} {kk nn : Int} {v : Value} (h : AvAt w p kk nn v) (hb : Off g w w') (hne : p ≠ g) : AvAt w' p kk nn v := h.block (hb.block p h.lt hne) hb.size
theorem AvAt.other {w : World} {p : Nat} {kk nn : Int} {v : Value} (h : AvAt w p kk nn v) (a : Addr) (u : Value) (hne : p ≠ a.block) : AvAt (w.setCell a u) p kk nn v := h.block (Below.heap_setCell _ _ _ _ hne) (by simp [World.setCell])
theorem Bx.off {w w' : World} {p g : Nat} {x0 x1 x2 : Value} (h : Bx w p x0 x1 x2) (hb : Off g w w') (hne : p ≠ g) : Bx w' p x0 x1 x2 := h.block (hb.block p h.lt hne) hb.size
theorem Bx.belowS {w w' : World} {p : Nat} {x0 x1 x2 : Value} (h : Bx w p x0 x1 x2) (hb : Below w.heap.size w w') : Bx w' p x0 x1 x2 := h.below hb h.lt

theorem all_N (g : Nat) (V : Nat → Prop) (L : List Sec) (N : Nat) (w : World) (h : Drv w g V L) (hN : L.length = N) :
    Calls Try.prog 21 #[dp g] w fun e w' => ∃ ao cap ps, e = .returned (.slice ao N cap) ∧ Own88 w' w.heap.size ao cap ps ∧ ps.map Pt.bs = L.map Sec.b ∧ Below w.heap.size w w' := by
  subst hN
  exact all_any g V L w h

theorem loose_N (g : Nat) (V : Nat → Prop) (L : List Sec) (N : Nat) (w : World) (h : Drv w g V L) (hN : L.length = N) :
    Calls Try.prog 23 #[dp g] w fun e w' => ∃ ao cap, e = .returned (.slice ao (looseK L N).length cap) ∧ OwnI w' w.heap.size 3 .i64 ao cap (looseK L N) ∧ Below w.heap.size w w' := by
  subst hN
  exact loose_any g V L w h

/-- What a round knows behind its act. -/
structure RuT (w W : World) (g rv av : Nat) (V : Nat → Prop) (a0 : Option Addr) (c0 : Nat) (a1 : Option Addr) (c1 : Nat) (a2 : Option Addr) (c2 N : Nat) (kk nn : Int) (v : Value) (L : List Sec) : Prop where
  d : Drv W g V L
  r : Ref W V a0 c0 a1 c1 a2 c2 L
  b : Bx W rv (.slice a0 N c0) (.slice a1 N c1) (.slice a2 N c2)
  a : AvAt W av kk nn v
  bel : Below w.heap.size w W
  len : L.length = N
  good : Good L

theorem RuT.below {w W W' : World} {g rv av : Nat} {V : Nat → Prop} {a0 a1 a2 : Option Addr} {c0 c1 c2 N : Nat} {kk nn : Int} {v : Value} {L : List Sec} (h : RuT w W g rv av V a0 c0 a1 c1 a2 c2 N kk nn v L) (hb : Below W.heap.size W W') : RuT w W' g rv av V a0 c0 a1 c1 a2 c2 N kk nn v L :=
  ⟨h.d.below hb, h.r.below hb, h.b.belowS hb, h.a.below hb, below_step h.bel hb, h.len, h.good⟩

theorem RuT.store {w W : World} {g rv av : Nat} {V : Nat → Prop} {a0 a1 a2 : Option Addr} {c0 c1 c2 N : Nat} {kk nn : Int} {v x0 x1 x2 : Value} {L : List Sec} (hd : Drv W g V L) (hr : Ref W V a0 c0 a1 c1 a2 c2 L) (hb : Bx W rv x0 x1 x2) (ha : AvAt W av kk nn v) (hbel : Below w.heap.size w W) (hlen : L.length = N) (hgood : Good L) (nV : ¬ V rv) (n0 : rv ≠ g) (n1 : rv ≠ g + 1) (nav : av ≠ rv) (hw : w.heap.size ≤ rv) :
    RuT w (((W.setCell ⟨rv, 0, none⟩ (.slice a0 N c0)).setCell ⟨rv, 1, none⟩ (.slice a1 N c1)).setCell ⟨rv, 2, none⟩ (.slice a2 N c2)) g rv av V a0 c0 a1 c1 a2 c2 N kk nn v L :=
  ⟨((hd.other _ _ nV n0 n1).other _ _ nV n0 n1).other _ _ nV n0 n1, ((hr.kept (Kept.setCell _ _ _ nV)).kept (Kept.setCell _ _ _ nV)).kept (Kept.setCell _ _ _ nV), hb.put _ _ _, ((ha.other _ _ nav).other _ _ nav).other _ _ nav, ((hbel.setCell hw _).setCell hw _).setCell hw _, hlen, hgood⟩

theorem RuT.other {w W : World} {g rv av : Nat} {V : Nat → Prop} {a0 a1 a2 : Option Addr} {c0 c1 c2 N : Nat} {kk nn : Int} {v : Value} {L : List Sec} (h : RuT w W g rv av V a0 c0 a1 c1 a2 c2 N kk nn v L) (a : Addr) (u : Value) (nV : ¬ V a.block) (n0 : a.block ≠ g) (n1 : a.block ≠ g + 1) (n2 : rv ≠ a.block) (n3 : av ≠ a.block) (hw : w.heap.size ≤ a.block) : RuT w (W.setCell a u) g rv av V a0 c0 a1 c1 a2 c2 N kk nn v L :=
  ⟨h.d.other _ _ nV n0 n1, h.r.kept (Kept.setCell _ _ _ nV), h.b.other _ _ n2, h.a.other _ _ n3, h.bel.setCell hw _, h.len, h.good⟩

theorem RuT.mono {w W : World} {g rv av : Nat} {V U : Nat → Prop} {a0 a1 a2 : Option Addr} {c0 c1 c2 N : Nat} {kk nn : Int} {v : Value} {L : List Sec} (h : RuT w W g rv av V a0 c0 a1 c1 a2 c2 N kk nn v L) (hv : ∀ k, k < W.heap.size → V k → U k) (hg : ¬ U g) : RuT w W g rv av U a0 c0 a1 c1 a2 c2 N kk nn v L :=
  ⟨h.d.mono hv hg, h.r.mono hv, h.b, h.a, h.bel, h.len, h.good⟩

theorem Own8.setB {w : World} {base : Nat} {ao : Option Addr} {n cap : Nat} {bs : List Nat} (h : Own8 w base ao n cap bs) (a : Addr) (u : Value) (ha : a.block < base) : Own8 (w.setCell a u) base ao n cap bs := ⟨OwnS.set_below h.own a u ha, h.len, h.byte⟩

set_option maxRecDepth 100000 in
set_option maxHeartbeats 51200000 in
theorem runs_walk (many : Int) (a1 : Option Addr) (c1 n1 : Nat) (A : List ActG) (w : World) (hA : ActsAt w a1 A) (hn : A.length = n1) (hm : n1 ≤ 200) :
    Calls Try.prog 4 #[.int .i64 many, .slice a1 n1 c1] w fun e w' => e = .returned (.bool true) ∧ Below w.heap.size w w' := by
  have HA : Hid (ActsAt w a1 A) := hA
  clear hA
  have hN : newN many ≤ 6 := by unfold newN; omega
  generalize hNe : newN many = N at *
  have HNe : Hid (newN many = N) := hNe
  clear hNe
  go_enter Try.func4, Try.ntmps4
  go_wp2_with (first
    | (go_at_call 10; refine (alive_any _).mono ?_; rintro e w1 ⟨rfl, hb1⟩; have hs1 := hb1.size)
    | (go_at_call 8; refine (new_any many _).mono ?_; rintro e w2 ⟨rfl, hD, hS2, hb2⟩; rw [HNe.out] at hD; have HD := (show Hid _ from hD); have hs2 : w1.heap.size + 2 ≤ w2.heap.size := (by omega); clear hS2 hD)
    | (go_at_call 12; refine (refNew_any many _).mono ?_; rintro e w3 ⟨A0, C0, A1, C1, A2, C2, rfl, hR3, hb3⟩; rw [HNe.out] at hR3; rw [HNe.out]; have hs3 := hb3.size))
  have hB3 : Below w.heap.size w w3 := below_step (below_step hb1 hb2) hb3
  have hD3 : Drv w3 w1.heap.size (fun k => k ≠ w1.heap.size ∧ k ≠ w1.heap.size + 1 ∧ k ≠ w3.heap.size) (List.replicate N Sec.e) := (HD.out (fun k => k ≠ w1.heap.size ∧ k ≠ w1.heap.size + 1 ∧ k ≠ w3.heap.size) (by simp)).below hb3
  have hR3' := hR3.mono (U := (fun k => k ≠ w1.heap.size ∧ k ≠ w1.heap.size + 1 ∧ k ≠ w3.heap.size)) fun k hk hv => ⟨by omega, by omega, by omega⟩
  have hal : Below w3.heap.size w3 (w3.alloc (.cells #[.slice A0 N C0, .slice A1 N C1, .slice A2 N C2] 34)) := (Below.refl _ _).alloc (Nat.le_refl _) _
  have hbx : Bx (w3.alloc (.cells #[.slice A0 N C0, .slice A1 N C1, .slice A2 N C2] 34)) w3.heap.size (.slice A0 N C0) (.slice A1 N C1) (.slice A2 N C2) := Bx.of (t := 34) (heap_alloc_new w3 _)
  have HD3 := (show Hid _ from hD3)
  have HR3 := (show Hid _ from hR3')
  clear hD3 hR3' hR3
  go_loopw [28] (fun t wr => ∃ (k : Nat) (L : List Sec) (a0 : Option Addr) (c0 : Nat) (a1 : Option Addr) (c1 : Nat) (a2 : Option Addr) (c2 : Nat), k ≤ n1 ∧ t = .int .i64 k ∧ Hid (L.length = N ∧ Good L ∧ Drv wr w1.heap.size (fun k => k ≠ w1.heap.size ∧ k ≠ w1.heap.size + 1 ∧ k ≠ w3.heap.size) L ∧ Ref wr (fun k => k ≠ w1.heap.size ∧ k ≠ w1.heap.size + 1 ∧ k ≠ w3.heap.size) a0 c0 a1 c1 a2 c2 L) ∧ Bx wr w3.heap.size (.slice a0 N c0) (.slice a1 N c1) (.slice a2 N c2) ∧ Below w.heap.size w wr ∧ w3.heap.size + 1 ≤ wr.heap.size) (fun t _ => n1 - (intOf t).toNat)
  case atStart => exact ⟨0, _, _, _, _, _, _, _, Nat.zero_le _, rfl, ⟨by simp, Good.new N, HD3.out.below hal, HR3.out.below hal⟩, hbx, hB3.trans (hal.mono hB3.size), by simp⟩
  case round =>
    obtain ⟨k, L, x0, y0, x1, y1, x2, y2, hk, rfl, HI, hb, hbel, hsz⟩ := hrel
    clear hbx
    by_cases hlt : k < n1
    · have hAr := HA.out.below hbel
      obtain ⟨bk, off, rfl, _, hc⟩ := hAr.cell (by intro e; rw [e] at hn; simp at hn; omega)
      obtain ⟨hc0, hc1, hc2⟩ := hc k (by omega)
      have hR := hAr.rd A[k] (List.getElem_mem _)
      have hZ := hAr.sz A[k] (List.getElem_mem _)
      have hR0 := HA.out.rd A[k] (List.getElem_mem _)
      clear hAr hc
      generalize A[k] = x at *
      obtain ⟨kk, nn, aa, mm, cc, bs⟩ := x
      simp only at hc0 hc1 hc2 hR hZ hR0
      have hml := hR.len
      have hal1 : Below wr.heap.size wr (wr.alloc (.cells #[.int .i64 kk, .int .i64 nn, .slice aa mm cc] 37)) := (Below.refl _ _).alloc (Nat.le_refl _) _
      have hT1 : RuT w (wr.alloc (.cells #[.int .i64 kk, .int .i64 nn, .slice aa mm cc] 37)) w1.heap.size w3.heap.size wr.heap.size (fun k => k ≠ w1.heap.size ∧ k ≠ w1.heap.size + 1 ∧ k ≠ w3.heap.size) x0 y0 x1 y1 x2 y2 N kk nn (.slice aa mm cc) L := ⟨HI.out.2.2.1.below hal1, HI.out.2.2.2.below hal1, hb.belowS hal1, AvAt.of (heap_alloc_new wr _), below_step hbel hal1, HI.out.1, HI.out.2.1⟩
      have HT1 := (show Hid _ from hT1)
      clear hT1 HI hb hal1
      by_cases hk0 : kk = 0
      · subst hk0
        have e0 := HT1.out.a.c0
        have e1 := HT1.out.a.c1
        have e2 := (HT1.out.a.below ((Below.refl _ _).alloc (Nat.le_refl _) (.cells #[] 5))).c2
        obtain ⟨Lt, eLt⟩ : ∃ x, x = wL L nn mm bs := ⟨_, rfl⟩
        have HLt : Hid (Lt = wL L nn mm bs) := eLt
        clear eLt
        go_wp2_with (first
          | (at_builtin; refine wpList_append_rdI _ rfl (.tmp 36) (.tmp 38) 22 rfl (wr.heap.size + 1) 5 .u8 (.int .u8 0) 1 Try.underlying22 info5 rfl rfl rfl (OwnI.fresh2 wr _ _ _ _ (by omega)) ((hR.alloc _).alloc _).rd rfl (by rw [ci_length]; exact hml) (by omega) (by unfold maxLen; omega) (by simp) ?_; intro ao4 cap4 w4 ho4 hb4; have hO4 := Own8.mk ho4 hml hR.byte; have hB4 : Below (wr.alloc (.cells #[.int .i64 0, .int .i64 nn, .slice aa mm cc] 37)).heap.size (wr.alloc (.cells #[.int .i64 0, .int .i64 nn, .slice aa mm cc] 37)) w4 := ((Below.refl _ _).alloc (Nat.le_refl _) (.cells #[] 5)).trans (hb4.mono (by simp)); have hs4 := hB4.size; simp at hs4; have hT4 := HT1.out.below hB4; have hD4 := HT1.out.d.tight.below hB4; have hR4 := HT1.out.r.tight.below hB4; have t1 := hT4.a.c1)
          | (go_at_call 13; refine (write_fn _ _ L nn _ _ _ bs w4 hD4 hO4.rd).mono ?_; rintro e w5 ⟨rfl, hD5, hOf⟩; have hs5 := hOf.size; have hR5 := hR4.kept (Kept.of_off hOf (fun k hk => hk.1.1)); have hX5 := hT4.b.off hOf (by omega); have hA5 := hT4.a.off hOf (by omega); have hB5 := below_off hT4.bel hOf (by omega) (by omega); have hO5 := hO4.offO hOf (by omega); have r0 := hX5.c0; have r1 := hX5.c1; have r2 := hX5.c2; have u1 := hA5.c1; have u2 := hA5.c2)
          | (go_at_call 14; refine (refWrite_fn _ _ _ _ _ _ _ N L nn _ _ _ bs w5 hR5 HT1.out.len (hR0.below hB5)).mono ?_; rintro e w6 ⟨a0', c0', a1', c1', a2', c2', rfl, hR6, hb6⟩; have hs6 := hb6.size; have hX6 := hX5.belowS hb6; have s0 := hX6.c0; have s1 := hX6.c1; have s2 := hX6.c2; have f0 := hX6.f 0; have f1 := hX6.f 1; have f2 := hX6.f 2)
          | fail)
        obtain ⟨wA, hwA⟩ : ∃ x, x = wr := ⟨wr, rfl⟩
        subst hwA
        have hT6 : RuT w (((w6.setCell ⟨w3.heap.size, 0, none⟩ (.slice a0' N c0')).setCell ⟨w3.heap.size, 1, none⟩ (.slice a1' N c1')).setCell ⟨w3.heap.size, 2, none⟩ (.slice a2' N c2')) w1.heap.size w3.heap.size wA.heap.size (fun k => (k ≠ w1.heap.size ∧ k ≠ w1.heap.size + 1 ∧ k ≠ w3.heap.size) ∧ k < wA.heap.size + 1 ∨ w4.heap.size ≤ k) a0' c0' a1' c1' a2' c2' N 0 nn (.slice aa mm cc) Lt := RuT.store (by rw [HLt.out]; exact (hD5.below hb6).mono (fun k _ hk => by rcases hk with hk | hk; exact .inl ⟨hk.1, by have := hk.2; simp at this; omega⟩; exact .inr hk) (by rintro (hx | hx); exact hx.1.1 rfl; omega)) (by rw [HLt.out]; exact hR6.mono fun k _ hk => (by rcases hk with hk | hk; exact .inl ⟨hk.1, by have := hk.2; simp at this; omega⟩; exact .inr (by omega))) hX6 (hA5.below hb6) (below_step hB5 hb6) (by rw [HLt.out, wL_length]; exact HT1.out.len) (by rw [HLt.out]; exact HT1.out.good.wL nn mm bs) (by rintro (hx | hx); exact hx.1.2.2 rfl; omega) (by omega) (by omega) (by omega) (by omega)
        have hO6 := ((((hO5.below hb6).setB ⟨w3.heap.size, 0, none⟩ (.slice a0' N c0') (by simp; omega)).setB ⟨w3.heap.size, 1, none⟩ (.slice a1' N c1') (by simp; omega)).setB ⟨w3.heap.size, 2, none⟩ (.slice a2' N c2') (by simp; omega))
        have HT6 := (show Hid _ from hT6)
        clear hT6 hT4 hD4 hR4 hD5 hR5 hR6 hX5 hX6 hA5 hO5 s0 s1 s2 f0 f1 f2 r0 r1 r2 u1 u2 t1 e0 e1 e2
        generalize (((w6.setCell ⟨w3.heap.size, 0, none⟩ (.slice a0' N c0')).setCell ⟨w3.heap.size, 1, none⟩ (.slice a1' N c1')).setCell ⟨w3.heap.size, 2, none⟩ (.slice a2' N c2')) = W7 at *
        go_loopw [56] (fun t wq => ∃ k2 : Nat, k2 ≤ mm ∧ t = .int .i64 k2 ∧ Hid ((∃ xs, Own8 wq (wA.heap.size + 1) ao4 mm cap4 xs) ∧ RuT w wq w1.heap.size w3.heap.size wA.heap.size (fun k => (k ≠ w1.heap.size ∧ k ≠ w1.heap.size + 1 ∧ k ≠ w3.heap.size) ∧ k < wA.heap.size + 1 ∨ w4.heap.size ≤ k) a0' c0' a1' c1' a2' c2' N 0 nn (.slice aa mm cc) Lt)) (fun t _ => mm - (intOf t).toNat)
        case atStart => exact ⟨0, Nat.zero_le _, rfl, ⟨⟨_, hO6⟩, HT6.out⟩⟩
        case round =>
          obtain ⟨k2, hk2, rfl, HX⟩ := hrel
          by_cases hlt2 : k2 < mm
          · obtain ⟨o, rfl, ho1, ho2⟩ := hO4.at0 (by omega)
            obtain ⟨⟨xs, hxs⟩, hTq⟩ := HX.out
            have hfz := hxs.own.frozenAt k2
            obtain ⟨y, hy, hcy⟩ := hxs.cellAt k2 hlt2
            obtain ⟨z, hz256, hwy⟩ : ∃ z : Nat, z < 256 ∧ IntKind.u8.wrap ((y : Int) + 1) = (z : Int) := ⟨(y + 1) % 256, by omega, by rw [IntKind.wrap_u8]; omega⟩
            go_wp2
            go_roundw
            case rel => exact ⟨k2 + 1, by omega, by go_num, ⟨⟨_, hxs.put k2 z hz256⟩, hTq.other _ _ (by simp; omega) (by simp; omega) (by simp; omega) (by simp; omega) (by simp; omega) (by simp; omega)⟩⟩
            case measure => simp [intOf]; omega
          · have hT := HX.out.2.mono (U := (fun k => k ≠ w1.heap.size ∧ k ≠ w1.heap.size + 1 ∧ k ≠ w3.heap.size)) (fun k _ hk => by rcases hk with hk | hk; exact hk.1; exact ⟨by omega, by omega, by omega⟩) (by simp)
            cases hh : hasB Lt nn
            · skip
              have r3' := hT.a.c1
              go_wp2_with (first
                | (go_at_call 9; refine (read_bad _ _ Lt nn _ hT.d hh).mono ?_; rintro e w' ⟨rfl, hw⟩; subst w'; have hT7 := hT; have r0 := hT7.b.c0; have r1 := hT7.b.c1; have r2 := hT7.b.c2; have r3 := hT7.a.c1)
                | (go_at_call 19; refine (refRead_bad _ _ _ _ _ _ N Lt nn _ hT.len hh).mono ?_; rintro e w8 ⟨v8, rfl, hb8⟩; have hT8 := hT7.below hb8)
                | fail)
              have HT8 := (show Hid _ from hT8)
              clear hT8
              have HS : Hid (∀ W' : World, Below w8.heap.size w8 W' → W'.cell? ⟨w3.heap.size, 0, none⟩ = some (.slice a0' N c0') ∧ W'.cell? ⟨w3.heap.size, 1, none⟩ = some (.slice a1' N c1') ∧ W'.cell? ⟨w3.heap.size, 2, none⟩ = some (.slice a2' N c2')) := fun W' hb => ⟨(HT8.out.below hb).b.c0, (HT8.out.below hb).b.c1, (HT8.out.below hb).b.c2⟩
              first
                | go_region_held_law (fun W' => W'.cell? ⟨w3.heap.size, 0, none⟩ = some (.slice a0' N c0') ∧ W'.cell? ⟨w3.heap.size, 1, none⟩ = some (.slice a1' N c1') ∧ W'.cell? ⟨w3.heap.size, 2, none⟩ = some (.slice a2' N c2'))
                    (first | exact HS.out _ (Below.refl _ _).drew | exact HS.out _ hB9 | exact HS.out _ hB10 | exact HS.out _ hB11 | exact HS.out _ hB12 | exact HS.out _ hB13 | fail)
                    ((first
                      | (go_at_call 21; refine (all_N _ _ Lt N _ (HT8.out.below (Below.refl _ _).drew).d HT8.out.len).mono ?_; rintro e w9 ⟨ao9, cap9, ps9, rfl, ho9, hp9, hb9⟩; have hB9 : Below w8.heap.size w8 w9 := ⟨hb9.os, hb9.tape, hb9.output, hb9.size, hb9.block⟩; obtain ⟨qs9, hq91, hq92, hq93⟩ := (HT8.out.below hB9).r.now)
                      | (go_at_call 20; with_reducible refine (same_true ao9 cap9 N a0' c0' ps9 qs9 w9 ho9.own.rd hq91 (fun p hp => (ho9.el p hp).rd) (fun p hp => (hq93 p hp).1) (by have := congrArg List.length hp9; simp at this; have := HT8.out.len; omega) (by rw [hp9, hq92]) (by have := HT8.out.d.le; have := HT8.out.len; omega)).mono ?_; rintro e w10 ⟨rfl, j10, hw10⟩; have hB10 : Below w8.heap.size w8 w10 := (by rw [hw10]; exact below_drewN hB9 _); clear hw10)
                      | (go_at_call 23; refine (loose_N _ _ Lt N _ (HT8.out.below hB10).d HT8.out.len).mono ?_; rintro e w11 ⟨ao11, cap11, rfl, ho11, hb11⟩; have hB11 := below_step hB10 hb11)
                      | (go_at_call 24; refine (refLoose_any _ _ _ _ _ _ _ N Lt _ (HT8.out.below hB11).r HT8.out.len).mono ?_; rintro e w12 ⟨ao12, cap12, rfl, ho12, hb12⟩; have hB12 := below_step hB11 hb12)
                      | (go_at_call 22; with_reducible refine (sameInts_true ao11 cap11 (looseK Lt N).length ao12 cap12 (looseK Lt N) w12 (ho11.rd.below hb12) ho12.rd rfl (by have := looseK_length Lt N; omega)).mono ?_; rintro e w13 ⟨rfl, j13, hw13⟩; have hB13 : Below w8.heap.size w8 w13 := (by rw [hw13]; exact below_drewN hB12 _); clear hw13)
                      | fail))
                | fail
              have hT13 := HT8.out.below hB13
              have HT13 := (show Hid _ from hT13)
              clear hT13
              go_wp2
              go_roundw
              case rel => exact ⟨k + 1, Lt, _, _, _, _, _, _, by omega, by go_num, ⟨HT13.out.len, HT13.out.good, HT13.out.d, HT13.out.r⟩, HT13.out.b, HT13.out.bel, by have := HT13.out.b.lt; omega⟩
              case measure => simp [intOf]; omega
            · obtain ⟨j, rfl, hj⟩ := hasB_nat hh
              have r3' := hT.a.c1
              go_wp2_with (first
                | (go_at_call 9; refine (read_ok _ _ Lt j _ hT.d (by have := hT.len; omega)).mono ?_; rintro e w7 ⟨ao7, n7, cap7, rfl, _, _, hb7⟩; have hT7 := hT.below hb7; have r0 := hT7.b.c0; have r1 := hT7.b.c1; have r2 := hT7.b.c2; have r3 := hT7.a.c1)
                | (go_at_call 19; refine (refRead_ok _ _ _ _ _ _ _ N Lt j _ hT7.r hT.len (by have := hT.len; omega)).mono ?_; rintro e w8 ⟨v8, rfl, hb8⟩; have hT8 := hT7.below hb8)
                | fail)
              have HT8 := (show Hid _ from hT8)
              clear hT8
              have HS : Hid (∀ W' : World, Below w8.heap.size w8 W' → W'.cell? ⟨w3.heap.size, 0, none⟩ = some (.slice a0' N c0') ∧ W'.cell? ⟨w3.heap.size, 1, none⟩ = some (.slice a1' N c1') ∧ W'.cell? ⟨w3.heap.size, 2, none⟩ = some (.slice a2' N c2')) := fun W' hb => ⟨(HT8.out.below hb).b.c0, (HT8.out.below hb).b.c1, (HT8.out.below hb).b.c2⟩
              first
                | go_region_held_law (fun W' => W'.cell? ⟨w3.heap.size, 0, none⟩ = some (.slice a0' N c0') ∧ W'.cell? ⟨w3.heap.size, 1, none⟩ = some (.slice a1' N c1') ∧ W'.cell? ⟨w3.heap.size, 2, none⟩ = some (.slice a2' N c2'))
                    (first | exact HS.out _ (Below.refl _ _).drew | exact HS.out _ hB9 | exact HS.out _ hB10 | exact HS.out _ hB11 | exact HS.out _ hB12 | exact HS.out _ hB13 | fail)
                    ((first
                      | (go_at_call 21; refine (all_N _ _ Lt N _ (HT8.out.below (Below.refl _ _).drew).d HT8.out.len).mono ?_; rintro e w9 ⟨ao9, cap9, ps9, rfl, ho9, hp9, hb9⟩; have hB9 : Below w8.heap.size w8 w9 := ⟨hb9.os, hb9.tape, hb9.output, hb9.size, hb9.block⟩; obtain ⟨qs9, hq91, hq92, hq93⟩ := (HT8.out.below hB9).r.now)
                      | (go_at_call 20; with_reducible refine (same_true ao9 cap9 N a0' c0' ps9 qs9 w9 ho9.own.rd hq91 (fun p hp => (ho9.el p hp).rd) (fun p hp => (hq93 p hp).1) (by have := congrArg List.length hp9; simp at this; have := HT8.out.len; omega) (by rw [hp9, hq92]) (by have := HT8.out.d.le; have := HT8.out.len; omega)).mono ?_; rintro e w10 ⟨rfl, j10, hw10⟩; have hB10 : Below w8.heap.size w8 w10 := (by rw [hw10]; exact below_drewN hB9 _); clear hw10)
                      | (go_at_call 23; refine (loose_N _ _ Lt N _ (HT8.out.below hB10).d HT8.out.len).mono ?_; rintro e w11 ⟨ao11, cap11, rfl, ho11, hb11⟩; have hB11 := below_step hB10 hb11)
                      | (go_at_call 24; refine (refLoose_any _ _ _ _ _ _ _ N Lt _ (HT8.out.below hB11).r HT8.out.len).mono ?_; rintro e w12 ⟨ao12, cap12, rfl, ho12, hb12⟩; have hB12 := below_step hB11 hb12)
                      | (go_at_call 22; with_reducible refine (sameInts_true ao11 cap11 (looseK Lt N).length ao12 cap12 (looseK Lt N) w12 (ho11.rd.below hb12) ho12.rd rfl (by have := looseK_length Lt N; omega)).mono ?_; rintro e w13 ⟨rfl, j13, hw13⟩; have hB13 : Below w8.heap.size w8 w13 := (by rw [hw13]; exact below_drewN hB12 _); clear hw13)
                      | fail))
                | fail
              have hT13 := HT8.out.below hB13
              have HT13 := (show Hid _ from hT13)
              clear hT13
              go_wp2
              go_roundw
              case rel => exact ⟨k + 1, Lt, _, _, _, _, _, _, by omega, by go_num, ⟨HT13.out.len, HT13.out.good, HT13.out.d, HT13.out.r⟩, HT13.out.b, HT13.out.bel, by have := HT13.out.b.lt; omega⟩
              case measure => simp [intOf]; omega

      · by_cases hk1 : kk = 1
        · subst hk1
          obtain ⟨Lt, eLt⟩ : ∃ x, x = L.mapIdx (fun _ x => x.settle) := ⟨_, rfl⟩
          have HLt : Hid (Lt = L.mapIdx (fun _ x => x.settle)) := eLt
          clear eLt
          cases hh : hasB Lt nn
          · skip
            have e0 := HT1.out.a.c0
            go_wp2_with (first
              | (go_at_call 15; refine (sync_any _ _ L _ HT1.out.d).mono ?_; rintro e w4 ⟨rfl, hD4, hO4, _⟩; have hs4 := hO4.size; simp at hs4; have hR4 := HT1.out.r.kept (Kept.of_off hO4 (fun k hk => hk.1)); have hX4 := HT1.out.b.off hO4 (by omega); have hA4 := HT1.out.a.off hO4 (by omega); have hB4 := below_off HT1.out.bel hO4 (by omega) (by simp; omega); have r0 := hX4.c0; have r1 := hX4.c1; have r2 := hX4.c2)
              | (go_at_call 16; refine (refSync_any _ _ _ _ _ _ _ N L _ hR4 HT1.out.len).mono ?_; rintro e w5 ⟨a0', c0', a1', c1', a2', c2', rfl, hR5, hb5⟩; have hs5 := hb5.size; have hX5 := hX4.belowS hb5; have s0 := hX5.c0; have s1 := hX5.c1; have s2 := hX5.c2; have f0 := hX5.f 0; have f1 := hX5.f 1; have f2 := hX5.f 2; have hT : RuT w (((w5.setCell ⟨w3.heap.size, 0, none⟩ (.slice a0' N c0')).setCell ⟨w3.heap.size, 1, none⟩ (.slice a1' N c1')).setCell ⟨w3.heap.size, 2, none⟩ (.slice a2' N c2')) w1.heap.size w3.heap.size wr.heap.size (fun k => k ≠ w1.heap.size ∧ k ≠ w1.heap.size + 1 ∧ k ≠ w3.heap.size) a0' c0' a1' c1' a2' c2' N 1 nn (.slice aa mm cc) Lt := RuT.store (by rw [HLt.out]; exact hD4.below hb5) (by rw [HLt.out]; rw [sync_alike HT1.out.good HT1.out.r.le] at hR5; exact hR5.mono fun k _ hk => (by rcases hk with hk | hk; exact hk; exact ⟨by omega, by omega, by omega⟩)) hX5 (hA4.below hb5) (below_step hB4 hb5) (by rw [HLt.out]; simp; exact HT1.out.len) (by rw [HLt.out]; exact Good.sync L) (by simp) (by omega) (by omega) (by omega) (by omega); have r3' := hT.a.c1; clear hR5 hD4 hR4)
              | (go_at_call 9; refine (read_bad _ _ Lt nn _ hT.d hh).mono ?_; rintro e w' ⟨rfl, hw⟩; subst w'; have hT7 := hT; have r0 := hT7.b.c0; have r1 := hT7.b.c1; have r2 := hT7.b.c2; have r3 := hT7.a.c1)
              | (go_at_call 19; refine (refRead_bad _ _ _ _ _ _ N Lt nn _ hT.len hh).mono ?_; rintro e w8 ⟨v8, rfl, hb8⟩; have hT8 := hT7.below hb8)
              | fail)
            have HT8 := (show Hid _ from hT8)
            clear hT8
            have HS : Hid (∀ W' : World, Below w8.heap.size w8 W' → W'.cell? ⟨w3.heap.size, 0, none⟩ = some (.slice a0' N c0') ∧ W'.cell? ⟨w3.heap.size, 1, none⟩ = some (.slice a1' N c1') ∧ W'.cell? ⟨w3.heap.size, 2, none⟩ = some (.slice a2' N c2')) := fun W' hb => ⟨(HT8.out.below hb).b.c0, (HT8.out.below hb).b.c1, (HT8.out.below hb).b.c2⟩
            first
              | go_region_held_law (fun W' => W'.cell? ⟨w3.heap.size, 0, none⟩ = some (.slice a0' N c0') ∧ W'.cell? ⟨w3.heap.size, 1, none⟩ = some (.slice a1' N c1') ∧ W'.cell? ⟨w3.heap.size, 2, none⟩ = some (.slice a2' N c2'))
                  (first | exact HS.out _ (Below.refl _ _).drew | exact HS.out _ hB9 | exact HS.out _ hB10 | exact HS.out _ hB11 | exact HS.out _ hB12 | exact HS.out _ hB13 | fail)
                  ((first
                    | (go_at_call 21; refine (all_N _ _ Lt N _ (HT8.out.below (Below.refl _ _).drew).d HT8.out.len).mono ?_; rintro e w9 ⟨ao9, cap9, ps9, rfl, ho9, hp9, hb9⟩; have hB9 : Below w8.heap.size w8 w9 := ⟨hb9.os, hb9.tape, hb9.output, hb9.size, hb9.block⟩; obtain ⟨qs9, hq91, hq92, hq93⟩ := (HT8.out.below hB9).r.now)
                    | (go_at_call 20; with_reducible refine (same_true ao9 cap9 N a0' c0' ps9 qs9 w9 ho9.own.rd hq91 (fun p hp => (ho9.el p hp).rd) (fun p hp => (hq93 p hp).1) (by have := congrArg List.length hp9; simp at this; have := HT8.out.len; omega) (by rw [hp9, hq92]) (by have := HT8.out.d.le; have := HT8.out.len; omega)).mono ?_; rintro e w10 ⟨rfl, j10, hw10⟩; have hB10 : Below w8.heap.size w8 w10 := (by rw [hw10]; exact below_drewN hB9 _); clear hw10)
                    | (go_at_call 23; refine (loose_N _ _ Lt N _ (HT8.out.below hB10).d HT8.out.len).mono ?_; rintro e w11 ⟨ao11, cap11, rfl, ho11, hb11⟩; have hB11 := below_step hB10 hb11)
                    | (go_at_call 24; refine (refLoose_any _ _ _ _ _ _ _ N Lt _ (HT8.out.below hB11).r HT8.out.len).mono ?_; rintro e w12 ⟨ao12, cap12, rfl, ho12, hb12⟩; have hB12 := below_step hB11 hb12)
                    | (go_at_call 22; with_reducible refine (sameInts_true ao11 cap11 (looseK Lt N).length ao12 cap12 (looseK Lt N) w12 (ho11.rd.below hb12) ho12.rd rfl (by have := looseK_length Lt N; omega)).mono ?_; rintro e w13 ⟨rfl, j13, hw13⟩; have hB13 : Below w8.heap.size w8 w13 := (by rw [hw13]; exact below_drewN hB12 _); clear hw13)
                    | fail))
              | fail
            have hT13 := HT8.out.below hB13
            have HT13 := (show Hid _ from hT13)
            clear hT13
            go_wp2
            go_roundw
            case rel => exact ⟨k + 1, Lt, _, _, _, _, _, _, by omega, by go_num, ⟨HT13.out.len, HT13.out.good, HT13.out.d, HT13.out.r⟩, HT13.out.b, HT13.out.bel, by have := HT13.out.b.lt; omega⟩
            case measure => simp [intOf]; omega
          · obtain ⟨j, rfl, hj⟩ := hasB_nat hh
            have e0 := HT1.out.a.c0
            go_wp2_with (first
              | (go_at_call 15; refine (sync_any _ _ L _ HT1.out.d).mono ?_; rintro e w4 ⟨rfl, hD4, hO4, _⟩; have hs4 := hO4.size; simp at hs4; have hR4 := HT1.out.r.kept (Kept.of_off hO4 (fun k hk => hk.1)); have hX4 := HT1.out.b.off hO4 (by omega); have hA4 := HT1.out.a.off hO4 (by omega); have hB4 := below_off HT1.out.bel hO4 (by omega) (by simp; omega); have r0 := hX4.c0; have r1 := hX4.c1; have r2 := hX4.c2)
              | (go_at_call 16; refine (refSync_any _ _ _ _ _ _ _ N L _ hR4 HT1.out.len).mono ?_; rintro e w5 ⟨a0', c0', a1', c1', a2', c2', rfl, hR5, hb5⟩; have hs5 := hb5.size; have hX5 := hX4.belowS hb5; have s0 := hX5.c0; have s1 := hX5.c1; have s2 := hX5.c2; have f0 := hX5.f 0; have f1 := hX5.f 1; have f2 := hX5.f 2; have hT : RuT w (((w5.setCell ⟨w3.heap.size, 0, none⟩ (.slice a0' N c0')).setCell ⟨w3.heap.size, 1, none⟩ (.slice a1' N c1')).setCell ⟨w3.heap.size, 2, none⟩ (.slice a2' N c2')) w1.heap.size w3.heap.size wr.heap.size (fun k => k ≠ w1.heap.size ∧ k ≠ w1.heap.size + 1 ∧ k ≠ w3.heap.size) a0' c0' a1' c1' a2' c2' N 1 (j : Int) (.slice aa mm cc) Lt := RuT.store (by rw [HLt.out]; exact hD4.below hb5) (by rw [HLt.out]; rw [sync_alike HT1.out.good HT1.out.r.le] at hR5; exact hR5.mono fun k _ hk => (by rcases hk with hk | hk; exact hk; exact ⟨by omega, by omega, by omega⟩)) hX5 (hA4.below hb5) (below_step hB4 hb5) (by rw [HLt.out]; simp; exact HT1.out.len) (by rw [HLt.out]; exact Good.sync L) (by simp) (by omega) (by omega) (by omega) (by omega); have r3' := hT.a.c1; clear hR5 hD4 hR4)
              | (go_at_call 9; refine (read_ok _ _ Lt j _ hT.d (by have := hT.len; omega)).mono ?_; rintro e w7 ⟨ao7, n7, cap7, rfl, _, _, hb7⟩; have hT7 := hT.below hb7; have r0 := hT7.b.c0; have r1 := hT7.b.c1; have r2 := hT7.b.c2; have r3 := hT7.a.c1)
              | (go_at_call 19; refine (refRead_ok _ _ _ _ _ _ _ N Lt j _ hT7.r hT.len (by have := hT.len; omega)).mono ?_; rintro e w8 ⟨v8, rfl, hb8⟩; have hT8 := hT7.below hb8)
              | fail)
            have HT8 := (show Hid _ from hT8)
            clear hT8
            have HS : Hid (∀ W' : World, Below w8.heap.size w8 W' → W'.cell? ⟨w3.heap.size, 0, none⟩ = some (.slice a0' N c0') ∧ W'.cell? ⟨w3.heap.size, 1, none⟩ = some (.slice a1' N c1') ∧ W'.cell? ⟨w3.heap.size, 2, none⟩ = some (.slice a2' N c2')) := fun W' hb => ⟨(HT8.out.below hb).b.c0, (HT8.out.below hb).b.c1, (HT8.out.below hb).b.c2⟩
            first
              | go_region_held_law (fun W' => W'.cell? ⟨w3.heap.size, 0, none⟩ = some (.slice a0' N c0') ∧ W'.cell? ⟨w3.heap.size, 1, none⟩ = some (.slice a1' N c1') ∧ W'.cell? ⟨w3.heap.size, 2, none⟩ = some (.slice a2' N c2'))
                  (first | exact HS.out _ (Below.refl _ _).drew | exact HS.out _ hB9 | exact HS.out _ hB10 | exact HS.out _ hB11 | exact HS.out _ hB12 | exact HS.out _ hB13 | fail)
                  ((first
                    | (go_at_call 21; refine (all_N _ _ Lt N _ (HT8.out.below (Below.refl _ _).drew).d HT8.out.len).mono ?_; rintro e w9 ⟨ao9, cap9, ps9, rfl, ho9, hp9, hb9⟩; have hB9 : Below w8.heap.size w8 w9 := ⟨hb9.os, hb9.tape, hb9.output, hb9.size, hb9.block⟩; obtain ⟨qs9, hq91, hq92, hq93⟩ := (HT8.out.below hB9).r.now)
                    | (go_at_call 20; with_reducible refine (same_true ao9 cap9 N a0' c0' ps9 qs9 w9 ho9.own.rd hq91 (fun p hp => (ho9.el p hp).rd) (fun p hp => (hq93 p hp).1) (by have := congrArg List.length hp9; simp at this; have := HT8.out.len; omega) (by rw [hp9, hq92]) (by have := HT8.out.d.le; have := HT8.out.len; omega)).mono ?_; rintro e w10 ⟨rfl, j10, hw10⟩; have hB10 : Below w8.heap.size w8 w10 := (by rw [hw10]; exact below_drewN hB9 _); clear hw10)
                    | (go_at_call 23; refine (loose_N _ _ Lt N _ (HT8.out.below hB10).d HT8.out.len).mono ?_; rintro e w11 ⟨ao11, cap11, rfl, ho11, hb11⟩; have hB11 := below_step hB10 hb11)
                    | (go_at_call 24; refine (refLoose_any _ _ _ _ _ _ _ N Lt _ (HT8.out.below hB11).r HT8.out.len).mono ?_; rintro e w12 ⟨ao12, cap12, rfl, ho12, hb12⟩; have hB12 := below_step hB11 hb12)
                    | (go_at_call 22; with_reducible refine (sameInts_true ao11 cap11 (looseK Lt N).length ao12 cap12 (looseK Lt N) w12 (ho11.rd.below hb12) ho12.rd rfl (by have := looseK_length Lt N; omega)).mono ?_; rintro e w13 ⟨rfl, j13, hw13⟩; have hB13 : Below w8.heap.size w8 w13 := (by rw [hw13]; exact below_drewN hB12 _); clear hw13)
                    | fail))
              | fail
            have hT13 := HT8.out.below hB13
            have HT13 := (show Hid _ from hT13)
            clear hT13
            go_wp2
            go_roundw
            case rel => exact ⟨k + 1, Lt, _, _, _, _, _, _, by omega, by go_num, ⟨HT13.out.len, HT13.out.good, HT13.out.d, HT13.out.r⟩, HT13.out.b, HT13.out.bel, by have := HT13.out.b.lt; omega⟩
            case measure => simp [intOf]; omega

        · by_cases hk2 : kk = 2
          · subst hk2
            obtain ⟨Lt, eLt⟩ : ∃ x, x = L.mapIdx (fate nn) := ⟨_, rfl⟩
            have HLt : Hid (Lt = L.mapIdx (fate nn)) := eLt
            clear eLt
            cases hh : hasB Lt nn
            · skip
              have e0 := HT1.out.a.c0
              have e1 := HT1.out.a.c1
              go_wp2_with (first
                | (go_at_call 17; refine (crash_any _ _ L nn _ HT1.out.d).mono ?_; rintro e w4 ⟨rfl, hD4, hO4⟩; have hs4 := hO4.size; simp at hs4; have hR4 := HT1.out.r.kept (Kept.of_off hO4 (fun k hk => hk.1)); have hX4 := HT1.out.b.off hO4 (by omega); have hA4 := HT1.out.a.off hO4 (by omega); have hB4 := below_off HT1.out.bel hO4 (by omega) (by simp; omega); have r0 := hX4.c0; have r1 := hX4.c1; have r2 := hX4.c2; have t1 := hA4.c1)
                | (go_at_call 18; refine (refCrash_all _ _ _ _ _ _ _ N L nn _ hR4 HT1.out.len).mono ?_; rintro e w5 ⟨a0', c0', a1', c1', a2', c2', rfl, hR5, hb5⟩; have hs5 := hb5.size; have hX5 := hX4.belowS hb5; have s0 := hX5.c0; have s1 := hX5.c1; have s2 := hX5.c2; have f0 := hX5.f 0; have f1 := hX5.f 1; have f2 := hX5.f 2; have hT : RuT w (((w5.setCell ⟨w3.heap.size, 0, none⟩ (.slice a0' N c0')).setCell ⟨w3.heap.size, 1, none⟩ (.slice a1' N c1')).setCell ⟨w3.heap.size, 2, none⟩ (.slice a2' N c2')) w1.heap.size w3.heap.size wr.heap.size (fun k => k ≠ w1.heap.size ∧ k ≠ w1.heap.size + 1 ∧ k ≠ w3.heap.size) a0' c0' a1' c1' a2' c2' N 2 nn (.slice aa mm cc) Lt := RuT.store (by rw [HLt.out]; exact hD4.below hb5) (by rw [HLt.out]; rw [crash_alike HT1.out.good HT1.out.r.le nn] at hR5; exact hR5.mono fun k _ hk => (by rcases hk with hk | hk; exact hk; exact ⟨by omega, by omega, by omega⟩)) hX5 (hA4.below hb5) (below_step hB4 hb5) (by rw [HLt.out]; simp; exact HT1.out.len) (by rw [HLt.out]; exact Good.crash L nn) (by simp) (by omega) (by omega) (by omega) (by omega); have r3' := hT.a.c1; clear hR5 hD4 hR4)
                | (go_at_call 9; refine (read_bad _ _ Lt nn _ hT.d hh).mono ?_; rintro e w' ⟨rfl, hw⟩; subst w'; have hT7 := hT; have r0 := hT7.b.c0; have r1 := hT7.b.c1; have r2 := hT7.b.c2; have r3 := hT7.a.c1)
                | (go_at_call 19; refine (refRead_bad _ _ _ _ _ _ N Lt nn _ hT.len hh).mono ?_; rintro e w8 ⟨v8, rfl, hb8⟩; have hT8 := hT7.below hb8)
                | fail)
              have HT8 := (show Hid _ from hT8)
              clear hT8
              have HS : Hid (∀ W' : World, Below w8.heap.size w8 W' → W'.cell? ⟨w3.heap.size, 0, none⟩ = some (.slice a0' N c0') ∧ W'.cell? ⟨w3.heap.size, 1, none⟩ = some (.slice a1' N c1') ∧ W'.cell? ⟨w3.heap.size, 2, none⟩ = some (.slice a2' N c2')) := fun W' hb => ⟨(HT8.out.below hb).b.c0, (HT8.out.below hb).b.c1, (HT8.out.below hb).b.c2⟩
              first
                | go_region_held_law (fun W' => W'.cell? ⟨w3.heap.size, 0, none⟩ = some (.slice a0' N c0') ∧ W'.cell? ⟨w3.heap.size, 1, none⟩ = some (.slice a1' N c1') ∧ W'.cell? ⟨w3.heap.size, 2, none⟩ = some (.slice a2' N c2'))
                    (first | exact HS.out _ (Below.refl _ _).drew | exact HS.out _ hB9 | exact HS.out _ hB10 | exact HS.out _ hB11 | exact HS.out _ hB12 | exact HS.out _ hB13 | fail)
                    ((first
                      | (go_at_call 21; refine (all_N _ _ Lt N _ (HT8.out.below (Below.refl _ _).drew).d HT8.out.len).mono ?_; rintro e w9 ⟨ao9, cap9, ps9, rfl, ho9, hp9, hb9⟩; have hB9 : Below w8.heap.size w8 w9 := ⟨hb9.os, hb9.tape, hb9.output, hb9.size, hb9.block⟩; obtain ⟨qs9, hq91, hq92, hq93⟩ := (HT8.out.below hB9).r.now)
                      | (go_at_call 20; with_reducible refine (same_true ao9 cap9 N a0' c0' ps9 qs9 w9 ho9.own.rd hq91 (fun p hp => (ho9.el p hp).rd) (fun p hp => (hq93 p hp).1) (by have := congrArg List.length hp9; simp at this; have := HT8.out.len; omega) (by rw [hp9, hq92]) (by have := HT8.out.d.le; have := HT8.out.len; omega)).mono ?_; rintro e w10 ⟨rfl, j10, hw10⟩; have hB10 : Below w8.heap.size w8 w10 := (by rw [hw10]; exact below_drewN hB9 _); clear hw10)
                      | (go_at_call 23; refine (loose_N _ _ Lt N _ (HT8.out.below hB10).d HT8.out.len).mono ?_; rintro e w11 ⟨ao11, cap11, rfl, ho11, hb11⟩; have hB11 := below_step hB10 hb11)
                      | (go_at_call 24; refine (refLoose_any _ _ _ _ _ _ _ N Lt _ (HT8.out.below hB11).r HT8.out.len).mono ?_; rintro e w12 ⟨ao12, cap12, rfl, ho12, hb12⟩; have hB12 := below_step hB11 hb12)
                      | (go_at_call 22; with_reducible refine (sameInts_true ao11 cap11 (looseK Lt N).length ao12 cap12 (looseK Lt N) w12 (ho11.rd.below hb12) ho12.rd rfl (by have := looseK_length Lt N; omega)).mono ?_; rintro e w13 ⟨rfl, j13, hw13⟩; have hB13 : Below w8.heap.size w8 w13 := (by rw [hw13]; exact below_drewN hB12 _); clear hw13)
                      | fail))
                | fail
              have hT13 := HT8.out.below hB13
              have HT13 := (show Hid _ from hT13)
              clear hT13
              go_wp2
              go_roundw
              case rel => exact ⟨k + 1, Lt, _, _, _, _, _, _, by omega, by go_num, ⟨HT13.out.len, HT13.out.good, HT13.out.d, HT13.out.r⟩, HT13.out.b, HT13.out.bel, by have := HT13.out.b.lt; omega⟩
              case measure => simp [intOf]; omega
            · obtain ⟨j, rfl, hj⟩ := hasB_nat hh
              have e0 := HT1.out.a.c0
              have e1 := HT1.out.a.c1
              go_wp2_with (first
                | (go_at_call 17; refine (crash_any _ _ L (j : Int) _ HT1.out.d).mono ?_; rintro e w4 ⟨rfl, hD4, hO4⟩; have hs4 := hO4.size; simp at hs4; have hR4 := HT1.out.r.kept (Kept.of_off hO4 (fun k hk => hk.1)); have hX4 := HT1.out.b.off hO4 (by omega); have hA4 := HT1.out.a.off hO4 (by omega); have hB4 := below_off HT1.out.bel hO4 (by omega) (by simp; omega); have r0 := hX4.c0; have r1 := hX4.c1; have r2 := hX4.c2; have t1 := hA4.c1)
                | (go_at_call 18; refine (refCrash_all _ _ _ _ _ _ _ N L (j : Int) _ hR4 HT1.out.len).mono ?_; rintro e w5 ⟨a0', c0', a1', c1', a2', c2', rfl, hR5, hb5⟩; have hs5 := hb5.size; have hX5 := hX4.belowS hb5; have s0 := hX5.c0; have s1 := hX5.c1; have s2 := hX5.c2; have f0 := hX5.f 0; have f1 := hX5.f 1; have f2 := hX5.f 2; have hT : RuT w (((w5.setCell ⟨w3.heap.size, 0, none⟩ (.slice a0' N c0')).setCell ⟨w3.heap.size, 1, none⟩ (.slice a1' N c1')).setCell ⟨w3.heap.size, 2, none⟩ (.slice a2' N c2')) w1.heap.size w3.heap.size wr.heap.size (fun k => k ≠ w1.heap.size ∧ k ≠ w1.heap.size + 1 ∧ k ≠ w3.heap.size) a0' c0' a1' c1' a2' c2' N 2 (j : Int) (.slice aa mm cc) Lt := RuT.store (by rw [HLt.out]; exact hD4.below hb5) (by rw [HLt.out]; rw [crash_alike HT1.out.good HT1.out.r.le (j : Int)] at hR5; exact hR5.mono fun k _ hk => (by rcases hk with hk | hk; exact hk; exact ⟨by omega, by omega, by omega⟩)) hX5 (hA4.below hb5) (below_step hB4 hb5) (by rw [HLt.out]; simp; exact HT1.out.len) (by rw [HLt.out]; exact Good.crash L (j : Int)) (by simp) (by omega) (by omega) (by omega) (by omega); have r3' := hT.a.c1; clear hR5 hD4 hR4)
                | (go_at_call 9; refine (read_ok _ _ Lt j _ hT.d (by have := hT.len; omega)).mono ?_; rintro e w7 ⟨ao7, n7, cap7, rfl, _, _, hb7⟩; have hT7 := hT.below hb7; have r0 := hT7.b.c0; have r1 := hT7.b.c1; have r2 := hT7.b.c2; have r3 := hT7.a.c1)
                | (go_at_call 19; refine (refRead_ok _ _ _ _ _ _ _ N Lt j _ hT7.r hT.len (by have := hT.len; omega)).mono ?_; rintro e w8 ⟨v8, rfl, hb8⟩; have hT8 := hT7.below hb8)
                | fail)
              have HT8 := (show Hid _ from hT8)
              clear hT8
              have HS : Hid (∀ W' : World, Below w8.heap.size w8 W' → W'.cell? ⟨w3.heap.size, 0, none⟩ = some (.slice a0' N c0') ∧ W'.cell? ⟨w3.heap.size, 1, none⟩ = some (.slice a1' N c1') ∧ W'.cell? ⟨w3.heap.size, 2, none⟩ = some (.slice a2' N c2')) := fun W' hb => ⟨(HT8.out.below hb).b.c0, (HT8.out.below hb).b.c1, (HT8.out.below hb).b.c2⟩
              first
                | go_region_held_law (fun W' => W'.cell? ⟨w3.heap.size, 0, none⟩ = some (.slice a0' N c0') ∧ W'.cell? ⟨w3.heap.size, 1, none⟩ = some (.slice a1' N c1') ∧ W'.cell? ⟨w3.heap.size, 2, none⟩ = some (.slice a2' N c2'))
                    (first | exact HS.out _ (Below.refl _ _).drew | exact HS.out _ hB9 | exact HS.out _ hB10 | exact HS.out _ hB11 | exact HS.out _ hB12 | exact HS.out _ hB13 | fail)
                    ((first
                      | (go_at_call 21; refine (all_N _ _ Lt N _ (HT8.out.below (Below.refl _ _).drew).d HT8.out.len).mono ?_; rintro e w9 ⟨ao9, cap9, ps9, rfl, ho9, hp9, hb9⟩; have hB9 : Below w8.heap.size w8 w9 := ⟨hb9.os, hb9.tape, hb9.output, hb9.size, hb9.block⟩; obtain ⟨qs9, hq91, hq92, hq93⟩ := (HT8.out.below hB9).r.now)
                      | (go_at_call 20; with_reducible refine (same_true ao9 cap9 N a0' c0' ps9 qs9 w9 ho9.own.rd hq91 (fun p hp => (ho9.el p hp).rd) (fun p hp => (hq93 p hp).1) (by have := congrArg List.length hp9; simp at this; have := HT8.out.len; omega) (by rw [hp9, hq92]) (by have := HT8.out.d.le; have := HT8.out.len; omega)).mono ?_; rintro e w10 ⟨rfl, j10, hw10⟩; have hB10 : Below w8.heap.size w8 w10 := (by rw [hw10]; exact below_drewN hB9 _); clear hw10)
                      | (go_at_call 23; refine (loose_N _ _ Lt N _ (HT8.out.below hB10).d HT8.out.len).mono ?_; rintro e w11 ⟨ao11, cap11, rfl, ho11, hb11⟩; have hB11 := below_step hB10 hb11)
                      | (go_at_call 24; refine (refLoose_any _ _ _ _ _ _ _ N Lt _ (HT8.out.below hB11).r HT8.out.len).mono ?_; rintro e w12 ⟨ao12, cap12, rfl, ho12, hb12⟩; have hB12 := below_step hB11 hb12)
                      | (go_at_call 22; with_reducible refine (sameInts_true ao11 cap11 (looseK Lt N).length ao12 cap12 (looseK Lt N) w12 (ho11.rd.below hb12) ho12.rd rfl (by have := looseK_length Lt N; omega)).mono ?_; rintro e w13 ⟨rfl, j13, hw13⟩; have hB13 : Below w8.heap.size w8 w13 := (by rw [hw13]; exact below_drewN hB12 _); clear hw13)
                      | fail))
                | fail
              have hT13 := HT8.out.below hB13
              have HT13 := (show Hid _ from hT13)
              clear hT13
              go_wp2
              go_roundw
              case rel => exact ⟨k + 1, Lt, _, _, _, _, _, _, by omega, by go_num, ⟨HT13.out.len, HT13.out.good, HT13.out.d, HT13.out.r⟩, HT13.out.b, HT13.out.bel, by have := HT13.out.b.lt; omega⟩
              case measure => simp [intOf]; omega

          · skip
            have hT := HT1.out
            have r0 := hT.b.c0
            have r1 := hT.b.c1
            have r2 := hT.b.c2
            have e0 := hT.a.c0
            obtain ⟨Lt, eLt⟩ : ∃ x, x = L := ⟨L, rfl⟩
            obtain ⟨a0', ea0⟩ : ∃ x, x = x0 := ⟨x0, rfl⟩
            obtain ⟨c0', ec0⟩ : ∃ x, x = y0 := ⟨y0, rfl⟩
            obtain ⟨a1', ea1⟩ : ∃ x, x = x1 := ⟨x1, rfl⟩
            obtain ⟨c1', ec1⟩ : ∃ x, x = y1 := ⟨y1, rfl⟩
            obtain ⟨a2', ea2⟩ : ∃ x, x = x2 := ⟨x2, rfl⟩
            obtain ⟨c2', ec2⟩ : ∃ x, x = y2 := ⟨y2, rfl⟩
            subst eLt ea0 ec0 ea1 ec1 ea2 ec2
            cases hh : hasB Lt nn
            · skip
              have r3' := hT.a.c1
              go_wp2_with (first
                | (go_at_call 9; refine (read_bad _ _ Lt nn _ hT.d hh).mono ?_; rintro e w' ⟨rfl, hw⟩; subst w'; have hT7 := hT; have r0 := hT7.b.c0; have r1 := hT7.b.c1; have r2 := hT7.b.c2; have r3 := hT7.a.c1)
                | (go_at_call 19; refine (refRead_bad _ _ _ _ _ _ N Lt nn _ hT.len hh).mono ?_; rintro e w8 ⟨v8, rfl, hb8⟩; have hT8 := hT7.below hb8)
                | fail)
              have HT8 := (show Hid _ from hT8)
              clear hT8
              have HS : Hid (∀ W' : World, Below w8.heap.size w8 W' → W'.cell? ⟨w3.heap.size, 0, none⟩ = some (.slice a0' N c0') ∧ W'.cell? ⟨w3.heap.size, 1, none⟩ = some (.slice a1' N c1') ∧ W'.cell? ⟨w3.heap.size, 2, none⟩ = some (.slice a2' N c2')) := fun W' hb => ⟨(HT8.out.below hb).b.c0, (HT8.out.below hb).b.c1, (HT8.out.below hb).b.c2⟩
              first
                | go_region_held_law (fun W' => W'.cell? ⟨w3.heap.size, 0, none⟩ = some (.slice a0' N c0') ∧ W'.cell? ⟨w3.heap.size, 1, none⟩ = some (.slice a1' N c1') ∧ W'.cell? ⟨w3.heap.size, 2, none⟩ = some (.slice a2' N c2'))
                    (first | exact HS.out _ (Below.refl _ _).drew | exact HS.out _ hB9 | exact HS.out _ hB10 | exact HS.out _ hB11 | exact HS.out _ hB12 | exact HS.out _ hB13 | fail)
                    ((first
                      | (go_at_call 21; refine (all_N _ _ Lt N _ (HT8.out.below (Below.refl _ _).drew).d HT8.out.len).mono ?_; rintro e w9 ⟨ao9, cap9, ps9, rfl, ho9, hp9, hb9⟩; have hB9 : Below w8.heap.size w8 w9 := ⟨hb9.os, hb9.tape, hb9.output, hb9.size, hb9.block⟩; obtain ⟨qs9, hq91, hq92, hq93⟩ := (HT8.out.below hB9).r.now)
                      | (go_at_call 20; with_reducible refine (same_true ao9 cap9 N a0' c0' ps9 qs9 w9 ho9.own.rd hq91 (fun p hp => (ho9.el p hp).rd) (fun p hp => (hq93 p hp).1) (by have := congrArg List.length hp9; simp at this; have := HT8.out.len; omega) (by rw [hp9, hq92]) (by have := HT8.out.d.le; have := HT8.out.len; omega)).mono ?_; rintro e w10 ⟨rfl, j10, hw10⟩; have hB10 : Below w8.heap.size w8 w10 := (by rw [hw10]; exact below_drewN hB9 _); clear hw10)
                      | (go_at_call 23; refine (loose_N _ _ Lt N _ (HT8.out.below hB10).d HT8.out.len).mono ?_; rintro e w11 ⟨ao11, cap11, rfl, ho11, hb11⟩; have hB11 := below_step hB10 hb11)
                      | (go_at_call 24; refine (refLoose_any _ _ _ _ _ _ _ N Lt _ (HT8.out.below hB11).r HT8.out.len).mono ?_; rintro e w12 ⟨ao12, cap12, rfl, ho12, hb12⟩; have hB12 := below_step hB11 hb12)
                      | (go_at_call 22; with_reducible refine (sameInts_true ao11 cap11 (looseK Lt N).length ao12 cap12 (looseK Lt N) w12 (ho11.rd.below hb12) ho12.rd rfl (by have := looseK_length Lt N; omega)).mono ?_; rintro e w13 ⟨rfl, j13, hw13⟩; have hB13 : Below w8.heap.size w8 w13 := (by rw [hw13]; exact below_drewN hB12 _); clear hw13)
                      | fail))
                | fail
              have hT13 := HT8.out.below hB13
              have HT13 := (show Hid _ from hT13)
              clear hT13
              go_wp2
              go_roundw
              case rel => exact ⟨k + 1, Lt, _, _, _, _, _, _, by omega, by go_num, ⟨HT13.out.len, HT13.out.good, HT13.out.d, HT13.out.r⟩, HT13.out.b, HT13.out.bel, by have := HT13.out.b.lt; omega⟩
              case measure => simp [intOf]; omega
            · obtain ⟨j, rfl, hj⟩ := hasB_nat hh
              have r3' := hT.a.c1
              go_wp2_with (first
                | (go_at_call 9; refine (read_ok _ _ Lt j _ hT.d (by have := hT.len; omega)).mono ?_; rintro e w7 ⟨ao7, n7, cap7, rfl, _, _, hb7⟩; have hT7 := hT.below hb7; have r0 := hT7.b.c0; have r1 := hT7.b.c1; have r2 := hT7.b.c2; have r3 := hT7.a.c1)
                | (go_at_call 19; refine (refRead_ok _ _ _ _ _ _ _ N Lt j _ hT7.r hT.len (by have := hT.len; omega)).mono ?_; rintro e w8 ⟨v8, rfl, hb8⟩; have hT8 := hT7.below hb8)
                | fail)
              have HT8 := (show Hid _ from hT8)
              clear hT8
              have HS : Hid (∀ W' : World, Below w8.heap.size w8 W' → W'.cell? ⟨w3.heap.size, 0, none⟩ = some (.slice a0' N c0') ∧ W'.cell? ⟨w3.heap.size, 1, none⟩ = some (.slice a1' N c1') ∧ W'.cell? ⟨w3.heap.size, 2, none⟩ = some (.slice a2' N c2')) := fun W' hb => ⟨(HT8.out.below hb).b.c0, (HT8.out.below hb).b.c1, (HT8.out.below hb).b.c2⟩
              first
                | go_region_held_law (fun W' => W'.cell? ⟨w3.heap.size, 0, none⟩ = some (.slice a0' N c0') ∧ W'.cell? ⟨w3.heap.size, 1, none⟩ = some (.slice a1' N c1') ∧ W'.cell? ⟨w3.heap.size, 2, none⟩ = some (.slice a2' N c2'))
                    (first | exact HS.out _ (Below.refl _ _).drew | exact HS.out _ hB9 | exact HS.out _ hB10 | exact HS.out _ hB11 | exact HS.out _ hB12 | exact HS.out _ hB13 | fail)
                    ((first
                      | (go_at_call 21; refine (all_N _ _ Lt N _ (HT8.out.below (Below.refl _ _).drew).d HT8.out.len).mono ?_; rintro e w9 ⟨ao9, cap9, ps9, rfl, ho9, hp9, hb9⟩; have hB9 : Below w8.heap.size w8 w9 := ⟨hb9.os, hb9.tape, hb9.output, hb9.size, hb9.block⟩; obtain ⟨qs9, hq91, hq92, hq93⟩ := (HT8.out.below hB9).r.now)
                      | (go_at_call 20; with_reducible refine (same_true ao9 cap9 N a0' c0' ps9 qs9 w9 ho9.own.rd hq91 (fun p hp => (ho9.el p hp).rd) (fun p hp => (hq93 p hp).1) (by have := congrArg List.length hp9; simp at this; have := HT8.out.len; omega) (by rw [hp9, hq92]) (by have := HT8.out.d.le; have := HT8.out.len; omega)).mono ?_; rintro e w10 ⟨rfl, j10, hw10⟩; have hB10 : Below w8.heap.size w8 w10 := (by rw [hw10]; exact below_drewN hB9 _); clear hw10)
                      | (go_at_call 23; refine (loose_N _ _ Lt N _ (HT8.out.below hB10).d HT8.out.len).mono ?_; rintro e w11 ⟨ao11, cap11, rfl, ho11, hb11⟩; have hB11 := below_step hB10 hb11)
                      | (go_at_call 24; refine (refLoose_any _ _ _ _ _ _ _ N Lt _ (HT8.out.below hB11).r HT8.out.len).mono ?_; rintro e w12 ⟨ao12, cap12, rfl, ho12, hb12⟩; have hB12 := below_step hB11 hb12)
                      | (go_at_call 22; with_reducible refine (sameInts_true ao11 cap11 (looseK Lt N).length ao12 cap12 (looseK Lt N) w12 (ho11.rd.below hb12) ho12.rd rfl (by have := looseK_length Lt N; omega)).mono ?_; rintro e w13 ⟨rfl, j13, hw13⟩; have hB13 : Below w8.heap.size w8 w13 := (by rw [hw13]; exact below_drewN hB12 _); clear hw13)
                      | fail))
                | fail
              have hT13 := HT8.out.below hB13
              have HT13 := (show Hid _ from hT13)
              clear hT13
              go_wp2
              go_roundw
              case rel => exact ⟨k + 1, Lt, _, _, _, _, _, _, by omega, by go_num, ⟨HT13.out.len, HT13.out.good, HT13.out.d, HT13.out.r⟩, HT13.out.b, HT13.out.bel, by have := HT13.out.b.lt; omega⟩
              case measure => simp [intOf]; omega

    · go_wp2
      go_ret
      exact ⟨rfl, hbel⟩

end Go.Proofs.Ytnapkcejpllmcaa
