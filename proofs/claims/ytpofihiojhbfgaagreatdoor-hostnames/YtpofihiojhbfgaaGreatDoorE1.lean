/- Package host: a session in memory. No walk. pump of a session of package host, walked: where the link has room for all of the outbox. -/
import Derived.Test.YtpofihiojhbfgaaGreatDoorB6
import Derived.Test.YtpofihiojhbfgaaGreatDoorC7
import Derived.Test.YtpofihiojhbfgaaGreatDoorA5
import Derived.Test.YtpofihiojhbfgaaGreatDoorB4
import Derived.Deep.RegionHeldLaw
namespace Go.Proofs.YtpofihiojhbfgaaGreatDoor
open Go.RowKit
set_option linter.unusedVariables false
set_option maxRecDepth 8000

theorem hidOf {p : Prop} (h : p) : Hid p := h
abbrev seO (ep : Int) (l : Nat) (xo : Option Addr) (n xc : Nat) (si : Int) (fr : Bool) : Obj := .cells #[.int .i64 ep, cp l, .slice xo n xc, .int .i64 si, .bool fr] 66
theorem se_cells {w : World} {t : Nat} {ep : Int} {l : Nat} {xo : Option Addr} {n xc : Nat} {si : Int} {fr : Bool} (h : w.heap[t]? = some (seO ep l xo n xc si fr)) : w.cell? ⟨t, 0, none⟩ = some (.int .i64 ep) ∧ w.cell? ⟨t, 1, none⟩ = some (cp l) ∧ w.cell? ⟨t, 2, none⟩ = some (.slice xo n xc) ∧ w.cell? ⟨t, 3, none⟩ = some (.int .i64 si) ∧ w.cell? ⟨t, 4, none⟩ = some (.bool fr) := by
  refine ⟨?_, ?_, ?_, ?_, ?_⟩
  all_goals rw [cell_of_row _ _ _ _ _ _ h]; rfl
theorem se_fz {w : World} {t : Nat} {ep : Int} {l : Nat} {xo : Option Addr} {n xc : Nat} {si : Int} {fr : Bool} (h : w.heap[t]? = some (seO ep l xo n xc si fr)) (j : Nat) : w.frozen? ⟨t, j, none⟩ = false := frozen_of_row _ _ _ _ _ h

structure Sk (w : World) (D Y : Nat → Prop) (t l : Nat) (xo : Option Addr) (n xc : Nat) (vs : List Value) (I : LkI) (L : List (List Nat)) (sn h : Nat) (si : Int) (fr : Bool) (bss : List (List Nat)) : Prop where
  blk : w.heap[t]? = some (seO I.ep l xo n xc si fr)
  lk : Lw w D l I L sn h
  row : OwnS w 0 31 xo xc vs
  bys : Lnk.Bys w Y vs bss
  len : vs.length = n
  td : ¬ D t
  xd : ∀ x, xo = some x → x.block ≠ t ∧ ¬ D x.block ∧ x.block < w.heap.size
  yd : ∀ k, Y k → ¬ D k

def Se (w : World) (Z : Nat → Prop) (t : Nat) (I : LkI) (L : List (List Nat)) (sn h : Nat) (si : Int) (fr : Bool) (bss : List (List Nat)) : Prop :=
  ∃ D Y l xo n xc vs, Sk w D Y t l xo n xc vs I L sn h si fr bss ∧ Z t ∧ (∀ k, D k → Z k) ∧ (∀ k, Y k → Z k) ∧ (∀ x, xo = some x → Z x.block) ∧ ∀ k, Z k → k < w.heap.size

section
variable {w w' : World} {Z : Nat → Prop} {t : Nat} {I : LkI} {L : List (List Nat)} {sn h : Nat} {si : Int} {fr : Bool} {bss : List (List Nat)}
theorem Se.lt (H : Se w Z t I L sn h si fr bss) : ∀ k, Z k → k < w.heap.size := by
  obtain ⟨D, Y, l, xo, n, xc, vs, h1, h2, h3, h4, h5, h6⟩ := H
  exact h6
theorem Se.own (H : Se w Z t I L sn h si fr bss) : Z t := by
  obtain ⟨D, Y, l, xo, n, xc, vs, h1, h2, h3, h4, h5, h6⟩ := H
  exact h2
theorem Se.keep (H : Se w Z t I L sn h si fr bss) (hs : w.heap.size ≤ w'.heap.size) (hk : ∀ k, Z k → w'.heap[k]? = w.heap[k]?) : Se w' Z t I L sn h si fr bss := by
  obtain ⟨D, Y, l, xo, n, xc, vs, h1, h2, h3, h4, h5, h6⟩ := H
  refine ⟨D, Y, l, xo, n, xc, vs, ⟨(hk t h2).trans h1.blk, h1.lk.keep hs fun k hD => hk k (h3 k hD), h1.row.keep fun x hx => hk _ (h5 x hx), ⟨h1.bys.len, fun i v bs e1 e2 => (h1.bys.each i v bs e1 e2).kept ⟨hs, fun k _ hY => hk k (h4 k hY)⟩⟩, h1.len, h1.td, fun x hx => ⟨(h1.xd x hx).1, (h1.xd x hx).2.1, Nat.lt_of_lt_of_le (h1.xd x hx).2.2 hs⟩, h1.yd⟩, h2, h3, h4, h5, fun k hZ => Nat.lt_of_lt_of_le (h6 k hZ) hs⟩
theorem Se.below (H : Se w Z t I L sn h si fr bss) (hb : Below w.heap.size w w') : Se w' Z t I L sn h si fr bss := H.keep hb.size fun k hk => hb.block k (H.lt k hk)
theorem Se.cells (H : Se w Z t I L sn h si fr bss) : ∃ l v, w.cell? ⟨t, 0, none⟩ = some (.int .i64 I.ep) ∧ w.cell? ⟨t, 1, none⟩ = some (cp l) ∧ w.cell? ⟨t, 2, none⟩ = some v ∧ w.cell? ⟨t, 3, none⟩ = some (.int .i64 si) ∧ w.cell? ⟨t, 4, none⟩ = some (.bool fr) := by
  obtain ⟨D, Y, l, xo, n, xc, vs, h1, h2, h3, h4, h5, h6⟩ := H
  obtain ⟨c0, c1, c2, c3, c4⟩ := se_cells h1.blk
  exact ⟨l, _, c0, c1, c2, c3, c4⟩
end

abbrev hoO (bo pa : Int) (gs d : Nat) (s1 : Option Addr) (e1 : Int) (co : Value) : Obj := .cells #[.int .i64 bo, .int .i64 pa, tp gs, Dsk.dp d, .pointer none, .pointer s1, .pointer none, .pointer none, .int .i64 0, .int .i64 e1, .int .i64 0, .int .i64 0, co] 62
structure Hc (w : World) (h : Nat) (bo pa : Int) (gs d : Nat) (s1 : Option Addr) (e1 : Int) (co : Value) : Prop where
  c0 : w.cell? ⟨h, 0, none⟩ = some (.int .i64 bo)
  c1 : w.cell? ⟨h, 1, none⟩ = some (.int .i64 pa)
  c2 : w.cell? ⟨h, 2, none⟩ = some (tp gs)
  c3 : w.cell? ⟨h, 3, none⟩ = some (Dsk.dp d)
  c4 : w.cell? ⟨h, 4, none⟩ = some (.pointer none)
  c5 : w.cell? ⟨h, 5, none⟩ = some (.pointer s1)
  c6 : w.cell? ⟨h, 6, none⟩ = some (.pointer none)
  c7 : w.cell? ⟨h, 7, none⟩ = some (.pointer none)
  c8 : w.cell? ⟨h, 8, none⟩ = some (.int .i64 0)
  c9 : w.cell? ⟨h, 9, none⟩ = some (.int .i64 e1)
  cA : w.cell? ⟨h, 10, none⟩ = some (.int .i64 0)
  cB : w.cell? ⟨h, 11, none⟩ = some (.int .i64 0)
  cC : w.cell? ⟨h, 12, none⟩ = some co
theorem ho_cells {w : World} {h : Nat} {bo pa : Int} {gs d : Nat} {s1 : Option Addr} {e1 : Int} {co : Value} (H : w.heap[h]? = some (hoO bo pa gs d s1 e1 co)) : Hc w h bo pa gs d s1 e1 co := by
  refine ⟨?_, ?_, ?_, ?_, ?_, ?_, ?_, ?_, ?_, ?_, ?_, ?_, ?_⟩
  all_goals rw [cell_of_row _ _ _ _ _ _ H]; rfl
theorem ho_fz {w : World} {h : Nat} {bo pa : Int} {gs d : Nat} {s1 : Option Addr} {e1 : Int} {co : Value} (H : w.heap[h]? = some (hoO bo pa gs d s1 e1 co)) (j : Nat) : w.frozen? ⟨h, j, none⟩ = false := frozen_of_row _ _ _ _ _ H

end Go.Proofs.YtpofihiojhbfgaaGreatDoor

namespace Go.Proofs.YtpofihiojhbfgaaGreatDoor
open Go.RowKit
set_option linter.unusedVariables false
set_option maxRecDepth 8000

theorem bel0 (w : World) : Below w.heap.size w w.drew := ⟨rfl, rfl, rfl, Nat.le_refl _, fun _ _ => rfl⟩
structure Pu (w W : World) (D Y : Nat → Prop) (g : Nat) (o : Obj) (l : Nat) (I : LkI) (L : List (List Nat)) (sn h : Nat) (xo : Option Addr) (xc : Nat) (vs : List Value) (bss : List (List Nat)) : Prop where
  lk : ∃ D', (∀ k, D' k → D k ∨ w.heap.size ≤ k) ∧ Lw W D' l I L sn h
  blk : W.heap[g]? = some o
  row : OwnS W 0 31 xo xc vs
  bys : Lnk.Bys W (fun k => Y k ∧ k < w.heap.size) vs bss
  off : OffS D w W
structure Pc (w : World) (D Y : Nat → Prop) (g : Nat) (xo : Option Addr) : Prop where
  hg : g < w.heap.size ∧ ¬ D g
  hx : ∀ x, xo = some x → x.block < w.heap.size ∧ x.block ≠ g ∧ ¬ D x.block
  hy : ∀ k, Y k → ¬ D k

theorem Pu.step {w W W' : World} {D D' Y : Nat → Prop} {g : Nat} {o : Obj} {l : Nat} {I : LkI} {L L2 : List (List Nat)} {sn h s2 : Nat} {xo : Option Addr} {xc : Nat} {vs : List Value} {bss : List (List Nat)} (H : Pu w W D Y g o l I L sn h xo xc vs bss) (hC : Pc w D Y g xo) (hD : ∀ k, D' k → D k ∨ w.heap.size ≤ k) (hn : Nl W W' D' l I L2 s2 h) : Pu w W' D Y g o l I L2 s2 h xo xc vs bss ∧ W'.heap[g]? = W.heap[g]? ∧ ∀ x, xo = some x → W'.heap[x.block]? = W.heap[x.block]? := by
  have hs := H.off.size
  have h0 : ∀ k, k < w.heap.size → ¬ D k → W'.heap[k]? = W.heap[k]? := fun k hk hn' => hn.off.block k (by omega) fun e => by
    rcases hD k e with h' | h'
    · exact hn' h'
    · omega
  have hg := h0 g hC.hg.1 hC.hg.2
  have hx : ∀ x, xo = some x → W'.heap[x.block]? = W.heap[x.block]? := fun x hx => h0 _ (hC.hx x hx).1 (hC.hx x hx).2.2
  obtain ⟨D2, h1, h2⟩ := hn.lk
  refine ⟨⟨⟨D2, fun k hk => ?_, h2⟩, hg.trans H.blk, H.row.keep hx, ⟨H.bys.len, fun i v bs e1 e2 => (H.bys.each i v bs e1 e2).kept ⟨hn.size, fun k hk hY => h0 k hY.2 (hC.hy k hY.1)⟩⟩, H.off.trans (hn.off.mono hD)⟩, hg, hx⟩
  rcases h1 k hk with h' | h'
  · exact hD k h'
  · exact .inr (Nat.le_trans hs h')

set_option maxHeartbeats 3200000 in
theorem pump_any {w : World} {D Y : Nat → Prop} {g : Nat} {ep : Int} {l : Nat} {si : Int} {fr : Bool} {xo : Option Addr} {n xc : Nat} {I : LkI} {L : List (List Nat)} {sn h : Nat} {vs : List Value} {bss : List (List Nat)}
    (hC : Pc w D Y g xo) (H : Pu w w D Y g (seO ep l xo n xc si fr) l I L sn h xo xc vs bss) (hn : vs.length = n) (hl : L.length + n ≤ 8) (hs : sn + n ≤ 16777215) (hb : ∀ b ∈ bss, b.length ≤ 700) :
    Calls Tryz.prog 21 #[cp g] w fun e w' => ∃ v M, e = .returned v ∧ (w.heap.size ≤ M ∧ M ≤ w'.heap.size) ∧ Lnk.Pks w' M (fun k => M ≤ k) v (Lnk.pksOf I (L ++ bss) (sn + n) h) ∧ (∃ D', (∀ k, D' k → (D k ∨ w.heap.size ≤ k) ∧ k < M) ∧ Lw w' D' l I (L ++ bss) (sn + n) h) ∧ OwnS w' 0 31 xo xc [] ∧ w'.heap[g]? = some (seO ep l xo 0 xc si false) ∧ OffS (fun k => D k ∨ k = g ∨ Ro xo k) w w' := by
  have HA : Hid (Pc w D Y g xo ∧ vs.length = n ∧ L.length + n ≤ 8 ∧ sn + n ≤ 16777215 ∧ (∀ b ∈ bss, b.length ≤ 700) ∧ bss.length = n) := ⟨hC, hn, hl, hs, hb, by rw [← H.bys.len, hn]⟩
  have H0 : Hid (Pu w w D Y g (seO ep l xo n xc si fr) l I (L ++ bss.take 0) (sn + 0) h xo xc vs bss) := by simpa [Hid] using H
  clear hC H hb hs hn
  have hn8 : n ≤ 8 := by omega
  clear hl
  go_enter Tryz.func21, Tryz.ntmps21
  go_wp2
  go_loopw [3] (fun t wr => ∃ k : Nat, k ≤ n ∧ t = .int .i64 k ∧ Hid (Pu w wr D Y g (seO ep l xo n xc si fr) l I (L ++ bss.take k) (sn + k) h xo xc vs bss)) (fun t _ => n - (intOf t).toNat)
  case atStart => exact ⟨0, Nat.zero_le _, rfl, H0⟩
  case round =>
    obtain ⟨k, hk, rfl, HI⟩ := hrel
    rename World => wr
    clear H0
    by_cases hlt : k < n
    · obtain ⟨D', hD', hL'⟩ := HI.out.lk
      have HX : Hid ((∀ k, D' k → D k ∨ w.heap.size ≤ k) ∧ Lw wr D' l I (L ++ bss.take k) (sn + k) h) := ⟨hD', hL'⟩
      clear hD' hL'
      have hkv : k < vs.length := by rw [HA.out.2.1]; exact hlt
      have hkb : k < bss.length := by rw [HA.out.2.2.2.2.2]; exact hlt
      obtain ⟨r, rfl⟩ := HI.out.row.place (by omega)
      obtain ⟨ax, m, cx, hv, hr, -, -⟩ := HI.out.bys.each k vs[k] bss[k] (by simp) (by simp)
      have HV : Hid (Rd8 wr ax m cx bss[k] ∧ wr.cell? ⟨r, k, none⟩ = some (.slice ax m cx) ∧ m ≤ 700 ∧ L ++ bss.take k ++ [bss[k]] = L ++ bss.take (k + 1) ∧ (L ++ bss.take k).length < 8 ∧ sn + k < 16777215) := by
        refine ⟨hr, ?_, ?_, ?_, ?_, ?_⟩
        · rw [World.ownsRow.cellAt HI.out.row k (by omega), ← hv]; simp
        · have := HA.out.2.2.2.2.1 bss[k] (List.getElem_mem _)
          have := hr.len
          omega
        · rw [List.append_assoc, List.take_succ_eq_append_getElem hkb]
        · rw [List.length_append, List.length_take]
          have := HA.out.2.2.1
          omega
        · have := HA.out.2.2.2.1
          omega
      clear hv hr
      have HC : Hid (∀ U : World, (∀ j, j = g ∨ j = r → U.heap[j]? = wr.heap[j]?) → U.cell? ⟨g, 1, none⟩ = some (cp l) ∧ U.cell? ⟨g, 2, none⟩ = some (.slice (some ⟨r, 0, none⟩) n xc) ∧ U.cell? ⟨r, k, none⟩ = some (.slice ax m cx)) := by
        intro U hU
        obtain ⟨c0, c1, c2, c3, c4⟩ := se_cells ((hU g (.inl rfl)).trans HI.out.blk)
        exact ⟨c1, c2, (World.cell?_of_block (w := wr) (w' := U) (a := ⟨r, k, none⟩) (hU r (.inr rfl))).trans HV.out.2.1⟩
      have HT : Hid (Calls Tryz.prog 42 #[cp l, .slice ax m cx] wr.drew fun e w' => e = .returned (.int .i64 0) ∧ (∀ j, j = g ∨ j = r → w'.heap[j]? = wr.heap[j]?) ∧ Hid (Pu w w' D Y g (seO ep l (some ⟨r, 0, none⟩) n xc si fr) l I (L ++ bss.take (k + 1)) (sn + (k + 1)) h (some ⟨r, 0, none⟩) xc vs bss)) := by
        refine (pushW (HX.out.2.below (bel0 wr)) ax m cx bss[k] (HV.out.1.below (bel0 wr)) HV.out.2.2.1 HV.out.2.2.2.2.1 HV.out.2.2.2.2.2).mono ?_
        rintro e w' ⟨rfl, hn'⟩
        obtain ⟨t1, t2, t3⟩ := HI.out.step HA.out.1 HX.out.1 (hn'.older (bel0 wr))
        refine ⟨rfl, ?_, ?_⟩
        · rintro j (rfl | rfl)
          · exact t2
          · exact t3 _ rfl
        · rw [HV.out.2.2.2.1, Nat.add_assoc] at t1
          exact t1
      clear HX HV hkv hkb
      go_upto_region 2 with fail
      refine wp_region_held (S := fun U => ∀ j, j = g ∨ j = r → U.heap[j]? = wr.heap[j]?) (by kernel_rfl) ?_
      have hS : ∀ j, j = g ∨ j = r → wr.drew.heap[j]? = wr.heap[j]? := fun _ _ => rfl
      refine held_val (i := 0) ?_ 4 rfl rfl (by kernel_rfl) (by kernel_rfl) (by kernel_rfl) (by rfl) (fun _ _ _ h => h) hS ?_ ?_
      rotate_left
      · (intro w hSw; go_simp; first | done | with_reducible rfl)
      simp only [Act.put, List.setIfInBounds_toArray, List.set_cons_zero, List.set_cons_succ]
      refine held_val (i := 1) ?_ 5 rfl rfl (by kernel_rfl) (by kernel_rfl) (by kernel_rfl) (by rfl) (fun _ _ _ h => h) hS ?_ ?_
      rotate_left
      · (intro w hSw; go_simp; first | done | with_reducible rfl)
      simp only [Act.put, List.setIfInBounds_toArray, List.set_cons_zero, List.set_cons_succ]
      refine held_val (i := 2) ?_ 6 rfl rfl (by kernel_rfl) (by kernel_rfl) (by kernel_rfl) (by rfl) (fun _ _ _ h => h) hS ?_ ?_
      rotate_left
      · (intro w hSw; go_simp; first | done | with_reducible rfl)
      simp only [Act.put, List.setIfInBounds_toArray, List.set_cons_zero, List.set_cons_succ]
      refine held_val (i := 3) ?_ 7 rfl rfl (by kernel_rfl) (by kernel_rfl) (by kernel_rfl) (by rfl) (fun _ _ _ h => h) hS ?_ ?_
      rotate_left
      · (intro w hSw; go_simp; first | done | with_reducible rfl)
      simp only [Act.put, List.setIfInBounds_toArray, List.set_cons_zero, List.set_cons_succ]
      refine held_val (i := 4) ?_ 8 rfl rfl (by kernel_rfl) (by kernel_rfl) (by kernel_rfl) (by rfl) (fun _ _ _ h => h) hS ?_ ?_
      rotate_left
      · (intro w hSw; obtain ⟨k3, k5, kr⟩ := HC.out w hSw; go_simp; first | done | with_reducible rfl)
      simp only [Act.put, List.setIfInBounds_toArray, List.set_cons_zero, List.set_cons_succ]
      refine held_val (i := 5) ?_ 9 rfl rfl (by kernel_rfl) (by kernel_rfl) (by kernel_rfl) (by rfl) (fun _ _ _ h => h) hS ?_ ?_
      rotate_left
      · (intro w hSw; go_simp; first | done | with_reducible rfl)
      simp only [Act.put, List.setIfInBounds_toArray, List.set_cons_zero, List.set_cons_succ]
      refine held_val (i := 6) ?_ 10 rfl rfl (by kernel_rfl) (by kernel_rfl) (by kernel_rfl) (by rfl) (fun _ _ _ h => h) hS ?_ ?_
      rotate_left
      · (intro w hSw; go_simp; first | done | with_reducible rfl)
      simp only [Act.put, List.setIfInBounds_toArray, List.set_cons_zero, List.set_cons_succ]
      refine held_val (i := 7) ?_ 11 rfl rfl (by kernel_rfl) (by kernel_rfl) (by kernel_rfl) (by rfl) (fun _ _ _ h => h) hS ?_ ?_
      rotate_left
      · (intro w hSw; go_simp; first | done | with_reducible rfl)
      simp only [Act.put, List.setIfInBounds_toArray, List.set_cons_zero, List.set_cons_succ]
      refine held_val (i := 8) ?_ 12 rfl rfl (by kernel_rfl) (by kernel_rfl) (by kernel_rfl) (by rfl) (fun _ _ _ h => h) hS ?_ ?_
      rotate_left
      · (intro w hSw; go_simp; first | done | with_reducible rfl)
      simp only [Act.put, List.setIfInBounds_toArray, List.set_cons_zero, List.set_cons_succ]
      refine held_val (i := 9) ?_ 13 rfl rfl (by kernel_rfl) (by kernel_rfl) (by kernel_rfl) (by rfl) (fun _ _ _ h => h) hS ?_ ?_
      rotate_left
      · (intro w hSw; go_simp; first | done | with_reducible rfl)
      simp only [Act.put, List.setIfInBounds_toArray, List.set_cons_zero, List.set_cons_succ]
      refine held_val (i := 10) ?_ 14 rfl rfl (by kernel_rfl) (by kernel_rfl) (by kernel_rfl) (by rfl) (fun _ _ _ h => h) hS ?_ ?_
      rotate_left
      · (intro w hSw; go_simp; first | done | with_reducible rfl)
      simp only [Act.put, List.setIfInBounds_toArray, List.set_cons_zero, List.set_cons_succ]
      refine held_val (i := 11) ?_ 15 rfl rfl (by kernel_rfl) (by kernel_rfl) (by kernel_rfl) (by rfl) (fun _ _ _ h => h) hS ?_ ?_
      rotate_left
      · (intro w hSw; obtain ⟨k3, k5, kr⟩ := HC.out w hSw; go_simp; first | done | with_reducible rfl)
      simp only [Act.put, List.setIfInBounds_toArray, List.set_cons_zero, List.set_cons_succ]
      refine held_val (i := 12) ?_ 16 rfl rfl (by kernel_rfl) (by kernel_rfl) (by kernel_rfl) (by rfl) (fun _ _ _ h => h) hS ?_ ?_
      rotate_left
      · (intro w hSw; go_simp; first | done | with_reducible rfl)
      simp only [Act.put, List.setIfInBounds_toArray, List.set_cons_zero, List.set_cons_succ]
      refine held_val (i := 13) ?_ 17 rfl rfl (by kernel_rfl) (by kernel_rfl) (by kernel_rfl) (by rfl) (fun _ _ _ h => h) hS ?_ ?_
      rotate_left
      · (intro w hSw; go_simp; first | done | with_reducible rfl)
      simp only [Act.put, List.setIfInBounds_toArray, List.set_cons_zero, List.set_cons_succ]
      refine held_val (i := 14) ?_ 18 rfl rfl (by kernel_rfl) (by kernel_rfl) (by kernel_rfl) (by rfl) (fun _ _ _ h => h) hS ?_ ?_
      rotate_left
      · (intro w hSw; go_simp; first | done | with_reducible rfl)
      simp only [Act.put, List.setIfInBounds_toArray, List.set_cons_zero, List.set_cons_succ]
      refine held_val (i := 15) ?_ 19 rfl rfl (by kernel_rfl) (by kernel_rfl) (by kernel_rfl) (by rfl) (fun _ _ _ h => h) hS ?_ ?_
      rotate_left
      · (intro w hSw; obtain ⟨k3, k5, kr⟩ := HC.out w hSw; go_simp; first | done | with_reducible rfl)
      simp only [Act.put, List.setIfInBounds_toArray, List.set_cons_zero, List.set_cons_succ]
      refine held_val (i := 16) ?_ 20 rfl rfl (by kernel_rfl) (by kernel_rfl) (by kernel_rfl) (by rfl) (fun _ _ _ h => h) hS ?_ ?_
      rotate_left
      · (intro w hSw; go_simp; first | done | with_reducible rfl)
      simp only [Act.put, List.setIfInBounds_toArray, List.set_cons_zero, List.set_cons_succ]
      refine held_val (i := 17) ?_ 21 rfl rfl (by kernel_rfl) (by kernel_rfl) (by kernel_rfl) (by rfl) (fun _ _ _ h => h) hS ?_ ?_
      rotate_left
      · (intro w hSw; go_simp; first | done | with_reducible rfl)
      simp only [Act.put, List.setIfInBounds_toArray, List.set_cons_zero, List.set_cons_succ]
      refine held_val (i := 18) ?_ 22 rfl rfl (by kernel_rfl) (by kernel_rfl) (by kernel_rfl) (by rfl) (fun _ _ _ h => h) hS ?_ ?_
      rotate_left
      · (intro w hSw; obtain ⟨k3, k5, kr⟩ := HC.out w hSw; go_simp; first | done | with_reducible rfl)
      simp only [Act.put, List.setIfInBounds_toArray, List.set_cons_zero, List.set_cons_succ]
      refine held_call (i := 19) 23 42 #[cp l, .slice ax m cx] rfl rfl (by kernel_rfl) (by rfl) (by simp [go_sem]) HT.out ?_
      rintro e w19 ⟨rfl, hSx, HP⟩
      refine ⟨_, rfl, hSx, ?_⟩
      have hS19 := hSx
      simp only [Act.put, List.setIfInBounds_toArray, List.set_cons_zero, List.set_cons_succ]
      refine held_val (i := 20) ?_ 24 rfl rfl (by kernel_rfl) (by kernel_rfl) (by kernel_rfl) (by rfl) (fun _ _ _ h => h) hS19 ?_ ?_
      rotate_left
      · (intro w hSw; go_simp; first | done | with_reducible rfl)
      simp only [Act.put, List.setIfInBounds_toArray, List.set_cons_zero, List.set_cons_succ]
      refine held_val (i := 21) ?_ 25 rfl rfl (by kernel_rfl) (by kernel_rfl) (by kernel_rfl) (by rfl) (fun _ _ _ h => h) hS19 ?_ ?_
      rotate_left
      · (intro w hSw; go_simp; first | done | with_reducible rfl)
      simp only [Act.put, List.setIfInBounds_toArray, List.set_cons_zero, List.set_cons_succ]
      refine wpAnyH_done (by kernel_rfl) ?_ _
      clear HT HC
      go_wp2
      go_roundw
      case rel => exact ⟨k + 1, by omega, by go_num, HP⟩
      case measure => simp [intOf]; omega
    · have hkn : k = n := by omega
      subst hkn
      have HC : Hid (∀ U : World, U.heap[g]? = wr.heap[g]? → U.cell? ⟨g, 1, none⟩ = some (cp l) ∧ U.cell? ⟨g, 2, none⟩ = some (.slice xo k xc)) := by
        intro U hU
        obtain ⟨c0, c1, c2, c3, c4⟩ := se_cells (hU.trans HI.out.blk)
        exact ⟨c1, c2⟩
      go_upto_region 2 with fail
      refine wp_region_held (S := fun U => U.heap[g]? = wr.heap[g]?) (by kernel_rfl) ?_
      have hS : wr.drew.heap[g]? = wr.heap[g]? := rfl
      refine held_val (i := 0) ?_ 4 rfl rfl (by kernel_rfl) (by kernel_rfl) (by kernel_rfl) (by rfl) (fun _ _ _ h => h) hS ?_ ?_
      rotate_left
      · (intro w hSw; go_simp; first | done | with_reducible rfl)
      simp only [Act.put, List.setIfInBounds_toArray, List.set_cons_zero, List.set_cons_succ]
      refine held_val (i := 1) ?_ 5 rfl rfl (by kernel_rfl) (by kernel_rfl) (by kernel_rfl) (by rfl) (fun _ _ _ h => h) hS ?_ ?_
      rotate_left
      · (intro w hSw; go_simp; first | done | with_reducible rfl)
      simp only [Act.put, List.setIfInBounds_toArray, List.set_cons_zero, List.set_cons_succ]
      refine held_val (i := 2) ?_ 6 rfl rfl (by kernel_rfl) (by kernel_rfl) (by kernel_rfl) (by rfl) (fun _ _ _ h => h) hS ?_ ?_
      rotate_left
      · (intro w hSw; go_simp; first | done | with_reducible rfl)
      simp only [Act.put, List.setIfInBounds_toArray, List.set_cons_zero, List.set_cons_succ]
      refine held_val (i := 3) ?_ 7 rfl rfl (by kernel_rfl) (by kernel_rfl) (by kernel_rfl) (by rfl) (fun _ _ _ h => h) hS ?_ ?_
      rotate_left
      · (intro w hSw; go_simp; first | done | with_reducible rfl)
      simp only [Act.put, List.setIfInBounds_toArray, List.set_cons_zero, List.set_cons_succ]
      refine held_val (i := 4) ?_ 8 rfl rfl (by kernel_rfl) (by kernel_rfl) (by kernel_rfl) (by rfl) (fun _ _ _ h => h) hS ?_ ?_
      rotate_left
      · (intro w hSw; obtain ⟨k3, k5⟩ := HC.out w hSw; go_simp; first | done | with_reducible rfl)
      simp only [Act.put, List.setIfInBounds_toArray, List.set_cons_zero, List.set_cons_succ]
      refine held_val (i := 5) ?_ 9 rfl rfl (by kernel_rfl) (by kernel_rfl) (by kernel_rfl) (by rfl) (fun _ _ _ h => h) hS ?_ ?_
      rotate_left
      · (intro w hSw; go_simp; first | done | with_reducible rfl)
      simp only [Act.put, List.setIfInBounds_toArray, List.set_cons_zero, List.set_cons_succ]
      refine held_val (i := 6) ?_ 10 rfl rfl (by kernel_rfl) (by kernel_rfl) (by kernel_rfl) (by rfl) (fun _ _ _ h => h) hS ?_ ?_
      rotate_left
      · (intro w hSw; go_simp; first | done | with_reducible rfl)
      simp only [Act.put, List.setIfInBounds_toArray, List.set_cons_zero, List.set_cons_succ]
      refine held_val (i := 7) ?_ 11 rfl rfl (by kernel_rfl) (by kernel_rfl) (by kernel_rfl) (by rfl) (fun _ _ _ h => h) hS ?_ ?_
      rotate_left
      · (intro w hSw; go_simp; first | done | with_reducible rfl)
      simp only [Act.put, List.setIfInBounds_toArray, List.set_cons_zero, List.set_cons_succ]
      refine Dsk.held_skip (i := 8) 12 rfl rfl (by kernel_rfl) (by kernel_rfl) (by kernel_rfl) (by rfl) (fun _ _ _ h => h) hS ?_
      simp only [Act.put, List.setIfInBounds_toArray, List.set_cons_zero, List.set_cons_succ]
      refine Dsk.held_skip (i := 9) 13 rfl rfl (by kernel_rfl) (by kernel_rfl) (by kernel_rfl) (by rfl) (fun _ _ _ h => h) hS ?_
      simp only [Act.put, List.setIfInBounds_toArray, List.set_cons_zero, List.set_cons_succ]
      refine Dsk.held_skip (i := 10) 14 rfl rfl (by kernel_rfl) (by kernel_rfl) (by kernel_rfl) (by rfl) (fun _ _ _ h => h) hS ?_
      simp only [Act.put, List.setIfInBounds_toArray, List.set_cons_zero, List.set_cons_succ]
      refine Dsk.held_skip (i := 11) 15 rfl rfl (by kernel_rfl) (by kernel_rfl) (by kernel_rfl) (by rfl) (fun _ _ _ h => h) hS ?_
      simp only [Act.put, List.setIfInBounds_toArray, List.set_cons_zero, List.set_cons_succ]
      refine Dsk.held_skip (i := 12) 16 rfl rfl (by kernel_rfl) (by kernel_rfl) (by kernel_rfl) (by rfl) (fun _ _ _ h => h) hS ?_
      simp only [Act.put, List.setIfInBounds_toArray, List.set_cons_zero, List.set_cons_succ]
      refine Dsk.held_skip (i := 13) 17 rfl rfl (by kernel_rfl) (by kernel_rfl) (by kernel_rfl) (by rfl) (fun _ _ _ h => h) hS ?_
      simp only [Act.put, List.setIfInBounds_toArray, List.set_cons_zero, List.set_cons_succ]
      refine Dsk.held_skip (i := 14) 18 rfl rfl (by kernel_rfl) (by kernel_rfl) (by kernel_rfl) (by rfl) (fun _ _ _ h => h) hS ?_
      simp only [Act.put, List.setIfInBounds_toArray, List.set_cons_zero, List.set_cons_succ]
      refine Dsk.held_skip (i := 15) 19 rfl rfl (by kernel_rfl) (by kernel_rfl) (by kernel_rfl) (by rfl) (fun _ _ _ h => h) hS ?_
      simp only [Act.put, List.setIfInBounds_toArray, List.set_cons_zero, List.set_cons_succ]
      refine Dsk.held_skip (i := 16) 20 rfl rfl (by kernel_rfl) (by kernel_rfl) (by kernel_rfl) (by rfl) (fun _ _ _ h => h) hS ?_
      simp only [Act.put, List.setIfInBounds_toArray, List.set_cons_zero, List.set_cons_succ]
      refine Dsk.held_skip (i := 17) 21 rfl rfl (by kernel_rfl) (by kernel_rfl) (by kernel_rfl) (by rfl) (fun _ _ _ h => h) hS ?_
      simp only [Act.put, List.setIfInBounds_toArray, List.set_cons_zero, List.set_cons_succ]
      refine Dsk.held_skip (i := 18) 22 rfl rfl (by kernel_rfl) (by kernel_rfl) (by kernel_rfl) (by rfl) (fun _ _ _ h => h) hS ?_
      simp only [Act.put, List.setIfInBounds_toArray, List.set_cons_zero, List.set_cons_succ]
      refine Dsk.held_skip (i := 19) 23 rfl rfl (by kernel_rfl) (by kernel_rfl) (by kernel_rfl) (by rfl) (fun _ _ _ h => h) hS ?_
      simp only [Act.put, List.setIfInBounds_toArray, List.set_cons_zero, List.set_cons_succ]
      refine Dsk.held_skip (i := 20) 24 rfl rfl (by kernel_rfl) (by kernel_rfl) (by kernel_rfl) (by rfl) (fun _ _ _ h => h) hS ?_
      simp only [Act.put, List.setIfInBounds_toArray, List.set_cons_zero, List.set_cons_succ]
      refine held_val (i := 21) ?_ 25 rfl rfl (by kernel_rfl) (by kernel_rfl) (by kernel_rfl) (by rfl) (fun _ _ _ h => h) hS ?_ ?_
      rotate_left
      · (intro w hSw; go_simp; first | done | with_reducible rfl)
      simp only [Act.put, List.setIfInBounds_toArray, List.set_cons_zero, List.set_cons_succ]
      refine wpAnyH_done (by kernel_rfl) ?_ _
      have HT : Hid (bss.take k = bss) := List.take_of_length_le (by rw [HA.out.2.2.2.2.2]; exact Nat.le_refl _)
      obtain ⟨D', hD', hL'⟩ := HI.out.lk
      have HX : Hid ((∀ k, D' k → D k ∨ w.heap.size ≤ k) ∧ Lw wr D' l I (L ++ bss) (sn + k) h) := ⟨hD', by rw [HT.out] at hL'; exact hL'⟩
      clear hD' hL'
      have HD : Hid (Calls Tryz.prog 43 #[.slice xo k xc, .int .i64 0, .int .i64 (k : Int)] wr.drew fun e w' => e = .returned (.slice xo 0 xc) ∧ Hid (w'.heap[g]? = some (seO ep l xo k xc si fr) ∧ OwnS w' 0 31 xo xc [] ∧ OffS (Ro xo) wr w')) := by
        have hb0 := bel0 wr
        refine (deleteW xo k xc vs wr.drew (HI.out.row.keep fun _ _ => rfl) HA.out.2.1 (HI.out.bys.one) hn8 k (Nat.le_refl _)).mono ?_
        rintro e w' ⟨rfl, h1, h2⟩
        have h3 : OffS (Ro xo) wr w' := (OffS.of_below hb0).trans (h2.mono fun j hj => .inl hj)
        refine ⟨by rw [Nat.sub_self], (h3.block g ?_ ?_).trans HI.out.blk, ?_, h3⟩
        · have := HI.out.off.size
          have := HA.out.1.hg.1
          omega
        · rintro ⟨x, hx, e⟩
          exact (HA.out.1.hx x hx).2.1 e
        · rw [List.drop_of_length_le (by rw [HA.out.2.1]; exact Nat.le_refl _)] at h1
          exact h1
      obtain ⟨k3, k5⟩ := HC.out wr.drew rfl
      clear HC HT
      go_upto_region 5 with (first
        | (go_at_call 43; refine HD.out.mono ?_; rintro e w1 ⟨rfl, H1⟩; have f5 := se_fz H1.out.1 2; obtain ⟨-, -, m5, -, -⟩ := se_cells H1.out.1)
        | fail)
      have HE : Hid ((w1.setCell ⟨g, 2, none⟩ (.slice xo 0 xc)).heap[g]? = some (seO ep l xo 0 xc si fr) ∧ OffS (fun k => k = g ∨ Ro xo k) wr (w1.setCell ⟨g, 2, none⟩ (.slice xo 0 xc)) ∧ OwnS (w1.setCell ⟨g, 2, none⟩ (.slice xo 0 xc)) 0 31 xo xc []) := by
        refine ⟨?_, ?_, ?_⟩
        · rw [heap_setCell_same w1 g _ _ 66 _ H1.out.1]; rfl
        · exact (H1.out.2.2.mono fun j hj => .inr hj).setCell (.inl rfl) _
        · refine H1.out.2.1.keep fun x hx => Below.heap_setCell _ _ _ _ ?_
          exact (HA.out.1.hx x hx).2.1
      generalize w1.setCell ⟨g, 2, none⟩ (.slice xo 0 xc) = W2 at *
      obtain ⟨-, -, -, -, m4⟩ := se_cells HE.out.1
      have f4 := se_fz HE.out.1 4
      clear k3 k5 f5 m5 HD
      go_upto_region 6 with fail
      have HF : Hid ((W2.setCell ⟨g, 4, none⟩ (.bool false)).heap[g]? = some (seO ep l xo 0 xc si false) ∧ OffS (fun k => k = g ∨ Ro xo k) wr (W2.setCell ⟨g, 4, none⟩ (.bool false)) ∧ OwnS (W2.setCell ⟨g, 4, none⟩ (.bool false)) 0 31 xo xc []) := by
        refine ⟨?_, ?_, ?_⟩
        · rw [heap_setCell_same W2 g _ _ 66 _ HE.out.1]; rfl
        · exact HE.out.2.1.setCell (.inl rfl) _
        · refine HE.out.2.2.keep fun x hx => Below.heap_setCell _ _ _ _ ?_
          exact (HA.out.1.hx x hx).2.1
      generalize W2.setCell ⟨g, 4, none⟩ (.bool false) = W3 at *
      clear m4 f4 HE
      have HLw : Hid (Lw W3 D' l I (L ++ bss) (sn + k) h) := by
        refine HX.out.2.keep HF.out.2.1.size fun j hj => HF.out.2.1.block j (HX.out.2.lt j hj) ?_
        rintro (rfl | ⟨x, hx, rfl⟩)
        · rcases HX.out.1 _ hj with h' | h'
          · exact HA.out.1.hg.2 h'
          · have := HA.out.1.hg.1
            omega
        · rcases HX.out.1 _ hj with h' | h'
          · exact (HA.out.1.hx x hx).2.2 h'
          · have := (HA.out.1.hx x hx).1
            omega
      obtain ⟨c0, c1, c2, c3, c4⟩ := se_cells HF.out.1
      have HP : Hid (Calls Tryz.prog 44 #[cp l] W3 fun e w' => ∃ v, e = .returned v ∧ Hid (Lnk.Pks w' W3.heap.size (fun k => W3.heap.size ≤ k) v (Lnk.pksOf I (L ++ bss) (sn + k) h) ∧ Below W3.heap.size W3 w')) := by
        refine (packetsW HLw.out).mono ?_
        rintro e w' ⟨v, rfl, h1⟩
        exact ⟨v, rfl, h1⟩
      go_wp2_with (first
        | (go_at_call 44; refine HP.out.mono ?_; rintro e w3 ⟨v, rfl, H3⟩)
        | fail)
      go_ret
      have hz : w.heap.size ≤ W3.heap.size := Nat.le_trans HI.out.off.size HF.out.2.1.size
      have hgz : g < W3.heap.size := (Array.getElem?_eq_some_iff.1 HF.out.1).1
      refine ⟨v, W3.heap.size, rfl, ⟨hz, H3.out.2.size⟩, H3.out.1, ⟨D', fun j hj => ⟨HX.out.1 j hj, HLw.out.lt j hj⟩, HLw.out.below H3.out.2⟩, HF.out.2.2.keep fun x hx => H3.out.2.block _ ?_, (H3.out.2.block g hgz).trans HF.out.1, ?_⟩
      · have := (HA.out.1.hx x hx).1
        omega
      · refine ((HI.out.off.mono fun j hj => Or.inl hj).trans ?_).trans (OffS.of_below H3.out.2)
        exact HF.out.2.1.mono fun j hj => .inl (.inr hj)

theorem pump_se {w : World} {Z : Nat → Prop} {t : Nat} {I : LkI} {L : List (List Nat)} {sn h : Nat} {si : Int} {fr : Bool} {bss : List (List Nat)} (H : Se w Z t I L sn h si fr bss) (n : Nat) (hn : bss.length = n) (hl : L.length + n ≤ 8) (hs : sn + n ≤ 16777215) (hb : ∀ b ∈ bss, b.length ≤ 700) :
    Calls Tryz.prog 21 #[cp t] w fun e w' => ∃ v M Z', e = .returned v ∧ (w.heap.size ≤ M ∧ M ≤ w'.heap.size) ∧ Lnk.Pks w' M (fun k => M ≤ k) v (Lnk.pksOf I (L ++ bss) (sn + n) h) ∧ Se w' Z' t I (L ++ bss) (sn + n) h si false [] ∧ (∀ k, Z' k → (Z k ∨ w.heap.size ≤ k) ∧ k < M) ∧ OffS Z w w' := by
  obtain ⟨D, Y, l, xo, m, xc, vs, h1, h2, h3, h4, h5, h6⟩ := H
  have em : m = n := by rw [← h1.len, h1.bys.len, hn]
  subst em
  have htl := (Array.getElem?_eq_some_iff.1 h1.blk).1
  refine (pump_any (Y := Y) ⟨⟨htl, h1.td⟩, fun x hx => ⟨(h1.xd x hx).2.2, (h1.xd x hx).1, (h1.xd x hx).2.1⟩, h1.yd⟩ ⟨⟨D, fun k hk => .inl hk, h1.lk⟩, h1.blk, h1.row, ⟨h1.bys.len, fun i v bs e1 e2 => (h1.bys.each i v bs e1 e2).mono fun k hk hY => ⟨hY, hk⟩⟩, OffS.refl _ _⟩ h1.len hl hs hb).mono ?_
  rintro e w' ⟨v, M, rfl, k1, k2, ⟨D', k3, k4⟩, k5, k6, k7⟩
  have hsz := k7.size
  refine ⟨v, M, fun k => (Z k ∧ k < M) ∨ D' k, rfl, k1, k2, ⟨D', fun _ => False, l, xo, 0, xc, [], ⟨k6, k4, k5, Lnk.Bys.nil _ _, rfl, ?_, ?_, fun k hk => hk.elim⟩, .inl ⟨h2, by omega⟩, fun k hk => .inr hk, fun k hk => hk.elim, fun x hx => .inl ⟨h5 x hx, by have := h6 _ (h5 x hx); omega⟩, ?_⟩, ?_, k7.mono ?_⟩
  · intro e
    rcases (k3 t e).1 with h' | h'
    · exact h1.td h'
    · omega
  · intro x hx
    refine ⟨(h1.xd x hx).1, fun e => ?_, Nat.lt_of_lt_of_le (h1.xd x hx).2.2 hsz⟩
    have := (h1.xd x hx).2.2
    rcases (k3 _ e).1 with h' | h'
    · exact (h1.xd x hx).2.1 h'
    · omega
  · rintro k (hk | hk)
    · exact Nat.lt_of_lt_of_le (h6 k hk.1) hsz
    · exact k4.lt k hk
  · rintro k (hk | hk)
    · exact ⟨.inl hk.1, hk.2⟩
    · exact ⟨(k3 k hk).1.imp (h3 k) id, (k3 k hk).2⟩
  · rintro k (hk | rfl | ⟨x, hx, rfl⟩)
    · exact h3 k hk
    · exact h2
    · exact h5 x hx

end Go.Proofs.YtpofihiojhbfgaaGreatDoor
