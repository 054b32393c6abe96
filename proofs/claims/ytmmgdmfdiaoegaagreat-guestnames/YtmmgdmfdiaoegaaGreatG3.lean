/- say of package guest, walked: messages that are right, where the link has room for all of them. -/
import Derived.Test.YtmmgdmfdiaoegaaGreatG2
import Derived.Test.YtmmgdmfdiaoegaaGreatM6
namespace Go.Proofs.YtmmgdmfdiaoegaaGreat
open Go.RowKit
set_option linter.unusedVariables false
set_option maxRecDepth 8000

/-- Messages whose puts lie at one place. -/
abbrev gmV (po : Option Addr) (pn pc : Nat) (M : Mg) : Value := .agg #[.int .i64 M.k, .int .i64 M.p, .int .i64 M.o, .int .i64 M.t, .int .i64 M.c, .int .i64 M.n, .bool M.wr, .slice po pn pc, .complex .f64 M.v0.1 M.v0.2, .complex .f64 M.v1.1 M.v1.2, .complex .f64 M.v2.1 M.v2.2, .complex .f64 M.v3.1 M.v3.2]
abbrev gmO (po : Option Addr) (pn pc : Nat) (M : Mg) : Obj := .cells #[.int .i64 M.k, .int .i64 M.p, .int .i64 M.o, .int .i64 M.t, .int .i64 M.c, .int .i64 M.n, .bool M.wr, .slice po pn pc, .complex .f64 M.v0.1 M.v0.2, .complex .f64 M.v1.1 M.v1.2, .complex .f64 M.v2.1 M.v2.2, .complex .f64 M.v3.1 M.v3.2] 73
def gmC (po : Option Addr) (pn pc : Nat) (M : Mg) : List Value := [.int .i64 M.k, .int .i64 M.p, .int .i64 M.o, .int .i64 M.t, .int .i64 M.c, .int .i64 M.n, .bool M.wr, .slice po pn pc, .complex .f64 M.v0.1 M.v0.2, .complex .f64 M.v1.1 M.v1.2, .complex .f64 M.v2.1 M.v2.2, .complex .f64 M.v3.1 M.v3.2]
theorem gmE (po : Option Addr) (pn pc : Nat) : Enc (gmC po pn pc) 12 := ⟨fun _ => rfl, fun x u hu => by simp only [gmC, List.mem_cons, List.not_mem_nil, or_false] at hu; rcases hu with rfl | rfl | rfl | rfl | rfl | rfl | rfl | rfl | rfl | rfl | rfl | rfl <;> rfl, by decide⟩
/-- The bytes of a message. -/
def byB (M : Mg) : List Nat := Msg.nb (Msg.msgZ M)
theorem byB_len (M : Mg) : (byB M).length = (Msg.msgZ M).length := by rw [byB, Msg.nb_length]
theorem msgZ_len {M : Mg} (h : Msg.rightB M = true) : (Msg.msgZ M).length ≤ 700 := by
  have h1 := (Msg.putsB_mem (Msg.bd_of_right h).ps).1
  rw [Msg.msgZ, List.length_append, List.length_append, Msg.headZ_length, Msg.putsZ_length]
  split
  · rw [Msg.objsZ_length]
    have : M.vs.length = 4 := rfl
    omega
  · simp; omega

theorem Msg.RdP.keep {w w' : World} {ao : Option Addr} {n cap : Nat} {ps : List Msg.PutG} (h : Msg.RdP w ao n cap ps) (hs : w.heap.size ≤ w'.heap.size) (hb : ∀ p, ao = some p → p.block < w.heap.size → w'.heap[p.block]? = w.heap[p.block]?) : Msg.RdP w' ao n cap ps := by
  refine ⟨h.len, fun t ht => ?_⟩
  obtain ⟨b, off, e, hl, h1, h2, h3⟩ := h.cell t ht
  have hb' := hb _ e hl
  have c := fun j => World.cell?_of_block (w := w) (w' := w') (a := ⟨b, j, Option.none⟩) hb'
  exact ⟨b, off, e, Nat.lt_of_lt_of_le hl hs, (c _).trans h1, (c _).trans h2, (c _).trans h3⟩

theorem wpList_append_atS {P : Program} (w : World) {ops : Array Oper} {rest : List Oper} {o : Oper} {a : Act} {Q : Exit → Act → World → Prop} (hgd : o.guard = none) (s x : Operand) (t : TypeId)
    (ho : o.op = .call { callee := .builtin .append, args := #[s, x], argTypes := #[t, t] })
    (base : Nat) (e : TypeId) (z : Value) (bytes : Nat) (ht : P.underlying t = some (.slice e))
    (hinfo : (P.info? e).map (fun i => (i.zero, i.size, i.bytes)) = some (some z, 1, bytes)) (hzs : z.cells.size = 1)
    {ao : Option Addr} {cap n : Nat} {xs : List Value} {ao' : Option Addr} {cap' m : Nat} {ys : List Value}
    (hs : a.eval s = .slice ao n cap) (hx : a.eval x = .slice ao' m cap') (hown : OwnS w base e ao cap xs) (hrd : RdS w ao' cap' ys) (hn : xs.length = n) (hm : ys.length = m)
    (h1 : ∀ u ∈ ys, u.oneCell' = true) (hbytes : (n + m) * bytes ≤ 140737488355328) (h63 : n + m ≤ maxLen) (hbase : base ≤ w.heap.size)
    (h : ∀ ao2 cap2 w', OwnS w' base e ao2 cap2 (xs ++ ys) → w.grownBy w' (Value.ownBlock (.slice ao n cap)) → (ao2 = ao ∨ ao2 = some ⟨w.heap.size, 0, none⟩) → wpList P ops Q rest (a.put o.dst (.slice ao2 (n + m) cap2)) w') : wpList P ops Q (o :: rest) a w := by
  subst hn hm
  refine wpList_plain hgd fun _ hK => ?_
  obtain ⟨ao2, cap2, w', hr, h2, h3, h4⟩ := run_append_at (P := P) base t o.type e z bytes ht hinfo hzs hown hrd h1 hbytes h63 hbase
  unfold Oper.wp execOp
  simp only [ho, resolve, invoke, builtin, Sem.run_bind, Sem.run_pure, Result.andThen_ok, List.map_toArray, List.map_cons, List.map_nil, hs, hx, hr]
  exact hK _ _ (h ao2 cap2 w' h2 h3 h4)

/-- While bodies are put into the outbox. -/
structure Sy (w W : World) (g : Nat) (cl ep : Int) (a l : Nat) (bo : Int) (xo xo2 : Option Addr) (n xc2 : Nat) (vs : List Value) (bss : List (List Nat)) : Prop where
  blk : W.heap[g]? = some (guO cl ep a (some ⟨l, 0, none⟩) bo xo2 n xc2)
  row : OwnS W 0 43 xo2 xc2 vs
  bys : Lnk.Bys W (fun k => w.heap.size ≤ k) vs bss
  nw : Nw w xo xo2
  off : OffS (fun k => k = g ∨ Ro xo k) w W
  len : vs.length = n

section
variable {w W W1 W2 : World} {g : Nat} {cl ep : Int} {a l : Nat} {bo : Int} {xo xo2 : Option Addr} {n xc2 : Nat} {vs : List Value} {bss : List (List Nat)}
theorem own_ne {W : World} {o : Obj} {xo : Option Addr} {xc : Nat} {vs : List Value} (h : OwnS W 0 43 xo xc vs) {g : Nat} {cs : Array Value} {fr : Nat × Nat} (hg : W.heap[g]? = some (.cells cs 32 fr)) : ∀ x, xo = some x → x.block ≠ g := by
  intro x hx e
  obtain ⟨cs', fr', h1⟩ := Lnk.Ty.own h x hx
  rw [e, hg] at h1
  simp at h1
theorem Sy.below (H : Sy w W g cl ep a l bo xo xo2 n xc2 vs bss) (hb : Below W.heap.size W W1) : Sy w W1 g cl ep a l bo xo xo2 n xc2 vs bss :=
  ⟨(hb.block g (Array.getElem?_eq_some_iff.1 H.blk).1).trans H.blk, H.row.below hb, ⟨H.bys.len, fun i v bs e1 e2 => (H.bys.each i v bs e1 e2).below hb⟩, H.nw, H.off.trans (OffS.of_below hb), H.len⟩
theorem Sy.app (H : Sy w W g cl ep a l bo xo xo2 n xc2 vs bss) {v : Value} {bs : List Nat} (hv : Lnk.By W (fun k => w.heap.size ≤ k) v bs) {ao : Option Addr} {cap : Nat} (ho : OwnS W1 0 43 ao cap (vs ++ [v])) (hg : W.grownBy W1 (Value.ownBlock (.slice xo2 n xc2))) (hp : ao = xo2 ∨ ao = some ⟨W.heap.size, 0, none⟩) :
    W1.heap[g]? = W.heap[g]? ∧ Sy w (W1.setCell ⟨g, 5, none⟩ (.slice ao (n + 1) cap)) g cl ep a l bo xo ao (n + 1) cap (vs ++ [v]) (bss ++ [bs]) := by
  have hgz : g < W.heap.size := (Array.getElem?_eq_some_iff.1 H.blk).1
  have hO : Off2 W.heap.size xo2 W W1 := .of_grown _ hg
  have e1 : W1.heap[g]? = W.heap[g]? := hO.block g hgz (by omega) (own_ne (o := .cells #[] 0) H.row H.blk)
  have hrow : W.ownsRow 0 43 1 (.slice xo2 n xc2) vs.length vs := by
    have := H.row
    unfold OwnS at this
    rw [H.len] at this ⊢
    exact this
  have hby : ∀ u b, Lnk.By W (fun k => w.heap.size ≤ k) u b → Lnk.By (W1.setCell ⟨g, 5, none⟩ (.slice ao (n + 1) cap)) (fun k => w.heap.size ≤ k) u b := fun u b h => by
    have h1 : Lnk.By W1 (fun k => w.heap.size ≤ k) u b := h.grown hrow (by decide) hg
    refine h1.keepx (by simp) fun k cs fr hk => Below.heap_setCell _ _ _ _ ?_
    intro e
    rw [e, e1, H.blk] at hk
    simp at hk
  have hs := H.off.size
  refine ⟨e1, ?_, ?_, ?_, ?_, ?_, by simp [H.len]⟩
  · rw [heap_setCell_same W1 g _ _ 32 _ (e1.trans H.blk)]; rfl
  · exact ho.keep fun x hx => Below.heap_setCell _ _ _ _ (own_ne (o := .cells #[] 0) ho (e1.trans H.blk) x hx)
  · exact Lnk.Bys.snoc ⟨H.bys.len, fun i u b h1 h2 => hby u b (H.bys.each i u b h1 h2)⟩ (hby v bs hv)
  · rcases hp with rfl | rfl
    · exact H.nw
    · exact fun x hx => by cases hx; exact .inr hs
  · refine OffS.setCell (H.off.trans ⟨hO.os, hO.tape, hO.output, hO.size, fun k hk hn => hO.block k hk (by omega) fun x hx e => hn ?_⟩) (.inl rfl) _
    rcases H.nw x hx with ⟨c, h1, h2⟩ | h1
    · exact .inl (.inr ⟨c, h1, h2.trans e⟩)
    · exact .inr (e ▸ h1)
end

set_option maxHeartbeats 3200000 in
theorem say_any {w : World} {D : Nat → Prop} {g : Nat} {cl ep : Int} {a l : Nat} {bo : Int} {xo : Option Addr} {xc : Nat} {I : LkI} {L : List (List Nat)} {sn h : Nat} {lo po : Option Addr} {lc pn pc n : Nat} {Ms : List Mg}
    (hg : w.heap[g]? = some (guO cl ep a (some ⟨l, 0, none⟩) bo xo 0 xc)) (HL : Lw w D l I L sn h) (hgD : ¬ D g) (HX : OwnS w 0 43 xo xc []) (hx : ∀ x, xo = some x → ¬ D x.block)
    (HR : RdR (gmC po pn pc) w lo lc Ms) (hlo : ∀ p, lo = some p → p.block ≠ g ∧ ¬ Ro xo p.block) (hpo : ∀ p, po = some p → p.block ≠ g ∧ ¬ Ro xo p.block)
    (hM : ∀ M ∈ Ms, Msg.rightB M = true ∧ Msg.Wd M ∧ Msg.RdP w po pn pc M.ps) (hn : Ms.length = n) (hl : L.length + n ≤ 8) (hs : sn + n ≤ 16777215) :
    Calls Tryz.prog 16 #[cp g, .slice lo n lc] w fun e w' => ∃ v, e = .returned v ∧ ∃ xo' xc' D', Lnk.Pks w' w.heap.size (fun k => w.heap.size ≤ k) v (Lnk.pksOf I (L ++ Ms.map byB) (sn + n) h) ∧ (∀ k, D' k → D k ∨ w.heap.size ≤ k) ∧ Lw w' D' l I (L ++ Ms.map byB) (sn + n) h ∧ OwnS w' 0 43 xo' xc' [] ∧ (∀ x, xo' = some x → ¬ D' x.block ∧ (Ro xo x.block ∨ w.heap.size ≤ x.block)) ∧ w'.heap[g]? = some (guO cl ep a (some ⟨l, 0, none⟩) bo xo' 0 xc') ∧ OffS (fun k => D k ∨ k = g ∨ Ro xo k) w w' := by
  have hst := fun (ad : Addr) (re im : Nat) (W : World) => run_store Tryz.prog W ad (.complex .f64 re im) .plain rfl
  have HA : Hid (Lw w D l I L sn h ∧ (¬ D g ∧ g < w.heap.size) ∧ (∀ x, xo = some x → ¬ D x.block) ∧ RdR (gmC po pn pc) w lo lc Ms ∧ (∀ p, lo = some p → p.block ≠ g ∧ ¬ Ro xo p.block) ∧ (∀ p, po = some p → p.block ≠ g ∧ ¬ Ro xo p.block) ∧ (∀ M ∈ Ms, Msg.rightB M = true ∧ Msg.Wd M ∧ Msg.RdP w po pn pc M.ps) ∧ Ms.length = n ∧ L.length + n ≤ 8 ∧ sn + n ≤ 16777215) := ⟨HL, ⟨hgD, (Array.getElem?_eq_some_iff.1 hg).1⟩, hx, HR, hlo, hpo, hM, hn, hl, hs⟩
  have H0 : Hid (∃ xo2 xc2 vs, Sy w w g cl ep a l bo xo xo2 0 xc2 vs ((Ms.take 0).map byB)) := ⟨xo, xc, [], hg, HX, Lnk.Bys.nil _ _, Nw.refl _ _, OffS.refl _ _, rfl⟩
  have hn8 : n ≤ 8 := by omega
  clear hg HL hgD HX hx HR hlo hpo hM hn hl hs
  go_enter Tryz.func16, Tryz.ntmps16
  go_wp2
  go_loopw [11] (fun i wr => ∃ k : Nat, k ≤ n ∧ i = .int .i64 k ∧ Hid (∃ xo2 xc2 vs, Sy w wr g cl ep a l bo xo xo2 k xc2 vs ((Ms.take k).map byB))) (fun i _ => n - (intOf i).toNat)
  case atStart => exact ⟨0, Nat.zero_le _, rfl, H0⟩
  case round =>
    obtain ⟨k, hk, rfl, HI⟩ := hrel
    rename World => wr
    clear H0
    by_cases hlt : k < n
    · obtain ⟨xo2, xc2, vs, hI⟩ := HI.out
      have HY : Hid (Sy w wr g cl ep a l bo xo xo2 k xc2 vs ((Ms.take k).map byB)) := hI
      clear hI HI
      have hkl : k < Ms.length := by rw [HA.out.2.2.2.2.2.2.2.1]; exact hlt
      have HS : Hid ((Ms.take (k + 1)).map byB = (Ms.take k).map byB ++ [byB Ms[k]]) := by rw [Hid, List.take_succ_eq_append_getElem hkl, List.map_append]; rfl
      have HM : Hid (Msg.rightB Ms[k] = true ∧ Msg.Wd Ms[k] ∧ Msg.RdP w po pn pc Ms[k].ps) := HA.out.2.2.2.2.2.2.1 _ (List.getElem_mem _)
      have hkeep : ∀ p : Addr, p.block < w.heap.size → (p.block ≠ g ∧ ¬ Ro xo p.block) → wr.heap[p.block]? = w.heap[p.block]? := fun p h1 h2 => HY.out.off.block _ h1 (by rintro (e | e); exact h2.1 e; exact h2.2 e)
      obtain ⟨b, off, rfl, hb, hc⟩ := (HA.out.2.2.2.1.keep HY.out.off.size fun p hp h1 => hkeep p h1 (HA.out.2.2.2.2.1 p hp)).at (gmE po pn pc) hkl
      have HP : Hid (Msg.RdP wr po pn pc Ms[k].ps) := HM.out.2.2.keep HY.out.off.size fun p hp h1 => hkeep p h1 (HA.out.2.2.2.2.2.1 p hp)
      clear hkeep
      generalize Ms[k] = M at *
      have y0 := hc 0 _ rfl
      have y1 := hc 1 _ rfl
      have y2 := hc 2 _ rfl
      have y3 := hc 3 _ rfl
      have y4 := hc 4 _ rfl
      have y5 := hc 5 _ rfl
      have y6 := hc 6 _ rfl
      have y7 := hc 7 _ rfl
      have y8 := hc 8 _ rfl
      have y9 := hc 9 _ rfl
      have yA := hc 10 _ rfl
      have yB := hc 11 _ rfl
      simp only [Nat.add_zero] at y0
      clear hc
      have HB : Hid (Calls Tryz.prog 29 #[gmV po pn pc M] (wr.alloc (gmO po pn pc M)) fun e w' => ∃ a2 q c2, e = .returned (.tuple #[.slice a2 q c2, .int .i64 0]) ∧ w'.cell? ⟨g, 5, none⟩ = some (.slice xo2 k xc2) ∧ Hid (Sy w w' g cl ep a l bo xo xo2 k xc2 vs ((Ms.take k).map byB) ∧ Lnk.By w' (fun k => w.heap.size ≤ k) (.slice a2 q c2) (byB M))) := by
        have h0 : Below wr.heap.size wr (wr.alloc (gmO po pn pc M)) := (Below.refl _ _).alloc (Nat.le_refl _) _
        refine (Msg.bytes_ok M po pn pc _ (HP.out.below h0) HM.out.1 HM.out.2.1).mono ?_
        rintro e w' ⟨a2, c2, rfl, h1, h2⟩
        have h3 := (HY.out.below h0).below h2
        obtain ⟨-, -, -, -, -, m5⟩ := gu_cells h3.blk
        refine ⟨a2, _, c2, rfl, m5, h3, (Lnk.By.own (base := (wr.alloc (gmO po pn pc M)).heap.size) (bs := byB M) ⟨?_, ?_, Msg.nb_bytes (Msg.msgZ_bd M)⟩).mono fun k _ hk => ?_⟩
        · rw [byB, Msg.ci_nb (Msg.msgZ_bd M)]; exact h1
        · exact byB_len M
        · have := HY.out.off.size
          simp at hk
          omega
      clear HM HP hkl
      go_upto_region 5 with (first
        | (go_at_call 29; refine HB.out.mono ?_; rintro e w3 ⟨a2, q, c2, rfl, m5, H3⟩)
        | fail)
      clear y0 y1 y2 y3 y4 y5 y6 y7 y8 y9 yA yB HB
      have h3z : Hid (Sy w (w3.alloc (.cells #[.slice a2 q c2] 43)) g cl ep a l bo xo xo2 k xc2 vs ((Ms.take k).map byB) ∧ Lnk.By (w3.alloc (.cells #[.slice a2 q c2] 43)) (fun k => w.heap.size ≤ k) (.slice a2 q c2) (byB M)) := ⟨H3.out.1.below ((Below.refl _ _).alloc (Nat.le_refl _) _), H3.out.2.below ((Below.refl _ _).alloc (Nat.le_refl _) _)⟩
      go_wp2_with (first
        | (at_builtin; refine wpList_append_atS _ rfl _ _ 30 rfl 0 43 _ 24 Tryz.underlying30 Lnk.info27 rfl (xs := vs) (ys := [.slice a2 q c2]) rfl rfl h3z.out.1.row (RdS.one w3 43 _) h3z.out.1.len rfl (by simp [h3z.out.2.one]) (by omega) (by unfold maxLen; omega) (Nat.zero_le _) ?_; intro ao4 cap4 w4 ho4 hg4 hp4; have H4 : Hid _ := h3z.out.1.app h3z.out.2 ho4 hg4 hp4; obtain ⟨-, -, -, -, -, m6⟩ := gu_cells (H4.out.1.trans h3z.out.1.blk); have f6 := gu_fz (H4.out.1.trans h3z.out.1.blk) 5)
        | fail)
      go_roundw
      case rel =>
        refine ⟨k + 1, by omega, by go_num, ao4, cap4, vs ++ [.slice a2 q c2], ?_⟩
        rw [HS.out]
        exact H4.out.2
      case measure => simp [intOf]; omega
    · have hkn : k = n := by omega
      subst hkn
      obtain ⟨xo2, xc2, vs, hI⟩ := HI.out
      rw [List.take_of_length_le (by rw [HA.out.2.2.2.2.2.2.2.1]; exact Nat.le_refl _)] at hI
      have HY : Hid (Sy w wr g cl ep a l bo xo xo2 k xc2 vs (Ms.map byB)) := hI
      clear hI HI
      have HP : Hid (Calls Tryz.prog 18 #[cp g] wr fun e w' => ∃ v, e = .returned v ∧ Hid (Lnk.Pks w' wr.heap.size (fun k => wr.heap.size ≤ k) v (Lnk.pksOf I (L ++ Ms.map byB) (sn + k) h) ∧ (∃ D', (∀ k, D' k → D k ∨ wr.heap.size ≤ k) ∧ Lw w' D' l I (L ++ Ms.map byB) (sn + k) h) ∧ OwnS w' 0 43 xo2 xc2 [] ∧ w'.heap[g]? = some (guO cl ep a (some ⟨l, 0, none⟩) bo xo2 0 xc2) ∧ OffS (fun k => D k ∨ k = g ∨ Ro xo2 k) wr w')) := by
        obtain ⟨b1, b2, b3, b4, b5, b6, b7, b8, b9, b10⟩ := HA.out
        have hw := HY.out.off.size
        have hzx := HY.out.row.inn
        have hC : Pc wr D (fun k => w.heap.size ≤ k) g xo2 := by
          refine ⟨⟨by omega, b2.1⟩, fun x hx => ⟨(hzx x hx).2, own_ne (o := .cells #[] 0) HY.out.row HY.out.blk x hx, fun e => ?_⟩, fun k hk e => ?_⟩
          · rcases HY.out.nw x hx with ⟨c, h1, h2⟩ | h1
            · exact b3 c h1 (h2 ▸ e)
            · have := b1.lt _ e
              omega
          · have := b1.lt _ e
            omega
        have hP : Pu wr wr D (fun k => w.heap.size ≤ k) g (guO cl ep a (some ⟨l, 0, none⟩) bo xo2 k xc2) l I L sn h xo2 xc2 vs (Ms.map byB) := by
          refine ⟨⟨D, fun k hk => .inl hk, b1.keep hw fun k hk => HY.out.off.block k (b1.lt k hk) ?_⟩, HY.out.blk, HY.out.row, HY.out.bys.mono fun k hk hv => ⟨hv, hk⟩, OffS.refl _ _⟩
          rintro (rfl | ⟨x, hx, rfl⟩)
          · exact b2.1 hk
          · exact b3 x hx hk
        refine (pump_any hC hP HY.out.len b9 b10 ?_).mono ?_
        · intro b hb
          obtain ⟨M, hM, rfl⟩ := List.mem_map.1 hb
          rw [byB_len]
          exact msgZ_len (b7 M hM).1
        · rintro e w' ⟨v, rfl, h1⟩
          exact ⟨v, rfl, h1⟩
      go_wp2_with (first
        | (go_at_call 18; refine HP.out.mono ?_; rintro e w5 ⟨v, rfl, H5⟩)
        | fail)
      go_ret
      obtain ⟨p1, ⟨D', p2, p3⟩, p4, p5, p6⟩ := H5.out
      have hw := HY.out.off.size
      refine ⟨v, rfl, xo2, xc2, D', p1.mono hw fun j _ hj => Nat.le_trans hw hj, fun k hk => (p2 k hk).imp id fun h' => Nat.le_trans hw h', p3, p4, fun x hx => ⟨fun e => ?_, ?_⟩, p5, ?_⟩
      · rcases p2 _ e with h' | h'
        · rcases HY.out.nw x hx with ⟨c, h1, h2⟩ | h1
          · exact HA.out.2.2.1 c h1 (h2 ▸ h')
          · have := HA.out.1.lt _ h'
            omega
        · have := (HY.out.row.inn x hx).2
          omega
      · rcases HY.out.nw x hx with ⟨c, h1, h2⟩ | h1
        · exact .inl ⟨c, h1, h2⟩
        · exact .inr h1
      · refine (HY.out.off.mono fun k hk => .inr hk).trans (p6.mono fun k hk => ?_)
        rcases hk with hk | rfl | ⟨x, hx, rfl⟩
        · exact .inl (.inl hk)
        · exact .inl (.inr (.inl rfl))
        · rcases HY.out.nw x hx with ⟨c, h1, h2⟩ | h1
          · exact .inl (.inr (.inr ⟨c, h1, h2⟩))
          · exact .inr h1

end Go.Proofs.YtmmgdmfdiaoegaaGreat
