/- The walk of NetOrder. -/
import Derived.Test.YtfllkhimlambhaaN6
import Derived.Test.YtfllkhimlambhaaIq
namespace Go.Proofs.Ytfllkhimlambhaa
open Go.RowKit
set_option linter.unusedVariables false
set_option maxRecDepth 8000

theorem belO {B : Nat} {w w1 w2 : World} (h : Below B w w1) (k : OffN (fun j => B ≤ j) w1 w2) (hB : B ≤ w1.heap.size) : Below B w w2 := h.trans (k.off.below (fun _ h => h) hB)
theorem hid_of {p : Prop} (h : p) : Hid p := h
theorem info33 : (Try.prog.info? 33).map (fun i => (i.zero, i.size, i.bytes)) = some (some (.slice none 0 0), 1, 24) := by kernel_rfl
def ptC (p : Pt) : List Value := [p.val]
theorem ptE : Enc ptC 1 := ⟨fun _ => rfl, fun x u hu => by simp only [ptC, List.mem_cons, List.not_mem_nil, or_false] at hu; subst hu; rfl, by decide⟩
theorem cs_pt (ps : List Pt) : cs ptC ps = ps.map Pt.val := by
  induction ps with
  | nil => rfl
  | cons p ps ih => rw [cs_cons, ih]; rfl
/-- What came in, by its parts. -/
theorem rdP {w : World} {ao : Option Addr} {cap : Nat} {ps : List Pt} (h : RdS w ao cap (ps.map Pt.val)) : RdR ptC w ao cap ps := by
  refine ⟨by simpa using h.le, h.mx, h.nil, fun hx => ?_⟩
  obtain ⟨b, off, e, hlt, hc⟩ := h.cell (by simpa using hx)
  refine ⟨b, off, e, hlt, fun j u hj => ?_⟩
  rw [cs_pt] at hj
  obtain ⟨hjl, rfl⟩ := List.getElem?_eq_some_iff.1 hj
  exact hc j hjl
theorem RdR.one {w : World} {ao : Option Addr} {cap : Nat} {ps : List Pt} (h : RdR ptC w ao cap ps) {j : Nat} (hj : j < ps.length) : ∃ b off, ao = some ⟨b, off, none⟩ ∧ b < w.heap.size ∧ w.cell? ⟨b, off + j, none⟩ = some (.slice ps[j].ao ps[j].n ps[j].cap) := by
  obtain ⟨b, off, e, hlt, hc⟩ := h.at ptE hj
  have := hc 0 ps[j].val rfl
  rw [Nat.mul_one, Nat.add_zero] at this
  exact ⟨b, off, e, hlt, this⟩
/-- The items of some parts. -/
def itP (ps : List Pt) : List It := ps.map fun p => (p.bs, false)
theorem itP_len (ps : List Pt) : (itP ps).length = ps.length := by simp [itP]
theorem itP_snoc {ps : List Pt} {j : Nat} (h : j < ps.length) : itP (ps.take (j + 1)) = itP (ps.take j) ++ [(ps[j].bs, false)] := by
  unfold itP
  rw [List.take_succ_eq_append_getElem h, List.map_append]
  rfl
theorem itP_cons {ps : List Pt} {j : Nat} (h : j < ps.length) : itP (ps.drop j) = (ps[j].bs, false) :: itP (ps.drop (j + 1)) := by
  rw [List.drop_eq_getElem_cons h]
  rfl
theorem Nt.keepT {w w' : World} {g : Nat} {V : Nat → Prop} {A : Nat → Option Addr} {C : Nat → Nat} {F : Nat → List Fv} (H : Nt w g V A C F) (hs : w.heap.size ≤ w'.heap.size) (hb : ∀ (k : Nat) (cs : Array Value) (e : TypeId), w.heap[k]? = some (.cells cs e) → e = 59 ∨ e = 63 ∨ e = 5 → w'.heap[k]? = w.heap[k]?) : Nt w' g V A C F := by
  obtain ⟨cs, hcs⟩ := H.blk
  have hg := hb g cs 59 hcs (.inl rfl)
  refine ⟨fun l hl => (World.cell?_of_block (w := w) (a := ⟨g, l, none⟩) hg).trans (H.cell l hl), ⟨cs, hg.trans hcs⟩, fun l hl => (H.row l hl).keep fun a ha _ => ?_, H.apart, H.inV, fun l hl x hx => (H.by' l hl x hx).keep hs fun k cs hv hc => hb k cs 5 hc (.inr (.inr rfl)), H.le⟩
  obtain ⟨_, cur, hc⟩ := (H.row l hl).lt a ha
  exact hb _ cur 63 hc (.inr (.inl rfl))
theorem NL.grown33 {B l g : Nat} {w w' : World} {L : List It} (H : NL B l g w L) {ao : Option Addr} {cap : Nat} {M : List Pt} (hg : w.grownBy w' (ao.map (·.block))) (ho : OwR ptC 1 33 w ao cap M) : NL B l g w' L := by
  obtain ⟨⟨A, C, F, h, e⟩, hB⟩ := H
  refine ⟨⟨A, C, F, h.keepT hg.size fun k cs e hc ht => hg.block k (Array.getElem?_eq_some_iff.1 hc).1 ?_, e⟩, Nat.le_trans hB hg.size⟩
  intro e1
  cases hao : ao with
  | none => rw [hao] at e1; cases e1
  | some a =>
    rw [hao] at e1
    have e2 : k = a.block := by simpa using e1
    obtain ⟨_, cur, h2⟩ := ho.lt a hao
    rw [← e2, hc] at h2
    cases h2
    rcases ht with h | h | h <;> cases h

theorem itP_late (ps : List Pt) (k : Nat) (x : Pt) (h : ps[k]? = some x) : outL (itP ps) k ++ [itAt (itP ps) k] = itP (ps.take k ++ ps.drop (k + 1) ++ [x]) := by
  have e : itAt (itP ps) k = (x.bs, false) := itAt_of (by unfold itP; rw [List.getElem?_map, h]; rfl)
  rw [e]
  unfold outL itP
  rw [List.map_append, List.map_append, List.map_take, List.map_drop]
  rfl

section
variable {α : Type} {en : α → List Value} {s : Nat} {P : Program} {ops : Array Oper} {Q : Exit → Act → World → Prop} {md : Region.Mode}
theorem held_append_R (E : Enc en s) {S : World → Prop} {i : Nat} {oi : Oper} (d : Nat) (so x : Operand) (t : TypeId) {fuel : Nat} {l : Array Bool} {a : Act} {w : World} (hi : ops[i]? = some oi) (hd : oi.dst = some d) (hrd : Region.ready md ops l = [i])
    (hw : Region.wanted oi (yielded ops a.tmps) = true) (hop : oi.op = .call { callee := .builtin .append, args := #[so, x], argTypes := #[t, t] })
    (e : TypeId) (zv : Value) (bytes : Nat) (ht : P.underlying t = some (.slice e)) (hinfo : (P.info? e).map (fun i => (i.zero, i.size, i.bytes)) = some (some zv, s, bytes)) (hzs : zv.cells.size = s)
    {ao : Option Addr} {cap n : Nat} {L : List α} {ao' : Option Addr} {cap' m : Nat} {M : List α} (hs : a.eval so = .slice ao n cap) (hx : a.eval x = .slice ao' m cap') (ho : OwR en s e w ao cap L) (hr : RdR en w ao' cap' M) (hn : L.length = n) (hm : M.length = m)
    (hbytes : (n + m) * bytes ≤ 140737488355328) (h63 : n + m ≤ maxLen)
    (h : ∀ ao2 cap2 w', OwR en s e w' ao2 cap2 (L ++ M) → w.grownBy w' (ao.map (·.block)) → (ao2 = ao ∨ ao2 = some ⟨w.heap.size, 0, none⟩) → S w' ∧ wpAnyH P md ops Q S fuel (l.setIfInBounds i true) (a.put (some d) (.slice ao2 (n + m) cap2)) w') : wpAnyH P md ops Q S (fuel + 1) l a w := by
  obtain ⟨ao2, cap2, w', hr2, h2, h3, h4⟩ := exec_append_R E (P := P) (w := w) (o := oi) (a := a) so x t hop e zv bytes ht hinfo hzs hs hx ho hr hn hm hbytes h63
  obtain ⟨h5, h6⟩ := h ao2 cap2 w' h2 h3 h4
  exact held_run d _ w' hi hd hrd hw hr2 h5 h6
theorem held_append_N (E : Enc en s) (N : Nat) {n m : Nat} (hN : n + m = N) {S : World → Prop} {i : Nat} {oi : Oper} (d : Nat) (so x : Operand) (t : TypeId) {fuel : Nat} {l : Array Bool} {a : Act} {w : World} (hi : ops[i]? = some oi) (hd : oi.dst = some d) (hrd : Region.ready md ops l = [i])
    (hw : Region.wanted oi (yielded ops a.tmps) = true) (hop : oi.op = .call { callee := .builtin .append, args := #[so, x], argTypes := #[t, t] })
    (e : TypeId) (zv : Value) (bytes : Nat) (ht : P.underlying t = some (.slice e)) (hinfo : (P.info? e).map (fun i => (i.zero, i.size, i.bytes)) = some (some zv, s, bytes)) (hzs : zv.cells.size = s)
    {ao : Option Addr} {cap : Nat} {L : List α} {ao' : Option Addr} {cap' : Nat} {M : List α} (hs : a.eval so = .slice ao n cap) (hx : a.eval x = .slice ao' m cap') (ho : OwR en s e w ao cap L) (hr : RdR en w ao' cap' M) (hn : L.length = n) (hm : M.length = m)
    (hbytes : (n + m) * bytes ≤ 140737488355328) (h63 : n + m ≤ maxLen)
    (h : ∀ ao2 cap2 w', OwR en s e w' ao2 cap2 (L ++ M) → w.grownBy w' (ao.map (·.block)) → (ao2 = ao ∨ ao2 = some ⟨w.heap.size, 0, none⟩) → S w' ∧ wpAnyH P md ops Q S fuel (l.setIfInBounds i true) (a.put (some d) (.slice ao2 N cap2)) w') : wpAnyH P md ops Q S (fuel + 1) l a w := by
  subst hN
  obtain ⟨ao2, cap2, w', hr2, h2, h3, h4⟩ := exec_append_R E (P := P) (w := w) (o := oi) (a := a) so x t hop e zv bytes ht hinfo hzs hs hx ho hr hn hm hbytes h63
  obtain ⟨h5, h6⟩ := h ao2 cap2 w' h2 h3 h4
  exact held_run d _ w' hi hd hrd hw hr2 h5 h6
theorem wpList_append_N (E : Enc en s) {P : Program} (w : World) (N : Nat) {n m : Nat} (hN : n + m = N) {ops : Array Oper} {rest : List Oper} {o : Oper} {a : Act} {Q : Exit → Act → World → Prop} (hgd : o.guard = none) (so x : Operand) (t : TypeId) (hop : o.op = .call { callee := .builtin .append, args := #[so, x], argTypes := #[t, t] })
    (e : TypeId) (z : Value) (bytes : Nat) (ht : P.underlying t = some (.slice e)) (hinfo : (P.info? e).map (fun i => (i.zero, i.size, i.bytes)) = some (some z, s, bytes)) (hzs : z.cells.size = s)
    {ao : Option Addr} {cap : Nat} {L : List α} {ao' : Option Addr} {cap' : Nat} {M : List α} (hs : a.eval so = .slice ao n cap) (hx : a.eval x = .slice ao' m cap') (ho : OwR en s e w ao cap L) (hr : RdR en w ao' cap' M) (hn : L.length = n) (hm : M.length = m)
    (hbytes : (n + m) * bytes ≤ 140737488355328) (h63 : n + m ≤ maxLen)
    (h : ∀ ao2 cap2 w', OwR en s e w' ao2 cap2 (L ++ M) → w.grownBy w' (ao.map (·.block)) → (ao2 = ao ∨ ao2 = some ⟨w.heap.size, 0, none⟩) → wpList P ops Q rest (a.put o.dst (.slice ao2 N cap2)) w') : wpList P ops Q (o :: rest) a w := by
  subst hN
  exact wpList_append_R E w hgd so x t hop e z bytes ht hinfo hzs hs hx ho hr hn hm hbytes h63 h
end

theorem grown_bel {w w' : World} {B : Nat} {ao : Option Addr} (h : w.grownBy w' (ao.map (·.block))) (hB : B ≤ w.heap.size) (ha : ∀ a, ao = some a → B ≤ a.block) : Below B w w' := by
  refine ⟨h.os, h.tape, h.output, h.size, fun k hk => h.block k (by omega) ?_⟩
  intro e
  cases hao : ao with
  | none => rw [hao] at e; cases e
  | some a =>
    rw [hao] at e
    have := ha a hao
    have : k = a.block := by simpa using e
    omega

/-- Rows of other things stay behind a step of a net. -/
theorem OwR.off {α : Type} {en : α → List Value} {s : Nat} {e : TypeId} {V : Nat → Prop} {w w' : World} {ao : Option Addr} {cap : Nat} {L : List α} (h : OwR en s e w ao cap L) (hO : OffN V w w') (h1 : e ≠ 59) (h2 : e ≠ 63) : OwR en s e w' ao cap L := by
  refine h.keep fun a ha _ => ?_
  obtain ⟨_, cur, hc⟩ := h.lt a ha
  exact hO.kt _ _ _ _ hc h1 h2

/-- What the loop of Takes wants. -/
structure Ord (B l g : Nat) (w0 w : World) (aw : Option Addr) (cw : Nat) (W : List Pt) (j : Nat) : Prop where
  nl : NL B l g w (itP (W.drop j))
  row : OwR ptC 1 33 w aw cw W
  bel : Below B w0 w

theorem str_of {W : World} {V : Nat → Prop} {y : Fv} (h : Fb W V y) {bs : List Nat} {b : Bool} (e : y.it = (bs, b)) : (convert 33 9 (.slice y.ao y.n y.cap)).run Try.prog W = .ok (.string (strOfNums (ci bs))) W := by
  have e1 : y.bs = bs := congrArg Prod.fst e
  rw [← e1]
  exact h.rd.str

/-- One Take of what is wanted. -/
theorem Ord.take {B l g : Nat} {w0 w : World} {aw : Option Addr} {cw : Nat} {W : List Pt} {j : Nat} (H : Ord B l g w0 w aw cw W j) (hl : l < 8) (hj : j < W.length) (hW : ∀ p ∈ W, Rd8 w0 p.ao p.n p.cap p.bs) (hB : w0.heap.size = B) :
    Calls Try.prog 14 #[np g, .int .i64 (l : Int), .int .i64 0] w fun e w' => ∃ y : Fv, e = .returned (.tuple #[.slice y.ao y.n y.cap, .bool true]) ∧ (convert 33 9 (.slice y.ao y.n y.cap)).run Try.prog w' = .ok (.string (strOfNums (ci W[j].bs))) w' ∧ (convert 33 9 (.slice W[j].ao W[j].n W[j].cap)).run Try.prog w' = .ok (.string (strOfNums (ci W[j].bs))) w' ∧ Hid (Ord B l g w0 w' aw cw W (j + 1)) := by
  refine (takeL H.nl hl (itP_cons hj) rfl).mono ?_
  rintro e w' ⟨y, rfl, h1, h2, h3, h4⟩
  have hb := belO H.bel h4 H.nl.2
  exact ⟨y, rfl, str_of h2 h1, ((hW _ (List.getElem_mem hj)).below (hB ▸ hb)).str, ⟨h3, H.row.off h4 (by decide) (by decide), hb⟩⟩

/-- Behind the Puts: the net has the frames. -/
structure Pu (B l g : Nat) (w0 w : World) (ps : List Pt) (j : Nat) : Prop where
  nl : NL B l g w (itP (ps.take j))
  bel : Below B w0 w

set_option maxHeartbeats 1600000 in
theorem order_main (a0 : Option Addr) (c0 n : Nat) (ps : List Pt) (l : Nat) (z : Int) (w : World) (hr : RdS w a0 c0 (ps.map Pt.val)) (hn : ps.length = n) (hp : ∀ p ∈ ps, Rd8 w p.ao p.n p.cap p.bs ∧ p.n ≤ 140737488351232) (hl : l < 8) (h150 : n ≤ 150) : Calls Try.prog 7 #[.slice a0 n c0, .int .i64 (l : Int), .int .i64 z] w fun e w' => e = .returned (.bool true) ∧ Below w.heap.size w w' := by
  have hn2 : ¬ (150 : Int) < (n : Int) := by omega
  have hl0 : ¬ (l : Int) < 0 := by omega
  have hl7 : ¬ (7 : Int) < (l : Int) := by omega
  obtain ⟨B, hB⟩ : ∃ B, w.heap.size = B := ⟨_, rfl⟩
  have HI : Hid (RdR ptC w a0 c0 ps ∧ ps.length = n ∧ (∀ p ∈ ps, Rd8 w p.ao p.n p.cap p.bs ∧ p.n ≤ 140737488351232) ∧ w.heap.size = B ∧ n ≤ 150) := ⟨rdP hr, hn, hp, hB, h150⟩
  have HA : Hid (Calls Try.prog 9 #[] w fun e w' => e = .returned (.bool true) ∧ Hid (Below B w w')) := hB ▸ alive_any w
  have HNew : Hid (∀ W, Below B w W → Calls Try.prog 8 #[] W fun e w' => e = .returned (np W.heap.size) ∧ Hid (Pu B l W.heap.size w w' ps 0)) := by
    intro W hW
    refine (newL W l).mono ?_
    rintro e w' ⟨rfl, h1, h2⟩
    have hs : B ≤ W.heap.size := hB ▸ hW.size
    exact ⟨rfl, ⟨h1.1.mono fun k _ h => Nat.le_trans hs h, Nat.le_trans hs h1.2⟩, hW.trans (h2.mono hs)⟩
  clear hr hn hp hB h150
  go_enter Try.func7, Try.ntmps7
  go_wp2_with (first
    | (go_at_call 8; refine (HNew.out _ HA1.out).mono ?_; rintro e w2 ⟨rfl, HN0⟩)
    | (go_at_call 9; refine HA.out.mono ?_; rintro e w1 ⟨rfl, HA1⟩))
  generalize w1.heap.size = g at *
  clear HA HNew HA1
  go_loopw [31] (fun i wr => ∃ k : Nat, k ≤ n ∧ i = .int .i64 k ∧ Hid (Pu B l g w wr ps k)) (fun i _ => n - (intOf i).toNat)
  case atStart => exact ⟨0, Nat.zero_le _, rfl, HN0⟩
  case round =>
    obtain ⟨k, hk, rfl, HN⟩ := hrel
    clear HN0
    by_cases hlt : k < n
    · obtain ⟨p, hpk⟩ : ∃ p, ps[k]? = some p := ⟨ps[k]'(by rw [HI.out.2.1]; exact hlt), List.getElem?_eq_getElem _⟩
      obtain ⟨hkl, hpe⟩ := List.getElem?_eq_some_iff.1 hpk
      obtain ⟨b, off, rfl, hbl, hcell⟩ := (HI.out.1.below (HI.out.2.2.2.1 ▸ HN.out.bel)).one hkl
      rw [hpe] at hcell
      have hbm : b < w.heap.size := by
        obtain ⟨b', off', e, h1, _⟩ := HI.out.1.one hkl
        cases e
        exact h1
      have hpp := HI.out.2.2.1 p (List.mem_of_getElem? hpk)
      have hps : p.n ≤ 140737488351232 := hpp.2
      have hb1 : Below wr.heap.size wr (wr.alloc (.cells #[] 5)) := (Below.refl _ _).alloc (Nat.le_refl _) _
      have hR : Rd8 (wr.alloc (.cells #[] 5)) p.ao p.n p.cap p.bs := (hpp.1.below (HI.out.2.2.2.1 ▸ HN.out.bel)).below hb1
      have HR : Hid (Rd8 (wr.alloc (.cells #[] 5)) p.ao p.n p.cap p.bs) := hR
      have HP : Hid (∀ (W : World) (a1 : Option Addr) (c1 : Nat), OwnI W wr.heap.size 5 .u8 a1 c1 (ci p.bs) → Below wr.heap.size (wr.alloc (.cells #[] 5)) W → Calls Try.prog 11 #[np g, .int .i64 (l : Int), .slice a1 p.n c1] W fun e w' => e = .returned (.bool true) ∧ Hid (Pu B l g w w' ps (k + 1))) := by
        intro W a1 c1 ho hb
        have hbb : Below wr.heap.size wr W := hb1.trans hb
        have hN := HN.out.nl.below hbb
        refine (putL hN hl (bs := p.bs) ⟨ho.rd, HR.out.len, HR.out.byte⟩ (by omega) (by rw [itP_len, List.length_take, HI.out.2.1]; have := HI.out.2.2.2.2; omega) rfl).mono ?_
        rintro e w' ⟨rfl, h1, h2⟩
        exact ⟨rfl, by rw [itP_snoc hkl, hpe]; exact h1, belO (HN.out.bel.trans (hbb.mono HN.out.nl.2)) h2 hN.2⟩
      have hcl : (ci p.bs).length = p.n := by rw [ci_length]; exact hR.len
      clear hpp hb1 hR hpe hkl hpk
      go_wp2_with (first
        | (go_at_call 11; refine (HP.out _ _ _ (by assumption) (by assumption)).mono ?_; rintro e w5 ⟨rfl, HN5⟩)
        | (at_builtin; refine wpList_append_rdI _ rfl _ _ 33 rfl wr.heap.size 5 .u8 (.int .u8 0) 1 Try.underlying33 info5 rfl rfl rfl (OwnI.fresh wr _ _ _ (Nat.le_refl _)) HR.out.rd rfl hcl (by omega) (by unfold maxLen; omega) (by simp) ?_; intro ao4 cap4 w4 ho4 hb4; simp only [List.nil_append] at ho4))
      go_roundw
      case rel => exact ⟨k + 1, by omega, by go_num, HN5⟩
      case measure => simp [intOf]; omega
    · obtain rfl : k = n := by omega
      clear hlt hk
      have eT : ps.take k = ps := List.take_of_length_le (by rw [HI.out.2.1]; exact Nat.le_refl _)
      have HN2 : Hid (NL B l g wr (itP ps) ∧ Below B w wr) := ⟨by have := HN.out.nl; rwa [eT] at this, HN.out.bel⟩
      clear HN eT
      have hb1 : Below wr.heap.size wr (wr.alloc (.cells #[] 33)) := (Below.refl _ _).alloc (Nat.le_refl _) _
      have HR : Hid (RdR ptC (wr.alloc (.cells #[] 33)) a0 c0 ps ∧ ps.length = k) := ⟨(HI.out.1.below (HI.out.2.2.2.1 ▸ HN2.out.2)).below hb1, HI.out.2.1⟩
      have hk150 : k ≤ 150 := HI.out.2.2.2.2
      clear hb1
      by_cases hz : 0 ≤ z ∧ z < (k : Int)
      · obtain ⟨q, rfl⟩ : ∃ q : Nat, z = (q : Int) := ⟨z.toNat, by omega⟩
        have hq : q < k := by omega
        obtain ⟨r, hkr⟩ : ∃ r, k - (q + 1) = r := ⟨_, rfl⟩
        obtain ⟨N1, hN1⟩ : ∃ N1, q + r = N1 := ⟨_, rfl⟩
        have HK : Hid (q + r + 1 = k ∧ q + r = N1) := ⟨by omega, hN1⟩
        clear hN1
        obtain ⟨x, hx⟩ : ∃ x, ps[q]? = some x := ⟨ps[q]'(by rw [HI.out.2.1]; exact hq), List.getElem?_eq_getElem _⟩
        obtain ⟨hql, hxe⟩ := List.getElem?_eq_some_iff.1 hx
        obtain ⟨b0, off0, rfl, hbl0, hc0⟩ := HI.out.1.one hql
        rw [hxe] at hc0
        have hkc : k ≤ c0 := by have := HI.out.1.le; rw [HI.out.2.1] at this; exact this
        have hcm : c0 ≤ maxLen := HI.out.1.mx
        obtain ⟨W, hW⟩ : ∃ W, ps.take q ++ ps.drop (q + 1) ++ [x] = W := ⟨_, rfl⟩
        have HWl : Hid (W.length = k ∧ ∀ p ∈ W, Rd8 w p.ao p.n p.cap p.bs) := by
          subst hW
          refine ⟨by rw [List.length_append, List.length_append, List.length_take, List.length_drop, HI.out.2.1]; simp; omega, fun p hp => (HI.out.2.2.1 p ?_).1⟩
          rcases List.mem_append.1 hp with hp | hp
          · rcases List.mem_append.1 hp with hp | hp
            · exact List.mem_of_mem_take hp
            · exact List.mem_of_mem_drop hp
          · have : p = x := by simpa using hp
            subst this
            exact List.mem_of_getElem? hx
        have HLt : Hid (∀ U, NL B l g U (itP ps) → Below B w U → Calls Try.prog 18 #[np g, .int .i64 (l : Int), .int .i64 (q : Int)] U fun e w' => e = .returned (.bool true) ∧ Hid (NL B l g w' (itP W) ∧ Below B w w')) := by
          intro U hU hbU
          refine (lateL hU hl q (by rw [itP_len]; exact hql) rfl rfl).mono ?_
          rintro e w' ⟨rfl, h1, h2⟩
          rw [itP_late ps q x hx, hW] at h1
          exact ⟨rfl, h1, belO hbU h2 hU.2⟩
        have HX : Hid (ps.take q ++ ps.drop (q + 1) ++ [x] = W ∧ (ps.take q).length = q ∧ (ps.drop (q + 1)).length = r ∧ (ps.take q ++ ps.drop (q + 1)).length = N1) := ⟨hW, by rw [List.length_take]; omega, by rw [List.length_drop, HI.out.2.1]; omega, by rw [List.length_append, List.length_take, List.length_drop, HI.out.2.1]; have := HK.out; omega⟩
        have HC : Hid (∀ U, Below B w U → U.cell? ⟨b0, off0 + q, none⟩ = some (.slice x.ao x.n x.cap) ∧ RdR ptC U (some ⟨b0, off0, none⟩) c0 (ps.take q)) := by
          intro U hU
          have hU' : Below w.heap.size w U := HI.out.2.2.2.1 ▸ hU
          exact ⟨(hU'.cell (p := ⟨b0, off0 + q, none⟩) hbl0).trans hc0, (HI.out.1.below hU').head ptE q c0 (by omega) (by omega) hcm (fun h => by cases h)⟩
        clear hW hql hxe hx hc0
        have hqz : (q : Int) < (k : Int) := by omega
        have hd1 : decide (0 ≤ (q : Int)) = true := by simp
        have hd2 : decide ((q : Int) < (k : Int)) = true := by simp; omega
        have hq0 : (0 : Int) ≤ (q : Int) := by omega
        have hq63 : IntKind.i64.wrap ((q : Int) + 1) = (q : Int) + 1 := by rw [IntKind.wrap_i64]; omega
        have hqc : q ≤ c0 := by omega
        have hq1 : (q : Int) + 1 ≤ (k : Int) := by omega
        have hqn : ¬ (q : Int) < 0 := by omega
        have hqp : (0 : Int) ≤ (q : Int) + 1 := by omega
        have hqq : (q : Int) ≤ (q : Int) + 1 := by omega
        have hm150 : q ≤ 150 := by omega
        have HCM : Hid (c0 ≤ maxLen) := hcm
        clear hz hcm
        go_upto_region 15 with (first
          | (go_at_call 18; refine (HLt.out _ HO6.out.1 HO6.out.2.2).mono ?_; rintro e w7 ⟨rfl, HO7⟩)
          | (at_builtin; refine wpList_append_R ptE _ rfl (.tmp 42) (.tmp 43) 49 rfl 33 _ 24 Try.underlying49 info33 rfl (n := 0) (m := k) (L := []) (M := ps) rfl rfl (OwR.fresh 33 wr) HR.out.1 rfl HR.out.2 (by omega) (by unfold maxLen; omega) ?_; intro aw cw w6 ho6 hg6 hl6; simp only [List.nil_append] at ho6; have hbe : Below wr.heap.size wr w6 := ((Below.refl _ _).alloc (Nat.le_refl _) (.cells #[] 33)).trans (grown_bel hg6 (by simp) (fun a ha => by cases ha; exact Nat.le_refl _)); have HO6 : Hid (NL B l g w6 (itP ps) ∧ OwR ptC 1 33 w6 aw cw ps ∧ Below B w w6) := ⟨HN2.out.1.below hbe, ho6, HN2.out.2.trans (hbe.mono HN2.out.1.2)⟩; clear ho6 hg6 hl6 hbe)
          | fail)
        by_cases hca : c0 = q + 1
        · have hkq : r = 0 := by have := HK.out; omega
          subst hca
          have hkr0 : k - (q + 1) = 0 := by omega
          have HN1 : Hid (q + 0 = N1) := by have := HK.out; unfold Hid; omega
          clear hkr hkq
          refine wp_region_held (S := fun _ => True) (by kernel_rfl) ?_
          refine held_val (i := 1) ?_ 67 rfl rfl (by kernel_rfl) (by kernel_rfl) (by kernel_rfl) (by rfl) (fun _ _ _ h => h) trivial ?_ ?_
          rotate_left
          · (intro w _; go_simp; first | done | with_reducible rfl)
          simp only [Act.put, List.setIfInBounds_toArray, List.set_cons_zero, List.set_cons_succ]
          refine held_val (i := 2) ?_ 68 rfl rfl (by kernel_rfl) (by kernel_rfl) (by kernel_rfl) (by rfl) (fun _ _ _ h => h) trivial ?_ ?_
          rotate_left
          · (intro w _; go_simp; first | done | with_reducible rfl)
          simp only [Act.put, List.setIfInBounds_toArray, List.set_cons_zero, List.set_cons_succ]
          refine held_val (i := 3) ?_ 69 rfl rfl (by kernel_rfl) (by kernel_rfl) (by kernel_rfl) (by rfl) (fun _ _ _ h => h) trivial ?_ ?_
          rotate_left
          · (intro w _; go_simp; first | done | with_reducible rfl)
          simp only [Act.put, List.setIfInBounds_toArray, List.set_cons_zero, List.set_cons_succ]
          refine held_val (i := 5) ?_ 71 rfl rfl (by kernel_rfl) (by kernel_rfl) (by kernel_rfl) (by rfl) (fun _ _ _ h => h) trivial ?_ ?_
          rotate_left
          · (intro w _; go_simp; first | done | with_reducible rfl)
          simp only [Act.put, List.setIfInBounds_toArray, List.set_cons_zero, List.set_cons_succ]
          refine held_val (i := 6) ?_ 72 rfl rfl (by kernel_rfl) (by kernel_rfl) (by kernel_rfl) (by rfl) (fun _ _ _ h => h) trivial ?_ ?_
          rotate_left
          · (intro w _; go_simp; first | done | with_reducible rfl)
          simp only [Act.put, List.setIfInBounds_toArray, List.set_cons_zero, List.set_cons_succ]
          refine held_val (i := 7) ?_ 73 rfl rfl (by kernel_rfl) (by kernel_rfl) (by kernel_rfl) (by rfl) (fun _ _ _ h => h) trivial ?_ ?_
          rotate_left
          · (intro w _; go_simp; first | done | with_reducible rfl)
          simp only [Act.put, List.setIfInBounds_toArray, List.set_cons_zero, List.set_cons_succ]
          refine held_val (i := 8) ?_ 74 rfl rfl (by kernel_rfl) (by kernel_rfl) (by kernel_rfl) (by rfl) (fun _ _ _ h => h) trivial ?_ ?_
          rotate_left
          · (intro w _; go_simp; first | done | with_reducible rfl)
          simp only [Act.put, List.setIfInBounds_toArray, List.set_cons_zero, List.set_cons_succ]
          have HB8 : Hid (Below B w (w7.drew.alloc (.cells #[] 33)) ∧ B ≤ w7.heap.size) := ⟨HO7.out.2.trans (((bel0 w7).alloc (Nat.le_refl _) _).mono HO7.out.1.2), HO7.out.1.2⟩
          refine held_run (i := 0) 66 (.slice (some ⟨w7.drew.heap.size, 0, none⟩) 0 0) (w7.drew.alloc (.cells #[] 33)) rfl rfl (by kernel_rfl) (by rfl) (by go_simp) trivial ?_
          simp only [Act.put, List.setIfInBounds_toArray, List.set_cons_zero, List.set_cons_succ]
          have HR8 : Hid (RdR ptC (w7.drew.alloc (.cells #[] 33)) (some ⟨b0, off0, none⟩) (q + 1) (ps.take q) ∧ OwR ptC 1 33 (w7.drew.alloc (.cells #[] 33)) (some ⟨w7.drew.heap.size, 0, none⟩) 0 []) := ⟨(HC.out _ HB8.out.1).2, OwR.fresh 33 w7.drew⟩
          refine held_append_N ptE q (by omega) (i := 4) (n := 0) (m := q) (L := []) (M := ps.take q) 70 (.tmp 66) (.tmp 69) 49 rfl rfl (by kernel_rfl) (by rfl) rfl 33 _ 24 Try.underlying49 info33 rfl rfl rfl HR8.out.2 HR8.out.1 rfl HX.out.2.1 (by omega) (by unfold maxLen; omega) ?_
          intro a8 c8 w8 ho8 hg8 hl8
          have HB9 : Hid (Below B w w8 ∧ OwR ptC 1 33 w8 a8 c8 (ps.take q) ∧ (∀ a, a8 = some a → B ≤ a.block) ∧ NL B l g w8 (itP W)) := by
            have hb9 : Below B (w7.drew.alloc (.cells #[] 33)) w8 := grown_bel hg8 (by simp; have := HB8.out.2; omega) (fun a ha => by cases ha; exact HB8.out.2)
            have hb7 : Below w7.heap.size w7 w8 := ((bel0 w7).alloc (Nat.le_refl _) _).trans (grown_bel hg8 (by simp) (fun a ha => by cases ha; exact Nat.le_refl _))
            refine ⟨HB8.out.1.trans hb9, by simpa using ho8, fun a ha => ?_, HO7.out.1.below hb7⟩
            rcases hl8 with e | e
            · rw [e] at ha; cases ha; exact HB8.out.2
            · rw [e] at ha; cases ha; simp; have := HB8.out.2; omega
          clear ho8 hg8 hl8 HR8 HB8
          refine ⟨trivial, ?_⟩
          simp only [Act.put, List.setIfInBounds_toArray, List.set_cons_zero, List.set_cons_succ]
          have HR9 : Hid (RdR ptC w8 (some ⟨b0, off0, none⟩) (0) (ps.drop (q + 1))) := by
            have h1 := HI.out.1.below (HI.out.2.2.2.1 ▸ HB9.out.1)
            have h2 := RdR.tail ptE h1 (q + 1) (by rw [HI.out.2.1]; omega) ⟨b0, off0, none⟩ (fun h => by rw [HI.out.2.1] at h; omega)
            try simp at h2
            exact h2
          refine held_append_N ptE N1 HN1.out (i := 9) (n := q) (m := 0) (L := ps.take q) (M := ps.drop (q + 1)) 75 (.tmp 70) (.tmp 74) 49 rfl rfl (by kernel_rfl) (by rfl) rfl 33 _ 24 Try.underlying49 info33 rfl rfl rfl HB9.out.2.1 HR9.out HX.out.2.1 (by have := HX.out.2.2.1; have := HK.out; have := HN1.out; omega) (by have := HN1.out; have := HK.out; omega) (by unfold maxLen; have := HN1.out; have := HK.out; omega) ?_
          intro a9 c9 w9 ho9 hg9 hl9
          have HB10 : Hid (Below B w w9 ∧ OwR ptC 1 33 w9 a9 c9 (ps.take q ++ ps.drop (q + 1)) ∧ NL B l g w9 (itP W) ∧ (∀ a, a9 = some a → B ≤ a.block)) := by
            have hB8 : B ≤ w8.heap.size := HB9.out.2.2.2.2
            refine ⟨HB9.out.1.trans (grown_bel hg9 hB8 HB9.out.2.2.1), ho9, HB9.out.2.2.2.grown33 hg9 HB9.out.2.1, fun a ha => ?_⟩
            · rcases hl9 with e | e
              · exact HB9.out.2.2.1 a (e ▸ ha)
              · rw [e] at ha; cases ha; exact hB8
          clear ho9 hg9 hl9 HR9 HB9
          refine ⟨trivial, ?_⟩
          simp only [Act.put, List.setIfInBounds_toArray, List.set_cons_zero, List.set_cons_succ]
          refine held_val (i := 10) ?_ 10 rfl rfl (by kernel_rfl) (by kernel_rfl) (by kernel_rfl) (by rfl) (fun _ _ _ h => h) trivial ?_ ?_
          rotate_left
          · (intro w _; go_simp; first | done | with_reducible rfl)
          simp only [Act.put, List.setIfInBounds_toArray, List.set_cons_zero, List.set_cons_succ]
          refine wpAnyH_done (by kernel_rfl) ?_ _
          have hcq := (HC.out _ HB10.out.1).1
          clear HC HCM
          go_wp2_with (at_builtin; refine wpList_append_N ptE _ k (n := N1) (m := 1) (by have := HK.out; omega) rfl (.tmp 76) (.tmp 81) 49 rfl 33 _ 24 Try.underlying49 info33 rfl (L := ps.take q ++ ps.drop (q + 1)) (M := [x]) rfl rfl (HB10.out.2.1.below ((Below.refl _ _).alloc (Nat.le_refl _) (.cells #[.slice x.ao x.n x.cap] 33))) (RdR.built ptE w9 33 #[.slice x.ao x.n x.cap] [x] rfl 1 rfl (by decide)) HX.out.2.2.2 rfl (by have := HK.out; omega) (by unfold maxLen; have := HK.out; omega) ?_; intro aw2 cw2 w10 ho10 hg10 hl10; rw [HX.out.1] at ho10; have hba : Below w9.heap.size w9 (w9.alloc (.cells #[.slice x.ao x.n x.cap] 33)) := (Below.refl _ _).alloc (Nat.le_refl _) _; have HO : Hid (Ord B l g w w10 aw2 cw2 W 0) := ⟨(HB10.out.2.2.1.below hba).grown33 hg10 (HB10.out.2.1.below hba), ho10, (HB10.out.1.trans (hba.mono HB10.out.2.2.1.2)).trans (grown_bel hg10 (Nat.le_trans HB10.out.2.2.1.2 hba.size) HB10.out.2.2.2)⟩; clear ho10 hg10 hl10 hba)
          clear hcq HB10
          go_loopw [85] (fun i wr => ∃ j : Nat, j ≤ k ∧ i = .int .i64 j ∧ Hid (Ord B l g w wr aw2 cw2 W j)) (fun i _ => k - (intOf i).toNat)
          case atStart => exact ⟨0, Nat.zero_le _, rfl, HO⟩
          case round =>
            obtain ⟨j, hj, rfl, HJ⟩ := hrel
            rename World => wz
            by_cases hjn : j < k
            · have hjW : j < W.length := by rw [HWl.out.1]; exact hjn
              obtain ⟨b9, off9, hb9, hl9, hc9⟩ := HJ.out.row.rd.one hjW
              have HT := HJ.out.take hl hjW HWl.out.2 HI.out.2.2.2.1
              have HT2 := hid_of HT
              clear HT
              generalize W[j] = p9 at *
              rw [hb9]
              go_wp2_with (go_at_call 14; refine HT2.out.mono ?_; rintro e w9 ⟨y9, rfl, hs9, ht9, HJ9⟩)
              go_roundw
              case rel => exact ⟨j + 1, by omega, by go_num, hb9 ▸ HJ9⟩
              case measure => simp [intOf]; omega
            · obtain rfl : j = k := by omega
              have HLn : Hid (Calls Try.prog 12 #[np g, .int .i64 (l : Int)] wz fun e w' => e = .returned (.int .i64 0) ∧ w' = wz) := by
                refine (lenL HJ.out.nl hl rfl).mono ?_
                rintro e w' ⟨rfl, h⟩
                exact ⟨ret_int (by rw [itP_len, List.length_drop, HWl.out.1]; simp), h⟩
              go_wp2_with (go_at_call 12; refine HLn.out.mono ?_; rintro e w9 ⟨rfl, hw9⟩; subst w9)
              go_ret
              exact ⟨rfl, by rw [HI.out.2.2.2.1]; exact HJ.out.bel⟩
        · have hca1 : ¬ c0 = q := by have := HK.out; omega
          have HN1 : Hid (q + r = N1) := HK.out.2
          refine wp_region_held (S := fun _ => True) (by kernel_rfl) ?_
          refine held_val (i := 1) ?_ 67 rfl rfl (by kernel_rfl) (by kernel_rfl) (by kernel_rfl) (by rfl) (fun _ _ _ h => h) trivial ?_ ?_
          rotate_left
          · (intro w _; go_simp; first | done | with_reducible rfl)
          simp only [Act.put, List.setIfInBounds_toArray, List.set_cons_zero, List.set_cons_succ]
          refine held_val (i := 2) ?_ 68 rfl rfl (by kernel_rfl) (by kernel_rfl) (by kernel_rfl) (by rfl) (fun _ _ _ h => h) trivial ?_ ?_
          rotate_left
          · (intro w _; go_simp; first | done | with_reducible rfl)
          simp only [Act.put, List.setIfInBounds_toArray, List.set_cons_zero, List.set_cons_succ]
          refine held_val (i := 3) ?_ 69 rfl rfl (by kernel_rfl) (by kernel_rfl) (by kernel_rfl) (by rfl) (fun _ _ _ h => h) trivial ?_ ?_
          rotate_left
          · (intro w _; go_simp; first | done | with_reducible rfl)
          simp only [Act.put, List.setIfInBounds_toArray, List.set_cons_zero, List.set_cons_succ]
          refine held_val (i := 5) ?_ 71 rfl rfl (by kernel_rfl) (by kernel_rfl) (by kernel_rfl) (by rfl) (fun _ _ _ h => h) trivial ?_ ?_
          rotate_left
          · (intro w _; go_simp; first | done | with_reducible rfl)
          simp only [Act.put, List.setIfInBounds_toArray, List.set_cons_zero, List.set_cons_succ]
          refine held_val (i := 6) ?_ 72 rfl rfl (by kernel_rfl) (by kernel_rfl) (by kernel_rfl) (by rfl) (fun _ _ _ h => h) trivial ?_ ?_
          rotate_left
          · (intro w _; go_simp; first | done | with_reducible rfl)
          simp only [Act.put, List.setIfInBounds_toArray, List.set_cons_zero, List.set_cons_succ]
          refine held_val (i := 7) ?_ 73 rfl rfl (by kernel_rfl) (by kernel_rfl) (by kernel_rfl) (by rfl) (fun _ _ _ h => h) trivial ?_ ?_
          rotate_left
          · (intro w _; go_simp; first | done | with_reducible rfl)
          simp only [Act.put, List.setIfInBounds_toArray, List.set_cons_zero, List.set_cons_succ]
          refine held_val (i := 8) ?_ 74 rfl rfl (by kernel_rfl) (by kernel_rfl) (by kernel_rfl) (by rfl) (fun _ _ _ h => h) trivial ?_ ?_
          rotate_left
          · (intro w _; go_simp; first | done | with_reducible rfl)
          simp only [Act.put, List.setIfInBounds_toArray, List.set_cons_zero, List.set_cons_succ]
          have HB8 : Hid (Below B w (w7.drew.alloc (.cells #[] 33)) ∧ B ≤ w7.heap.size) := ⟨HO7.out.2.trans (((bel0 w7).alloc (Nat.le_refl _) _).mono HO7.out.1.2), HO7.out.1.2⟩
          refine held_run (i := 0) 66 (.slice (some ⟨w7.drew.heap.size, 0, none⟩) 0 0) (w7.drew.alloc (.cells #[] 33)) rfl rfl (by kernel_rfl) (by rfl) (by go_simp) trivial ?_
          simp only [Act.put, List.setIfInBounds_toArray, List.set_cons_zero, List.set_cons_succ]
          have HR8 : Hid (RdR ptC (w7.drew.alloc (.cells #[] 33)) (some ⟨b0, off0, none⟩) c0 (ps.take q) ∧ OwR ptC 1 33 (w7.drew.alloc (.cells #[] 33)) (some ⟨w7.drew.heap.size, 0, none⟩) 0 []) := ⟨(HC.out _ HB8.out.1).2, OwR.fresh 33 w7.drew⟩
          refine held_append_N ptE q (by omega) (i := 4) (n := 0) (m := q) (L := []) (M := ps.take q) 70 (.tmp 66) (.tmp 69) 49 rfl rfl (by kernel_rfl) (by rfl) rfl 33 _ 24 Try.underlying49 info33 rfl rfl rfl HR8.out.2 HR8.out.1 rfl HX.out.2.1 (by omega) (by unfold maxLen; omega) ?_
          intro a8 c8 w8 ho8 hg8 hl8
          have HB9 : Hid (Below B w w8 ∧ OwR ptC 1 33 w8 a8 c8 (ps.take q) ∧ (∀ a, a8 = some a → B ≤ a.block) ∧ NL B l g w8 (itP W)) := by
            have hb9 : Below B (w7.drew.alloc (.cells #[] 33)) w8 := grown_bel hg8 (by simp; have := HB8.out.2; omega) (fun a ha => by cases ha; exact HB8.out.2)
            have hb7 : Below w7.heap.size w7 w8 := ((bel0 w7).alloc (Nat.le_refl _) _).trans (grown_bel hg8 (by simp) (fun a ha => by cases ha; exact Nat.le_refl _))
            refine ⟨HB8.out.1.trans hb9, by simpa using ho8, fun a ha => ?_, HO7.out.1.below hb7⟩
            rcases hl8 with e | e
            · rw [e] at ha; cases ha; exact HB8.out.2
            · rw [e] at ha; cases ha; simp; have := HB8.out.2; omega
          clear ho8 hg8 hl8 HR8 HB8
          refine ⟨trivial, ?_⟩
          simp only [Act.put, List.setIfInBounds_toArray, List.set_cons_zero, List.set_cons_succ]
          have HR9 : Hid (RdR ptC w8 (some ⟨b0, off0 + (q + 1), none⟩) (c0 - (q + 1)) (ps.drop (q + 1))) := by
            have h1 := HI.out.1.below (HI.out.2.2.2.1 ▸ HB9.out.1)
            have h2 := RdR.tail ptE h1 (q + 1) (by rw [HI.out.2.1]; omega) ⟨b0, off0 + (q + 1), none⟩ (fun _ => by rw [Nat.mul_one])
            try simp at h2
            exact h2
          refine held_append_N ptE N1 HN1.out (i := 9) (n := q) (m := r) (L := ps.take q) (M := ps.drop (q + 1)) 75 (.tmp 70) (.tmp 74) 49 rfl rfl (by kernel_rfl) (by rfl) rfl 33 _ 24 Try.underlying49 info33 rfl rfl rfl HB9.out.2.1 HR9.out HX.out.2.1 (by have := HX.out.2.2.1; have := HK.out; have := HN1.out; omega) (by have := HN1.out; have := HK.out; omega) (by unfold maxLen; have := HN1.out; have := HK.out; omega) ?_
          intro a9 c9 w9 ho9 hg9 hl9
          have HB10 : Hid (Below B w w9 ∧ OwR ptC 1 33 w9 a9 c9 (ps.take q ++ ps.drop (q + 1)) ∧ NL B l g w9 (itP W) ∧ (∀ a, a9 = some a → B ≤ a.block)) := by
            have hB8 : B ≤ w8.heap.size := HB9.out.2.2.2.2
            refine ⟨HB9.out.1.trans (grown_bel hg9 hB8 HB9.out.2.2.1), ho9, HB9.out.2.2.2.grown33 hg9 HB9.out.2.1, fun a ha => ?_⟩
            · rcases hl9 with e | e
              · exact HB9.out.2.2.1 a (e ▸ ha)
              · rw [e] at ha; cases ha; exact hB8
          clear ho9 hg9 hl9 HR9 HB9
          refine ⟨trivial, ?_⟩
          simp only [Act.put, List.setIfInBounds_toArray, List.set_cons_zero, List.set_cons_succ]
          refine held_val (i := 10) ?_ 10 rfl rfl (by kernel_rfl) (by kernel_rfl) (by kernel_rfl) (by rfl) (fun _ _ _ h => h) trivial ?_ ?_
          rotate_left
          · (intro w _; go_simp; first | done | with_reducible rfl)
          simp only [Act.put, List.setIfInBounds_toArray, List.set_cons_zero, List.set_cons_succ]
          refine wpAnyH_done (by kernel_rfl) ?_ _
          have hcq := (HC.out _ HB10.out.1).1
          clear HC HCM
          go_wp2_with (at_builtin; refine wpList_append_N ptE _ k (n := N1) (m := 1) (by have := HK.out; omega) rfl (.tmp 76) (.tmp 81) 49 rfl 33 _ 24 Try.underlying49 info33 rfl (L := ps.take q ++ ps.drop (q + 1)) (M := [x]) rfl rfl (HB10.out.2.1.below ((Below.refl _ _).alloc (Nat.le_refl _) (.cells #[.slice x.ao x.n x.cap] 33))) (RdR.built ptE w9 33 #[.slice x.ao x.n x.cap] [x] rfl 1 rfl (by decide)) HX.out.2.2.2 rfl (by have := HK.out; omega) (by unfold maxLen; have := HK.out; omega) ?_; intro aw2 cw2 w10 ho10 hg10 hl10; rw [HX.out.1] at ho10; have hba : Below w9.heap.size w9 (w9.alloc (.cells #[.slice x.ao x.n x.cap] 33)) := (Below.refl _ _).alloc (Nat.le_refl _) _; have HO : Hid (Ord B l g w w10 aw2 cw2 W 0) := ⟨(HB10.out.2.2.1.below hba).grown33 hg10 (HB10.out.2.1.below hba), ho10, (HB10.out.1.trans (hba.mono HB10.out.2.2.1.2)).trans (grown_bel hg10 (Nat.le_trans HB10.out.2.2.1.2 hba.size) HB10.out.2.2.2)⟩; clear ho10 hg10 hl10 hba)
          clear hcq HB10
          go_loopw [85] (fun i wr => ∃ j : Nat, j ≤ k ∧ i = .int .i64 j ∧ Hid (Ord B l g w wr aw2 cw2 W j)) (fun i _ => k - (intOf i).toNat)
          case atStart => exact ⟨0, Nat.zero_le _, rfl, HO⟩
          case round =>
            obtain ⟨j, hj, rfl, HJ⟩ := hrel
            rename World => wz
            by_cases hjn : j < k
            · have hjW : j < W.length := by rw [HWl.out.1]; exact hjn
              obtain ⟨b9, off9, hb9, hl9, hc9⟩ := HJ.out.row.rd.one hjW
              have HT := HJ.out.take hl hjW HWl.out.2 HI.out.2.2.2.1
              have HT2 := hid_of HT
              clear HT
              generalize W[j] = p9 at *
              rw [hb9]
              go_wp2_with (go_at_call 14; refine HT2.out.mono ?_; rintro e w9 ⟨y9, rfl, hs9, ht9, HJ9⟩)
              go_roundw
              case rel => exact ⟨j + 1, by omega, by go_num, hb9 ▸ HJ9⟩
              case measure => simp [intOf]; omega
            · obtain rfl : j = k := by omega
              have HLn : Hid (Calls Try.prog 12 #[np g, .int .i64 (l : Int)] wz fun e w' => e = .returned (.int .i64 0) ∧ w' = wz) := by
                refine (lenL HJ.out.nl hl rfl).mono ?_
                rintro e w' ⟨rfl, h⟩
                exact ⟨ret_int (by rw [itP_len, List.length_drop, HWl.out.1]; simp), h⟩
              go_wp2_with (go_at_call 12; refine HLn.out.mono ?_; rintro e w9 ⟨rfl, hw9⟩; subst w9)
              go_ret
              exact ⟨rfl, by rw [HI.out.2.2.2.1]; exact HJ.out.bel⟩
      · have HLt : Hid (∀ W, NL B l g W (itP ps) → Calls Try.prog 18 #[np g, .int .i64 (l : Int), .int .i64 z] W fun e w' => e = .returned (.bool false) ∧ w' = W) := fun W hW => lateL_no hW hl (by rw [itP_len, HI.out.2.1]; exact hz) rfl
        have HWl : Hid (ps.length = k ∧ ∀ p ∈ ps, Rd8 w p.ao p.n p.cap p.bs) := ⟨HI.out.2.1, fun p hp => (HI.out.2.2.1 p hp).1⟩
        by_cases hz0 : 0 ≤ z
        · have hz1 : ¬ z < (k : Int) := fun h => hz ⟨hz0, h⟩
          have hd1 : decide (0 ≤ z) = true := by simp; omega
          have hd2 : decide (z < (k : Int)) = false := by simp; omega
          clear hz
          go_wp2_with (first
            | (go_at_call 18; refine (HLt.out _ HO6.out.1).mono ?_; rintro e w7 ⟨rfl, hw7⟩; subst w7)
            | (at_builtin; refine wpList_append_R ptE _ rfl (.tmp 42) (.tmp 43) 49 rfl 33 _ 24 Try.underlying49 info33 rfl (n := 0) (m := k) (L := []) (M := ps) rfl rfl (OwR.fresh 33 wr) HR.out.1 rfl HR.out.2 (by omega) (by unfold maxLen; omega) ?_; intro aw cw w6 ho6 hg6 hl6; simp only [List.nil_append] at ho6; have hbe : Below wr.heap.size wr w6 := ((Below.refl _ _).alloc (Nat.le_refl _) (.cells #[] 33)).trans (grown_bel hg6 (by simp) (fun a ha => by cases ha; exact Nat.le_refl _)); have HO6 : Hid (NL B l g w6 (itP ps) ∧ OwR ptC 1 33 w6 aw cw ps ∧ Below B w w6) := ⟨HN2.out.1.below hbe, ho6, HN2.out.2.trans (hbe.mono HN2.out.1.2)⟩; clear ho6 hg6 hl6 hbe))
          have HO : Hid (Ord B l g w w6 aw cw ps 0) := ⟨HO6.out.1, HO6.out.2.1, HO6.out.2.2⟩
          go_loopw [85] (fun i wr => ∃ j : Nat, j ≤ k ∧ i = .int .i64 j ∧ Hid (Ord B l g w wr aw cw ps j)) (fun i _ => k - (intOf i).toNat)
          case atStart => exact ⟨0, Nat.zero_le _, rfl, HO⟩
          case round =>
            obtain ⟨j, hj, rfl, HJ⟩ := hrel
            rename World => wz
            by_cases hjn : j < k
            · have hjW : j < ps.length := by rw [HWl.out.1]; exact hjn
              obtain ⟨b9, off9, hb9, hl9, hc9⟩ := HJ.out.row.rd.one hjW
              have HT := HJ.out.take hl hjW HWl.out.2 HI.out.2.2.2.1
              have HT2 := hid_of HT
              clear HT
              generalize ps[j] = p9 at *
              rw [hb9]
              go_wp2_with (go_at_call 14; refine HT2.out.mono ?_; rintro e w9 ⟨y9, rfl, hs9, ht9, HJ9⟩)
              go_roundw
              case rel => exact ⟨j + 1, by omega, by go_num, hb9 ▸ HJ9⟩
              case measure => simp [intOf]; omega
            · obtain rfl : j = k := by omega
              have HLn : Hid (Calls Try.prog 12 #[np g, .int .i64 (l : Int)] wz fun e w' => e = .returned (.int .i64 0) ∧ w' = wz) := by
                refine (lenL HJ.out.nl hl rfl).mono ?_
                rintro e w' ⟨rfl, h⟩
                exact ⟨ret_int (by rw [itP_len, List.length_drop, HWl.out.1]; simp), h⟩
              go_wp2_with (go_at_call 12; refine HLn.out.mono ?_; rintro e w9 ⟨rfl, hw9⟩; subst w9)
              go_ret
              exact ⟨rfl, by rw [HI.out.2.2.2.1]; exact HJ.out.bel⟩

        · have hd1 : decide (0 ≤ z) = false := by simp; omega
          clear hz
          go_wp2_with (first
            | (go_at_call 18; refine (HLt.out _ HO6.out.1).mono ?_; rintro e w7 ⟨rfl, hw7⟩; subst w7)
            | (at_builtin; refine wpList_append_R ptE _ rfl (.tmp 42) (.tmp 43) 49 rfl 33 _ 24 Try.underlying49 info33 rfl (n := 0) (m := k) (L := []) (M := ps) rfl rfl (OwR.fresh 33 wr) HR.out.1 rfl HR.out.2 (by omega) (by unfold maxLen; omega) ?_; intro aw cw w6 ho6 hg6 hl6; simp only [List.nil_append] at ho6; have hbe : Below wr.heap.size wr w6 := ((Below.refl _ _).alloc (Nat.le_refl _) (.cells #[] 33)).trans (grown_bel hg6 (by simp) (fun a ha => by cases ha; exact Nat.le_refl _)); have HO6 : Hid (NL B l g w6 (itP ps) ∧ OwR ptC 1 33 w6 aw cw ps ∧ Below B w w6) := ⟨HN2.out.1.below hbe, ho6, HN2.out.2.trans (hbe.mono HN2.out.1.2)⟩; clear ho6 hg6 hl6 hbe))
          have HO : Hid (Ord B l g w w6 aw cw ps 0) := ⟨HO6.out.1, HO6.out.2.1, HO6.out.2.2⟩
          go_loopw [85] (fun i wr => ∃ j : Nat, j ≤ k ∧ i = .int .i64 j ∧ Hid (Ord B l g w wr aw cw ps j)) (fun i _ => k - (intOf i).toNat)
          case atStart => exact ⟨0, Nat.zero_le _, rfl, HO⟩
          case round =>
            obtain ⟨j, hj, rfl, HJ⟩ := hrel
            rename World => wz
            by_cases hjn : j < k
            · have hjW : j < ps.length := by rw [HWl.out.1]; exact hjn
              obtain ⟨b9, off9, hb9, hl9, hc9⟩ := HJ.out.row.rd.one hjW
              have HT := HJ.out.take hl hjW HWl.out.2 HI.out.2.2.2.1
              have HT2 := hid_of HT
              clear HT
              generalize ps[j] = p9 at *
              rw [hb9]
              go_wp2_with (go_at_call 14; refine HT2.out.mono ?_; rintro e w9 ⟨y9, rfl, hs9, ht9, HJ9⟩)
              go_roundw
              case rel => exact ⟨j + 1, by omega, by go_num, hb9 ▸ HJ9⟩
              case measure => simp [intOf]; omega
            · obtain rfl : j = k := by omega
              have HLn : Hid (Calls Try.prog 12 #[np g, .int .i64 (l : Int)] wz fun e w' => e = .returned (.int .i64 0) ∧ w' = wz) := by
                refine (lenL HJ.out.nl hl rfl).mono ?_
                rintro e w' ⟨rfl, h⟩
                exact ⟨ret_int (by rw [itP_len, List.length_drop, HWl.out.1]; simp), h⟩
              go_wp2_with (go_at_call 12; refine HLn.out.mono ?_; rintro e w9 ⟨rfl, hw9⟩; subst w9)
              go_ret
              exact ⟨rfl, by rw [HI.out.2.2.2.1]; exact HJ.out.bel⟩


end Go.Proofs.Ytfllkhimlambhaa
