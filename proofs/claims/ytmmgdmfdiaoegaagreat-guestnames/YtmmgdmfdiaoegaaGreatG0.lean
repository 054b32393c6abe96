/- Package guest: a link with its own blocks, a guest in memory, and what a step leaves of them. No walk. -/
import Derived.Test.YtmmgdmfdiaoegaaGreatXj
import Derived.Test.YtmmgdmfdiaoegaaGreatXi
namespace Go.Proofs.YtmmgdmfdiaoegaaGreat
open Go.RowKit
set_option linter.unusedVariables false
set_option maxRecDepth 8000

abbrev LkI := Lnk.LkI

/-- A link that lies in blocks of D. -/
def Lw (w : World) (D : Nat → Prop) (l : Nat) (I : LkI) (L : List (List Nat)) (s h : Nat) : Prop :=
  ∃ ao n cap, Lnk.Lk w 0 l ao n cap D I L s h ∧ D l ∧ (∀ x, ao = some x → D x.block) ∧ ∀ k, D k → k < w.heap.size

theorem Lnk.By.kept {w w' : World} {V : Nat → Prop} {v : Value} {bs : List Nat} (h : Lnk.By w V v bs) (hk : Kept V w w') : Lnk.By w' V v bs := by
  obtain ⟨ao, n, cap, rfl, h1, h2, h3⟩ := h
  refine ⟨ao, n, cap, rfl, h1.kept h3 hk, fun a ha => ?_, h3.mono hk.size fun k _ hv => hv⟩
  obtain ⟨cs, fr, hc⟩ := h2 a ha
  exact ⟨cs, fr, (hk.block _ (h3 a ha).2 (h3 a ha).1).trans hc⟩

/-- Behind a step of a link: its blocks are the elder ones or new; all else is as it was. -/
structure Nl (w w' : World) (D : Nat → Prop) (l : Nat) (I : LkI) (L : List (List Nat)) (s h : Nat) : Prop where
  lk : ∃ D', (∀ k, D' k → D k ∨ w.heap.size ≤ k) ∧ Lw w' D' l I L s h
  off : OffS D w w'

section
variable {w w' w1 : World} {D : Nat → Prop} {l : Nat} {I : LkI} {L : List (List Nat)} {s h : Nat}
theorem Lw.lt (H : Lw w D l I L s h) : ∀ k, D k → k < w.heap.size := by
  obtain ⟨ao, n, cap, H1, h2, h3, h4⟩ := H
  exact h4
theorem Lw.own (H : Lw w D l I L s h) : D l := by
  obtain ⟨ao, n, cap, H1, h2, h3, h4⟩ := H
  exact h2
theorem Lw.len (H : Lw w D l I L s h) : L.length ≤ 8 := by
  obtain ⟨ao, n, cap, H1, h2, h3, h4⟩ := H
  rw [H1.len]; exact H1.le
theorem Lw.keep (H : Lw w D l I L s h) (hs : w.heap.size ≤ w'.heap.size) (hk : ∀ k, D k → w'.heap[k]? = w.heap[k]?) : Lw w' D l I L s h := by
  obtain ⟨ao, n, cap, ⟨hd, ⟨vs, ho, hb⟩, r1, r2, r3, r4, r5, r6, r7⟩, h2, h3, h4⟩ := H
  exact ⟨ao, n, cap, ⟨hd.keep (hk l h2), ⟨vs, ho.keep fun a ha => hk _ (h3 a ha), ⟨hb.len, fun i v bs e1 e2 => (hb.each i v bs e1 e2).kept ⟨hs, fun k _ hD => hk k hD⟩⟩⟩, r1, r2, r3, r4, r5, r6, r7⟩, h2, h3, fun k hD => Nat.lt_of_lt_of_le (h4 k hD) hs⟩
theorem Lw.below (H : Lw w D l I L s h) (hb : Below w.heap.size w w') : Lw w' D l I L s h := H.keep hb.size fun k hk => hb.block k (H.lt k hk)
theorem Nl.of {ao ao2 : Option Addr} {n cap2 : Nat} (hD : D l) (ha : ∀ x, ao = some x → D x.block) (H2 : Lnk.Lk w' 0 l ao2 n cap2 (fun k => D k ∨ w.heap.size ≤ k) I L s h) (hO : Off2 l ao w w') (hN : Nw w ao ao2) : Nl w w' D l I L s h := by
  refine ⟨⟨fun k => (D k ∨ w.heap.size ≤ k) ∧ k < w'.heap.size, fun k hk => hk.1, ao2, n, cap2, H2.mono (Nat.le_refl 0) fun k hk hv => ⟨hv, hk⟩, ⟨.inl hD, H2.hd.lt⟩, fun x hx => ⟨?_, (H2.ge x hx).2⟩, fun k hk => hk.2⟩, hO.os, hO.tape, hO.output, hO.size, fun k hk hn => hO.block k hk (fun e => hn (e ▸ hD)) fun a e1 e2 => hn (e2 ▸ ha a e1)⟩
  rcases hN x hx with ⟨c, h1, h2⟩ | h1
  · exact .inl (h2 ▸ ha c h1)
  · exact .inr h1
theorem Nl.size (h1 : Nl w w' D l I L s h) : w.heap.size ≤ w'.heap.size := h1.off.size
theorem Nl.older (hb : Below w.heap.size w w1) (H : Nl w1 w' D l I L s h) : Nl w w' D l I L s h := by
  obtain ⟨D', h1, h2⟩ := H.lk
  exact ⟨⟨D', fun k hk => (h1 k hk).imp id fun h' => Nat.le_trans hb.size h', h2⟩, (OffS.of_below hb).trans (H.off.mono fun k hk => .inl hk)⟩
theorem Nl.later (H : Nl w w1 D l I L s h) (hb : Below w1.heap.size w1 w') : Nl w w' D l I L s h := by
  obtain ⟨D', h1, h2⟩ := H.lk
  exact ⟨⟨D', h1, h2.below hb⟩, H.off.trans (OffS.of_below hb)⟩

/-- New, Push, Packets, Got of a link with its own blocks. -/
theorem lnewW (cl ep bo : Int) (sv : Bool) (w : World) : Calls Tryz.prog 21 #[.int .i64 cl, .int .i64 ep, .int .i64 bo, .bool sv] w fun e w' => e = .returned (cp w.heap.size) ∧ Lw w' (fun k => k = w.heap.size) w.heap.size ⟨cl, ep, bo, sv⟩ [] 0 0 ∧ Below w.heap.size w w' := by
  refine (Lnk.new_any cl ep bo sv w).mono ?_
  rintro e w' ⟨rfl, h1, h2⟩
  have h3 := h1 0 (fun k => k = w.heap.size) (Nat.zero_le _)
  exact ⟨rfl, ⟨none, 0, 0, h3, rfl, fun x hx => (by cases hx), fun k hk => by rw [hk]; exact h3.hd.lt⟩, h2⟩

theorem pushW (H : Lw w D l I L s h) (ax : Option Addr) (m cx : Nat) (bs : List Nat) (hr : Rd8 w ax m cx bs) (hm : m ≤ 700) (hn : L.length < 8) (hs : s < 16777215) :
    Calls Tryz.prog 30 #[cp l, .slice ax m cx] w fun e w' => e = .returned (.int .i64 0) ∧ Nl w w' D l I (L ++ [bs]) (s + 1) h := by
  obtain ⟨ao, n, cap, H1, h2, h3, h4⟩ := H
  have hl := H1.len
  refine (Lnk.push_ok w 0 l ao n cap (fun k => D k ∨ w.heap.size ≤ k) I L s h (H1.mono (Nat.le_refl 0) fun k _ hD => .inl hD) ax m cx bs hr hm (by omega) hs fun k hk => .inr hk).mono ?_
  rintro e w' ⟨rfl, ao2, cap2, k1, k2, k3⟩
  exact ⟨rfl, .of h2 h3 k1 k2 k3⟩

theorem packetsW (H : Lw w D l I L s h) : Calls Tryz.prog 32 #[cp l] w fun e w' => ∃ v, e = .returned v ∧ Lnk.Pks w' w.heap.size (fun k => w.heap.size ≤ k) v (Lnk.pksOf I L s h) ∧ Below w.heap.size w w' := by
  obtain ⟨ao, n, cap, H1, h2, h3, h4⟩ := H
  exact Lnk.packets_any w 0 l ao n cap D I L s h H1

theorem gotW (H : Lw w D l I L s h) (P : Lnk.PkG) (u : Value) (U : Nat → Prop) (hy : Lnk.By w U u P.bs) (hm : P.bs.length ≤ 140737488355328) (hh : h < 16777215) :
    Calls Tryz.prog 34 #[cp l, Lnk.pkV P u] w fun e w' => ∃ v, e = .returned (.tuple #[v, .bool (Lnk.gotB I s h P)]) ∧ Lnk.By w' (fun k => w.heap.size ≤ k) v (Lnk.gotX I s h P) ∧ Nl w w' D l I (L.drop (Lnk.gotC I L.length s P)) s (Lnk.gotH I s h P) := by
  obtain ⟨ao, n, cap, H1, h2, h3, h4⟩ := H
  rw [H1.len]
  refine (Lnk.got_any w 0 l ao n cap (fun k => D k ∨ w.heap.size ≤ k) I L s h (H1.mono (Nat.le_refl 0) fun k _ hD => .inl hD) P u U hy hm hh).mono ?_
  rintro e w' ⟨v, rfl, k1, k2, k3⟩
  exact ⟨v, rfl, k1, .of h2 h3 k2 k3 (Nw.refl _ _)⟩

/-- Delete of the first ones of a row of bodies. -/
theorem deleteW (ao : Option Addr) (n cap : Nat) (vs : List Value) (w : World) (ho : OwnS w 0 43 ao cap vs) (hl : vs.length = n) (h1 : ∀ u ∈ vs, u.oneCell' = true) (hn : n ≤ 8) (j : Nat) (hj : j ≤ n) :
    Calls Tryz.prog 31 #[.slice ao n cap, .int .i64 0, .int .i64 (j : Int)] w fun e w' => e = .returned (.slice ao (n - j) cap) ∧ OwnS w' 0 43 ao cap (vs.drop j) ∧ OffS (Ro ao) w w' := by
  refine (Lnk.delete_any w.heap.size 0 ao n cap vs w ho hl h1 hn j hj (Nat.zero_le _)).mono ?_
  rintro e w' ⟨rfl, h2, h3⟩
  exact ⟨rfl, h2, h3.os, h3.tape, h3.output, h3.size, fun k hk hn => h3.block k hk (by omega) fun a e1 e2 => hn ⟨a, e1, e2⟩⟩
end

/-- A guest's block. -/
abbrev guO (cl ep : Int) (a : Nat) (lk : Option Addr) (bo : Int) (xo : Option Addr) (n xc : Nat) : Obj := .cells #[.int .i64 cl, .int .i64 ep, cp a, .pointer lk, .int .i64 bo, .slice xo n xc] 32

/-- A guest without a session. -/
def Gn (w : World) (G : Nat → Prop) (g : Nat) (cl ep : Int) (s : As) : Prop := ∃ A a, w.heap[g]? = some (guO cl ep a none 0 none 0 0) ∧ Aw w A a s ∧ ¬ A g ∧ G g ∧ (∀ k, A k → G k) ∧ ∀ k, G k → k < w.heap.size

/-- A guest with a session and an empty outbox. -/
structure Gk (w : World) (A D : Nat → Prop) (g : Nat) (cl ep bo : Int) (a l : Nat) (xo : Option Addr) (xc : Nat) (s : As) (L : List (List Nat)) (sn h : Nat) : Prop where
  blk : w.heap[g]? = some (guO cl ep a (some ⟨l, 0, none⟩) bo xo 0 xc)
  ag : Aw w A a s
  lk : Lw w D l ⟨cl, ep, bo, false⟩ L sn h
  ox : OwnS w 0 43 xo xc []
  ga : ¬ A g
  gd : ¬ D g
  gx : ∀ x, xo = some x → x.block ≠ g ∧ ¬ A x.block ∧ ¬ D x.block
  ad : ∀ k, A k → ¬ D k

def Gw (w : World) (G : Nat → Prop) (g : Nat) (cl ep bo : Int) (s : As) (L : List (List Nat)) (sn h : Nat) : Prop :=
  ∃ A D a l xo xc, Gk w A D g cl ep bo a l xo xc s L sn h ∧ G g ∧ (∀ k, A k → G k) ∧ (∀ k, D k → G k) ∧ (∀ x, xo = some x → G x.block) ∧ ∀ k, G k → k < w.heap.size

/-- Behind a step of a guest. -/
structure Hg (w w' : World) (G : Nat → Prop) (g : Nat) (cl ep bo : Int) (s : As) (L : List (List Nat)) (sn h : Nat) : Prop where
  gu : ∃ G', (∀ k, G' k → G k ∨ w.heap.size ≤ k) ∧ Gw w' G' g cl ep bo s L sn h
  off : OffS G w w'

section
variable {w w' w1 : World} {G : Nat → Prop} {g : Nat} {cl ep bo : Int} {s : As} {L : List (List Nat)} {sn h : Nat}
theorem Gn.lt (H : Gn w G g cl ep s) : ∀ k, G k → k < w.heap.size := by
  obtain ⟨A, a, h1, h2, h3, h4, h5, h6⟩ := H
  exact h6
theorem Gn.keep (H : Gn w G g cl ep s) (hs : w.heap.size ≤ w'.heap.size) (hk : ∀ k, G k → w'.heap[k]? = w.heap[k]?) : Gn w' G g cl ep s := by
  obtain ⟨A, a, h1, h2, h3, h4, h5, h6⟩ := H
  exact ⟨A, a, (hk g h4).trans h1, h2.keep hs fun k hA => hk k (h5 k hA), h3, h4, h5, fun k hG => Nat.lt_of_lt_of_le (h6 k hG) hs⟩
theorem Gn.below (H : Gn w G g cl ep s) (hb : Below w.heap.size w w') : Gn w' G g cl ep s := H.keep hb.size fun k hk => hb.block k (H.lt k hk)
theorem Gw.lt (H : Gw w G g cl ep bo s L sn h) : ∀ k, G k → k < w.heap.size := by
  obtain ⟨A, D, a, l, xo, xc, h1, h2, h3, h4, h5, h6⟩ := H
  exact h6
theorem Gk.keep {A D : Nat → Prop} {a l : Nat} {xo : Option Addr} {xc : Nat} (H : Gk w A D g cl ep bo a l xo xc s L sn h) (hs : w.heap.size ≤ w'.heap.size) (hg : w'.heap[g]? = w.heap[g]?) (hA : ∀ k, A k → w'.heap[k]? = w.heap[k]?) (hD : ∀ k, D k → w'.heap[k]? = w.heap[k]?) (hx : ∀ x, xo = some x → w'.heap[x.block]? = w.heap[x.block]?) : Gk w' A D g cl ep bo a l xo xc s L sn h :=
  ⟨hg.trans H.blk, H.ag.keep hs hA, H.lk.keep hs hD, H.ox.keep hx, H.ga, H.gd, H.gx, H.ad⟩
theorem Gw.keep (H : Gw w G g cl ep bo s L sn h) (hs : w.heap.size ≤ w'.heap.size) (hk : ∀ k, G k → w'.heap[k]? = w.heap[k]?) : Gw w' G g cl ep bo s L sn h := by
  obtain ⟨A, D, a, l, xo, xc, h1, h2, h3, h4, h5, h6⟩ := H
  exact ⟨A, D, a, l, xo, xc, h1.keep hs (hk g h2) (fun k hA => hk k (h3 k hA)) (fun k hD => hk k (h4 k hD)) (fun x hx => hk _ (h5 x hx)), h2, h3, h4, h5, fun k hG => Nat.lt_of_lt_of_le (h6 k hG) hs⟩
theorem Gw.below (H : Gw w G g cl ep bo s L sn h) (hb : Below w.heap.size w w') : Gw w' G g cl ep bo s L sn h := H.keep hb.size fun k hk => hb.block k (H.lt k hk)
theorem Hg.later (H : Hg w w1 G g cl ep bo s L sn h) (hb : Below w1.heap.size w1 w') : Hg w w' G g cl ep bo s L sn h := by
  obtain ⟨G', h1, h2⟩ := H.gu
  exact ⟨⟨G', h1, h2.below hb⟩, H.off.trans (OffS.of_below hb)⟩
theorem Hg.older (hb : Below w.heap.size w w1) (H : Hg w1 w' G g cl ep bo s L sn h) : Hg w w' G g cl ep bo s L sn h := by
  obtain ⟨G', h1, h2⟩ := H.gu
  exact ⟨⟨G', fun k hk => (h1 k hk).imp id fun h' => Nat.le_trans hb.size h', h2⟩, (OffS.of_below hb).trans (H.off.mono fun k hk => .inl hk)⟩
/-- With a bound below all its blocks. -/
theorem Hg.nextB {B : Nat} {w0 : World} (H : Hg w w' G g cl ep bo s L sn h) (hG : ∀ k, G k → B ≤ k) (hb : Below B w0 w) (hB : B ≤ w0.heap.size) : ∃ G', (∀ k, G' k → B ≤ k) ∧ Gw w' G' g cl ep bo s L sn h ∧ Below B w0 w' := by
  obtain ⟨G', h1, h2⟩ := H.gu
  have hs := hb.size
  refine ⟨G', fun k hk => ?_, h2, hb.trans (H.off.below hG (by omega))⟩
  rcases h1 k hk with h' | h'
  · exact hG k h'
  · omega
end

end Go.Proofs.YtmmgdmfdiaoegaaGreat
