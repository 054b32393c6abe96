/- What NetSpoils keeps: each frame on its way is a sealed one as it was put, on its own lane, or it was spoilt and isn't one. -/
import Derived.Test.YtfllkhimlambhaaN5
import Derived.Test.YtfllkhimlambhaaIq
namespace Go.Proofs.Ytfllkhimlambhaa
open Go.RowKit
set_option linter.unusedVariables false
set_option maxRecDepth 8000

structure Good (ps : List Pt) (l : Nat) (x : It) : Prop where
  byte : ∀ b ∈ x.1, b < 256
  two : 2 ≤ x.1.length
  own : x.2 = false → ∃ (i : Nat) (p : Pt), ps[i]? = some p ∧ i % 8 = l ∧ x.1 = sealN p.bs
  bad : x.2 = true → ¬ okN x.1
def AllG (ps : List Pt) (T : Nat → List It) : Prop := ∀ l, l < 8 → ∀ x ∈ T l, Good ps l x

theorem good_spoil {ps : List Pt} {l : Nat} {x : It} (h : Good ps l x) (h0 : x.2 = false) (p : Int) {m : Nat} (hm : m < 65536) (hne : brI x p m ≠ x.1) : Good ps l (brI x p m, true) := by
  unfold brI at hne ⊢
  refine ⟨brN_bytes h.byte _ _ _, by rw [brN_length]; exact h.two, fun e => (by cases e), fun _ => ?_⟩
  obtain ⟨i, q, _, _, e⟩ := h.own h0
  have hok : okN x.1 := by rw [e]; exact sealN_ok _
  by_cases h1 : m = 0
  · subst h1
    exact absurd (brN_zero _ _ _ (isLen 0 hm)) hne
  · by_cases h2 : 0 ≤ p ∧ p + L16 m ≤ 8 * x.1.length
    · exact (finds h.byte h.two hok (isLen m hm) h1 h2).1
    · exact absurd (brN_out h2) hne

section
variable {ps : List Pt} {T : Nat → List It}
theorem AllG.upd (H : AllG ps T) {l : Nat} {L : List It} (h : ∀ x ∈ L, Good ps l x) : AllG ps (upd T l L) := by
  intro j hj x hx
  by_cases e : j = l
  · subst e
    rw [upd_same] at hx
    exact h x hx
  · rw [upd_other _ _ e] at hx
    exact H j hj x hx
theorem mem_out {L : List It} {k : Nat} {x : It} (h : x ∈ outL L k) : x ∈ L := by
  rcases List.mem_append.1 h with h | h
  · exact List.mem_of_mem_take h
  · exact List.mem_of_mem_drop h
theorem mem_at {L : List It} {k : Nat} (h : k < L.length) : itAt L k ∈ L := by
  have : itAt L k = L[k] := itAt_of (List.getElem?_eq_getElem h)
  rw [this]
  exact List.getElem_mem h
theorem AllG.put (H : AllG ps T) {l : Nat} (hl : l < 8) {x : It} (hx : Good ps l x) : AllG ps (putT T (l : Int) x) := by
  unfold putT
  split
  · rw [Int.toNat_natCast]
    refine H.upd fun y hy => ?_
    rcases List.mem_append.1 hy with hy | hy
    · exact H l hl y hy
    · have : y = x := by simpa using hy
      subst this
      exact hx
  · exact H
theorem AllG.out (H : AllG ps T) {l : Nat} (hl : l < 8) (k : Nat) : AllG ps (Ytfllkhimlambhaa.upd T l (outL (T l) k)) := H.upd fun y hy => H l hl y (mem_out hy)
theorem AllG.late (H : AllG ps T) {l : Nat} (hl : l < 8) {k : Nat} (hk : k < (T l).length) : AllG ps (lateT T l k) := by
  refine H.upd fun y hy => ?_
  rcases List.mem_append.1 hy with hy | hy
  · exact H l hl y (mem_out hy)
  · have : y = itAt (T l) k := by simpa using hy
    subst this
    exact H l hl _ (mem_at hk)
theorem AllG.spoil (H : AllG ps T) {l : Nat} (hl : l < 8) {k : Nat} (hk : k < (T l).length) (p : Int) {m : Nat} (hm : m < 65536) : AllG ps (spT T l k p m) := by
  unfold spT
  split
  · rename_i h
    refine H.upd fun y hy => ?_
    rcases List.mem_or_eq_of_mem_set hy with hy | rfl
    · exact H l hl y hy
    · have hG := H l hl _ (mem_at hk)
      unfold spB at h
      simp only [Bool.and_eq_true, Bool.not_eq_true', decide_eq_false_iff_not] at h
      exact good_spoil hG h.1 p hm h.2
  · exact H
end


/-- A net from block B on, all of whose frames are good. -/
def Gd (B g : Nat) (w0 w : World) (ps : List Pt) : Prop := B ≤ w.heap.size ∧ Below B w0 w ∧ ∃ T, Net w g (fun k => B ≤ k) T ∧ AllG ps T

section
variable {B g : Nat} {w0 w w' : World} {ps : List Pt}
theorem Gd.below (H : Gd B g w0 w ps) (hb : Below w.heap.size w w') : Gd B g w0 w' ps := by
  obtain ⟨h1, h2, T, h3, h4⟩ := H
  exact ⟨Nat.le_trans h1 hb.size, h2.trans (hb.mono h1), T, h3.below hb, h4⟩
theorem Gd.step (hB : B ≤ w.heap.size) (h0 : Below B w0 w) {T : Nat → List It} (h : Ned w w' g (fun k => B ≤ k) T) (hG : AllG ps T) : Gd B g w0 w' ps := by
  refine ⟨Nat.le_trans hB h.2.size, h0.trans (h.2.off.below (fun _ h => h) hB), T, h.1.mono ?_, hG⟩
  rintro k _ (h | h)
  · exact h
  · exact Nat.le_trans hB h

theorem g_double (H : Gd B g w0 w ps) (z i : Int) : Calls Try.prog 16 #[np g, .int .i64 z, .int .i64 i] w fun e w' => ∃ b, e = .returned (.bool b) ∧ Hid (Gd B g w0 w' ps) := by
  obtain ⟨h1, h2, T, h3, h4⟩ := H
  by_cases h : hasB T z i = true
  · obtain ⟨l, k, rfl, rfl, hl, hk⟩ := hasB_yes h
    refine (double_yes h3 l hl k hk).mono ?_
    rintro e w' ⟨rfl, h5⟩
    exact ⟨_, rfl, Gd.step h1 h2 h5 (h4.put hl (h4 l hl _ (mem_at hk)))⟩
  · refine (double_no h3 z i (by simpa using h)).mono ?_
    rintro e w' ⟨rfl, rfl⟩
    exact ⟨_, rfl, h1, h2, T, h3, h4⟩
theorem g_late (H : Gd B g w0 w ps) (z i : Int) : Calls Try.prog 18 #[np g, .int .i64 z, .int .i64 i] w fun e w' => ∃ b, e = .returned (.bool b) ∧ Hid (Gd B g w0 w' ps) := by
  obtain ⟨h1, h2, T, h3, h4⟩ := H
  by_cases h : hasB T z i = true
  · obtain ⟨l, k, rfl, rfl, hl, hk⟩ := hasB_yes h
    refine (late_yes h3 l hl k hk).mono ?_
    rintro e w' ⟨rfl, h5⟩
    exact ⟨_, rfl, Gd.step h1 h2 h5 (h4.late hl hk)⟩
  · refine (late_no h3 z i (by simpa using h)).mono ?_
    rintro e w' ⟨rfl, rfl⟩
    exact ⟨_, rfl, h1, h2, T, h3, h4⟩
theorem g_spoil (H : Gd B g w0 w ps) (z i p : Int) (m : Nat) (hm : m < 65536) (hp : -9223372036854775808 ≤ p) (hp2 : p ≤ 9223372036854775807) : Calls Try.prog 20 #[np g, .int .i64 z, .int .i64 i, .int .i64 p, .int .u16 (m : Int)] w fun e w' => ∃ b, e = .returned (.bool b) ∧ Hid (Gd B g w0 w' ps) := by
  obtain ⟨h1, h2, T, h3, h4⟩ := H
  by_cases h : hasB T z i = true
  · obtain ⟨l, k, rfl, rfl, hl, hk⟩ := hasB_yes h
    refine (spoil_yes h3 l hl k hk p m hm hp hp2).mono ?_
    rintro e w' ⟨rfl, h5⟩
    exact ⟨_, rfl, Gd.step h1 h2 h5 (h4.spoil hl hk p hm)⟩
  · refine (spoil_no h3 z i p _ (by simpa using h)).mono ?_
    rintro e w' ⟨rfl, rfl⟩
    exact ⟨_, rfl, h1, h2, T, h3, h4⟩
theorem g_put (H : Gd B g w0 w ps) {l : Nat} (hl : l < 8) {ax : Option Addr} {m cx : Nat} {bs : List Nat} (hr : Rd8 w ax m cx bs) (hm : m ≤ 140737488355328) (hx : Good ps l (bs, false)) {z : Int} (hz : z = (l : Int)) : Calls Try.prog 11 #[np g, .int .i64 z, .slice ax m cx] w fun e w' => ∃ b, e = .returned (.bool b) ∧ Hid (Gd B g w0 w' ps) := by
  subst hz
  obtain ⟨h1, h2, T, h3, h4⟩ := H
  refine (put_any h3 (l : Int) ax m cx bs hr hm).mono ?_
  rintro e w' ⟨rfl, h5⟩
  exact ⟨_, rfl, Gd.step h1 h2 h5 (h4.put hl hx)⟩
theorem g_new (w0 w : World) (hB : w0.heap.size = B) (hb : Below B w0 w) : Calls Try.prog 8 #[] w fun e w' => e = .returned (np w.heap.size) ∧ Hid (Gd B w.heap.size w0 w' ps) := by
  refine (new_any w).mono ?_
  rintro e w' ⟨rfl, h1, h2⟩
  have hs : B ≤ w.heap.size := hB ▸ hb.size
  exact ⟨rfl, Nat.le_trans hs h2.size, hb.trans (h2.mono hs), _, h1.mono fun k _ h => Nat.le_trans hs h, fun l _ x hx => by cases hx⟩

/-- What a Take of a lane's first answers: none, or a good one. -/
theorem g_take (H : Gd B g w0 w ps) {l : Nat} (hl : l < 8) : (Calls Try.prog 14 #[np g, .int .i64 (l : Int), .int .i64 0] w fun e w' => e = .returned (.tuple #[.slice none 0 0, .bool false]) ∧ w' = w) ∨ (Calls Try.prog 14 #[np g, .int .i64 (l : Int), .int .i64 0] w fun e w' => ∃ y : Fv, e = .returned (.tuple #[.slice y.ao y.n y.cap, .bool true]) ∧ Hid (Good ps l y.it ∧ Fb w' (fun k => B ≤ k) y ∧ Gd B g w0 w' ps)) := by
  obtain ⟨h1, h2, T, h3, h4⟩ := H
  by_cases h : 0 < (T l).length
  · refine .inr ((take_yes h3 l hl 0 h).mono ?_)
    rintro e w' ⟨y, rfl, h5, h6, h7⟩
    exact ⟨y, rfl, h4 l hl _ (List.mem_of_getElem? h5), h6.off (.refl (fun _ => False) _), Gd.step h1 h2 h7 (h4.out hl 0)⟩
  · refine .inl (take_no h3 _ _ ?_)
    have := hasB_nat T hl 0
    rw [decide_eq_false h] at this
    exact this

/-- What Open answers of a good frame. -/
theorem g_open (H : Gd B g w0 w ps) {l : Nat} {y : Fv} (hy : Good ps l y.it) (hf : Fb w (fun k => B ≤ k) y) : Calls Try.prog 23 #[.slice y.ao y.n y.cap] w fun e w' => ∃ ao' n' cap' bs, ∃ er : Nat, e = .returned (.tuple #[.slice ao' n' cap', .int .i64 (er : Int)]) ∧ Hid (Rd8 w' ao' n' cap' bs ∧ Gd B g w0 w' ps ∧ (er = 0 → ∃ (i : Nat) (p : Pt), ps[i]? = some p ∧ i % 8 = l ∧ bs = p.bs)) := by
  have hlen := hf.rd.len
  have h2 : 2 ≤ y.bs.length := hy.two
  by_cases hs : y.sp = true
  · refine (open_bad y.ao (y.n - 2) y.n y.cap y.bs w hf.rd (by omega) hf.sz (hy.bad hs)).mono ?_
    rintro e w' ⟨rfl, hb⟩
    exact ⟨none, 0, 0, [], 31, rfl, Rd8.empty _, H.below hb, fun h => by cases h⟩
  · have hs' : y.sp = false := by simpa using hs
    obtain ⟨i, p, hp, hi, e⟩ := hy.own hs'
    have e' : y.bs = sealN p.bs := e
    refine (open_ok y.ao (y.n - 2) y.n y.cap y.bs w hf.rd (by omega) hf.sz (by rw [e']; exact sealN_ok _)).mono ?_
    rintro e w' ⟨ao', cap', rfl, ho, hb⟩
    refine ⟨ao', y.n - 2, cap', _, 0, rfl, ho.rd, H.below hb, fun _ => ⟨i, p, hp, hi, ?_⟩⟩
    have := sealN_take p.bs
    rw [← e', hlen] at this
    exact this
end

end Go.Proofs.Ytfllkhimlambhaa
