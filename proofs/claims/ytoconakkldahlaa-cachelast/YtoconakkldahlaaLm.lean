/- CacheLast: what a row of Puts leaves, as mathematics. No walk. -/
import Derived.Test.YtoconakkldahlaaNw
namespace Go.Proofs.Ytoconakkldahlaa
open Go.RowKit
set_option linter.unusedVariables false

def ps (L : List En) : List Int := L.map fun x => (x.p : Int)

/-- What is taken out of a row of unlike pages. -/
theorem rm_filter : ∀ (L : List En) (k : Nat) (y : En), (ps L).Nodup → L[k]? = some y → L.take k ++ L.drop (k + 1) = L.filter (fun x => decide (x.p ≠ y.p))
  | [], k, y, _, h => by simp at h
  | a :: L, 0, y, hn, h => by
    obtain rfl : a = y := by simpa using h
    simp only [ps, List.map_cons, List.nodup_cons] at hn
    have : L.filter (fun x => decide (x.p ≠ a.p)) = L := List.filter_eq_self.2 fun x hx => by
      simp only [decide_eq_true_eq]
      intro e
      exact hn.1 (List.mem_map.2 ⟨x, hx, by rw [e]⟩)
    simp only [List.take_zero, List.nil_append, List.drop_succ_cons, List.drop_zero]
    rw [List.filter_cons_of_neg (by simp), this]
  | a :: L, k + 1, y, hn, h => by
    have h' : L[k]? = some y := by simpa using h
    simp only [ps, List.map_cons, List.nodup_cons] at hn
    have hay : a.p ≠ y.p := fun e => hn.1 (List.mem_map.2 ⟨y, List.mem_of_getElem? h', by rw [e]⟩)
    rw [List.take_succ_cons, List.drop_succ_cons, List.cons_append, rm_filter L k y hn.2 h', List.filter_cons_of_pos (by simpa using hay)]

theorem ps_filter (L : List En) (q : Nat) : ps (L.filter (fun x => decide (x.p ≠ q))) = (ps L).filter (fun z => z != (q : Int)) := by
  induction L with
  | nil => rfl
  | cons a L ih =>
    by_cases h : a.p = q
    · rw [List.filter_cons_of_neg (by simpa using h)]
      simp only [ps, List.map_cons] at ih ⊢
      rw [List.filter_cons_of_neg (by simp [h])]
      exact ih
    · have h' : (a.p : Int) ≠ (q : Int) := by omega
      rw [List.filter_cons_of_pos (by simpa using h)]
      simp only [ps, List.map_cons] at ih ⊢
      rw [List.filter_cons_of_pos (by simpa using h'), ih]
theorem ps_append (L M : List En) : ps (L ++ M) = ps L ++ ps M := by simp [ps]
theorem ps_length (L : List En) : (ps L).length = L.length := by simp [ps]

theorem filter_len : ∀ (l : List Int) (a : Int), l.Nodup → a ∈ l → (l.filter (fun z => z != a)).length + 1 = l.length
  | b :: l, a, hn, hm => by
    simp only [List.nodup_cons] at hn
    by_cases h : b = a
    · subst h
      have : l.filter (fun z => z != b) = l := List.filter_eq_self.2 fun x hx => by
        simp only [bne_iff_ne]
        rintro rfl
        exact hn.1 hx
      rw [List.filter_cons_of_neg (by simp), this]
      rfl
    · rw [List.filter_cons_of_pos (by simpa using h), List.length_cons, List.length_cons, filter_len l a hn.2 (by
        rcases List.mem_cons.1 hm with e | e
        · exact absurd e.symm h
        · exact e)]
theorem filter_out (l : List Int) (a : Int) (h : a ∉ l) : l.filter (fun z => z != a) = l := List.filter_eq_self.2 fun x hx => by
  simp only [bne_iff_ne]
  rintro rfl
  exact h hx
theorem filter_comm (l : List Int) (f g : Int → Bool) : (l.filter f).filter g = (l.filter g).filter f := by
  rw [List.filter_filter, List.filter_filter]
  congr 1
  funext x
  exact Bool.and_comm _ _

theorem uniq : ∀ (L : List En) (x y : En), (ps L).Nodup → x ∈ L → y ∈ L → x.p = y.p → x = y
  | a :: L, x, y, hn, hx, hy, e => by
    simp only [ps, List.map_cons, List.nodup_cons] at hn
    rcases List.mem_cons.1 hx with hx1 | hx1
    · rcases List.mem_cons.1 hy with hy1 | hy1
      · rw [hx1, hy1]
      · exact absurd (List.mem_map.2 ⟨y, hy1, by rw [← e, hx1]⟩) hn.1
    · rcases List.mem_cons.1 hy with hy1 | hy1
      · exact absurd (List.mem_map.2 ⟨x, hx1, by rw [e, hy1]⟩) hn.1
      · exact uniq L x y hn.2 hx1 hy1 e

theorem plN_there {L : List En} {p : Int} (h : plN L p < L.length) : ((L[plN L p].p : Nat) : Int) = p := by
  exact beq_iff_eq.1 (List.findIdx_getElem (w := h))
theorem plN_mem {L : List En} {p : Int} : plN L p < L.length ↔ p ∈ ps L := by
  unfold plN ps
  rw [List.findIdx_lt_length]
  simp only [List.mem_map, beq_iff_eq]

/-- What holds between two Puts: pages apart, keep among them with its one copy; the others are O. -/
structure Inv (L : List En) (O : List Int) (kp : Nat) (R : Nat) : Prop where
  nd : (ps L).Nodup
  kc : ∃ x ∈ L, x.p = kp ∧ x.c = 1
  fo : (ps L).filter (fun z => z != (kp : Int)) = O
  le : L.length ≤ R

section
variable {L : List En} {O : List Int} {kp R : Nat}
theorem Inv.mem (h : Inv L O kp R) : (kp : Int) ∈ ps L := by
  obtain ⟨x, hx, h1, -⟩ := h.kc
  exact List.mem_map.2 ⟨x, hx, by rw [h1]⟩
theorem Inv.len (h : Inv L O kp R) : O.length + 1 = L.length := by
  rw [← h.fo, filter_len _ _ h.nd h.mem, ps_length]
theorem Inv.cp (h : Inv L O kp R) : cpN L kp = 1 := by
  have hk : plN L kp < L.length := plN_mem.2 h.mem
  have hp := plN_there hk
  obtain ⟨x, hx, h1, h2⟩ := h.kc
  unfold cpN
  rw [List.getElem?_eq_getElem hk]
  have e := uniq L L[plN L kp] x h.nd (List.getElem_mem hk) hx (by omega)
  rw [e]
  exact h2

/-- What the row of the last ones becomes. -/
def nxO (O : List Int) (p : Int) (R : Nat) : List Int := if R - 1 < (O.filter (fun z => z != p) ++ [p]).length then (O.filter (fun z => z != p) ++ [p]).drop 1 else O.filter (fun z => z != p) ++ [p]

theorem nodup_snoc {l : List Int} {p : Int} (h : l.Nodup) (hp : p ∉ l) : (l ++ [p]).Nodup := by
  rw [List.nodup_append]
  refine ⟨h, by simp, fun a ha b hb => ?_⟩
  obtain rfl : b = p := by simpa using hb
  rintro rfl
  exact hp ha

/-- Behind a Put of another page. -/
theorem Inv.put (h : Inv L O kp R) (hR : 2 ≤ R) (p : Nat) (hp : p ≠ kp) (v : Nat → Nat × Nat) : Inv (putL L (R : Int) [(kp : Int)] p 15 0 v) (nxO O (p : Int) R) kp R := by
  have hpk : ([(p : Int)]).filter (fun z => z != (kp : Int)) = [(p : Int)] := List.filter_cons_of_pos (by simp; omega)
  have hlen := h.len
  have hle := h.le
  obtain ⟨x, hx, hx1, hx2⟩ := h.kc
  by_cases hk : plN L p < L.length
  · -- it is there
    have hpp := plN_there hk
    have e1 : putL L (R : Int) [(kp : Int)] p 15 0 v = L.filter (fun x => decide (x.p ≠ p)) ++ [fillE L[plN L p] 15 0 v] := by
      rw [putL, if_pos hk, List.getElem?_eq_getElem hk, rm_filter L (plN L p) L[plN L p] h.nd (List.getElem?_eq_getElem hk)]
      have : L[plN L p].p = p := by omega
      rw [this]
      rfl
    have e2 : ps (putL L (R : Int) [(kp : Int)] p 15 0 v) = (ps L).filter (fun z => z != (p : Int)) ++ [(p : Int)] := by
      rw [e1, ps_append, ps_filter]
      simp only [ps, fillE, List.map_cons, List.map_nil]
      rw [hpp]
    have hmem := plN_mem.1 hk
    have e3 : ((ps L).filter (fun z => z != (p : Int)) ++ [(p : Int)]).filter (fun z => z != (kp : Int)) = O.filter (fun z => z != (p : Int)) ++ [(p : Int)] := by
      rw [List.filter_append, filter_comm, h.fo, hpk]
    have e4 : (putL L (R : Int) [(kp : Int)] p 15 0 v).length = L.length := by
      rw [← ps_length, e2, List.length_append, ← ps_length L]
      have := filter_len _ _ h.nd hmem
      simp only [List.length_cons, List.length_nil]
      omega
    have hnd : (ps (putL L (R : Int) [(kp : Int)] p 15 0 v)).Nodup := by
      rw [e2]
      exact nodup_snoc (h.nd.filter _) (by simp)
    have hkc : ∃ y ∈ putL L (R : Int) [(kp : Int)] p 15 0 v, y.p = kp ∧ y.c = 1 := by
      rw [e1]
      exact ⟨x, List.mem_append_left _ (List.mem_filter.2 ⟨hx, by simp; omega⟩), hx1, hx2⟩
    refine ⟨hnd, hkc, ?_, by rw [e4]; exact hle⟩
    rw [e2, e3, nxO, if_neg]
    have := filter_len _ _ hnd (List.mem_map.2 (by obtain ⟨y, h1, h2, _⟩ := hkc; exact ⟨y, h1, by rw [h2]⟩) : (kp : Int) ∈ _)
    rw [e2, e3, ← e2, ps_length, e4] at this
    omega
  · have hnm : (p : Int) ∉ ps L := fun h' => hk (plN_mem.2 h')
    have hnO : (p : Int) ∉ O := by rw [← h.fo]; intro h'; exact hnm (List.mem_filter.1 h').1
    have e0 : O.filter (fun z => z != (p : Int)) = O := filter_out _ _ hnO
    by_cases hr : (L.length : Int) < (R : Int)
    · have e1 : putL L (R : Int) [(kp : Int)] p 15 0 v = L ++ [fillE ⟨p, 0, 0, fun _ => (0, 0)⟩ 15 0 v] := by
        rw [putL, if_neg hk, if_pos (by simp [mrB, hr]), mrL, if_pos hr]
      have e2 : ps (putL L (R : Int) [(kp : Int)] p 15 0 v) = ps L ++ [(p : Int)] := by rw [e1, ps_append]; rfl
      refine ⟨by rw [e2]; exact nodup_snoc h.nd hnm, by rw [e1]; exact ⟨x, List.mem_append_left _ hx, hx1, hx2⟩, ?_, by rw [e1, List.length_append]; simp only [List.length_cons, List.length_nil]; omega⟩
      rw [e2, List.filter_append, h.fo, hpk, nxO, e0, if_neg]
      simp only [List.length_append, List.length_cons, List.length_nil]
      omega
    · -- one goes
      have hLR : L.length = R := by omega
      have hgo : goN L [(kp : Int)] < L.length := by
        unfold goN
        rw [List.findIdx_lt_length]
        obtain ⟨a, t, hO⟩ : ∃ a t, O = a :: t := by
          cases O with
          | nil => simp at hlen; omega
          | cons a t => exact ⟨a, t, rfl⟩
        have ha : a ∈ (ps L).filter (fun z => z != (kp : Int)) := by rw [h.fo, hO]; exact List.mem_cons_self
        obtain ⟨h1, h2⟩ := List.mem_filter.1 ha
        obtain ⟨y, hy, rfl⟩ := List.mem_map.1 h1
        refine ⟨y, hy, ?_⟩
        simp only [inB, List.any_cons, List.any_nil, Bool.or_false]
        simpa [bne] using h2
      have hgp : ((L[goN L [(kp : Int)]].p : Nat) : Int) ≠ (kp : Int) := by
        have := List.findIdx_getElem (w := hgo)
        simpa [goN, inB] using this
      obtain ⟨y, hy⟩ : ∃ y, L[goN L [(kp : Int)]] = y := ⟨_, rfl⟩
      rw [hy] at hgp
      have hyg : L[goN L [(kp : Int)]]? = some y := by rw [List.getElem?_eq_getElem hgo, hy]
      have e1 : putL L (R : Int) [(kp : Int)] p 15 0 v = L.filter (fun x => decide (x.p ≠ y.p)) ++ [fillE ⟨p, 0, 0, fun _ => (0, 0)⟩ 15 0 v] := by
        rw [putL, if_neg hk, if_pos (by simp [mrB, hgo]), mrL, if_neg hr, if_pos hgo, rm_filter L _ y h.nd hyg]
      have e2 : ps (putL L (R : Int) [(kp : Int)] p 15 0 v) = (ps L).filter (fun z => z != (y.p : Int)) ++ [(p : Int)] := by rw [e1, ps_append, ps_filter]; rfl
      -- y is the first of the others
      have hO : ∃ t, O = (y.p : Int) :: t := by
        have hsplit : L = L.take (goN L [(kp : Int)]) ++ y :: L.drop (goN L [(kp : Int)] + 1) := by
          conv => lhs; rw [← List.take_append_drop (goN L [(kp : Int)]) L]
          rw [List.drop_eq_getElem_cons hgo, hy]
        have hpre : ∀ z ∈ L.take (goN L [(kp : Int)]), (z.p : Int) = (kp : Int) := by
          intro z hz
          obtain ⟨j, hj, rfl⟩ := List.getElem_of_mem hz
          rw [List.length_take] at hj
          have h1 : j < goN L [(kp : Int)] := by omega
          have := List.not_of_lt_findIdx h1
          rw [List.getElem_take]
          simpa [inB] using this
        have h3 := h.fo
        rw [hsplit, ps_append, List.filter_append] at h3
        have h4 : (ps (L.take (goN L [(kp : Int)]))).filter (fun z => z != (kp : Int)) = [] := by
          rw [List.filter_eq_nil_iff]
          intro z hz
          obtain ⟨u, hu, rfl⟩ := List.mem_map.1 hz
          simp [hpre u hu]
        rw [h4, List.nil_append] at h3
        simp only [ps, List.map_cons] at h3
        rw [List.filter_cons_of_pos (by simpa using hgp)] at h3
        exact ⟨_, h3.symm⟩
      obtain ⟨t, hO⟩ := hO
      have hOn : O.Nodup := by rw [← h.fo]; exact h.nd.filter _
      have hyt : (y.p : Int) ∉ t := by rw [hO] at hOn; exact (List.nodup_cons.1 hOn).1
      have hym : (y.p : Int) ∈ ps L := List.mem_map.2 ⟨y, List.mem_of_getElem? hyg, rfl⟩
      have hl2 := filter_len _ _ h.nd hym
      refine ⟨?_, ?_, ?_, ?_⟩
      · rw [e2]
        exact nodup_snoc (h.nd.filter _) (fun h' => hnm (List.mem_filter.1 h').1)
      · rw [e1]
        exact ⟨x, List.mem_append_left _ (List.mem_filter.2 ⟨hx, by simp only [decide_eq_true_eq]; intro e; exact hgp (by rw [← e, hx1])⟩), hx1, hx2⟩
      · rw [e2, List.filter_append, filter_comm, h.fo, hpk, nxO, e0, if_pos (by simp only [List.length_append, List.length_cons, List.length_nil]; omega), hO, List.filter_cons_of_neg (by simp), filter_out t _ hyt]
        rfl
      · rw [← ps_length, e2, List.length_append]
        rw [ps_length] at hl2
        simp only [List.length_cons, List.length_nil]
        omega
end

theorem Inv.first (kp R : Nat) (hR : 2 ≤ R) (v : Nat → Nat × Nat) : putL [] (R : Int) [] kp 1 0 v = [fillE ⟨kp, 0, 0, fun _ => (0, 0)⟩ 1 0 v] ∧ Inv [fillE ⟨kp, 0, 0, fun _ => (0, 0)⟩ 1 0 v] [] kp R := by
  refine ⟨?_, ⟨by simp [ps], ⟨_, List.mem_cons_self, rfl, rfl⟩, by simp [ps, fillE], by simp only [List.length_cons, List.length_nil]; omega⟩⟩
  have hr : (([] : List En).length : Int) < (R : Int) := by simp; omega
  rw [putL, if_neg (by simp), if_pos (by simp only [mrB, hr, decide_true, Bool.true_or]), mrL, if_pos hr]
  rfl

end Go.Proofs.Ytoconakkldahlaa
