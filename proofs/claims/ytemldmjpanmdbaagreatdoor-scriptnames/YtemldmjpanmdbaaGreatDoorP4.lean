import Derived.Test.YtemldmjpanmdbaaGreatDoorP3
set_option linter.unusedVariables false
namespace Go.Proofs.YtemldmjpanmdbaaGreatDoor.Ev
open Go.RowKit
section
variable {P : Program} {E : Env} {ρ ρ' : Ren} {B : Nat} {w w' : World} {S S' : St} {V : Hp}
abbrev GS (P : Program) (B : Nat) (ρ : Ren) (S : St) (V : Hp) (w : World) : Prop := G P B ρ (ov (rdO S) V) w
theorem ble_iff {a b : Nat} : Nat.ble a b = true ↔ a ≤ b := by rw [Nat.ble_eq]
theorem blt_iff {a b : Nat} : Nat.blt a b = true ↔ a < b := by rw [Nat.blt, Nat.ble_eq]; exact Iff.rfl
theorem blt_false {a b : Nat} (h : ¬ a < b) : Nat.blt a b = false := by
  cases hb : Nat.blt a b
  · rfl
  · exact absurd (blt_iff.1 hb) h
theorem rdO_lt {r : Nat} {o : AO} (h : rdO S r = some o) : r < 4096 := by
  unfold rdO at h
  exact blt_iff.1 (cond_some.1 h).1
theorem rdO_eq (S : St) (r : Nat) : rdO S r = if r < 4096 then Tr.get HD S.h r else none := by
  unfold rdO
  by_cases h : r < 4096
  · rw [blt_iff.2 h, if_pos h]; rfl
  · rw [blt_false h, if_neg h]; rfl
theorem rdO_set (h : Tr AO HD) (n r : Nat) (o : AO) (hr : r < 4096) (m : Nat) : rdO { h := Tr.set HD h r (some o), nx := n } = upd (rdO { h := h, nx := m }) r o := by
  funext k
  rw [rdO_eq, upd, rdO_eq]
  by_cases hk : k < 4096
  · rw [if_pos hk, if_pos hk, Tr.get_set' hk hr]
  · rw [if_neg hk, if_neg hk, if_neg (by omega)]
theorem rdO_putO {r : Nat} (o : AO) (hr : r < 4096) : rdO (putO S r o) = upd (rdO S) r o := rdO_set S.h S.nx r o hr S.nx
theorem rdR_some {r : Nat} {row : Row} : rdR S r = some row ↔ rdO S r = some (.inl row) := by
  unfold rdR
  rw [ob_some]
  constructor
  · rintro ⟨o, h1, h2⟩
    rcases o with row' | o
    · cases h2; exact h1
    · cases h2
  · intro h; exact ⟨_, h, rfl⟩
theorem G.of_row {r : Nat} {row : Row} (h : GS P B ρ S V w) (hr : rdR S r = some row) : ∃ p, ρ r = some p ∧ OR P ρ p (.inl row) w :=
  h.at_ r _ (ov_of (rdR_some.1 hr)) rfl
theorem cell_of {p : Pl} {cc : Array Value} {t : TypeId} {x : Nat} {v : Value} (h : w.heap[p.b]? = some (.cells cc t (0, 0))) (hx : cc[x]? = some v) : w.cell? ⟨p.b, x, none⟩ = some v := by
  simp [World.cell?, h, hx]
theorem rdC_spec {r x : Nat} {v : Value} (h : GS P B ρ S V w) (hr : rdC S r x = some v) : ∃ p v', ρ r = some p ∧ w.cell? ⟨p.b, p.s + x, none⟩ = some v' ∧ VR P ρ v v' := by
  unfold rdC at hr
  obtain ⟨row, h1, h2⟩ := ob_some.1 hr
  obtain ⟨h2, h3⟩ := iff_some.1 h2
  obtain ⟨p, hp, cc, a, b, c, d, e, f⟩ := h.of_row h1
  obtain ⟨v', g1, g2⟩ := f x v (blt_iff.1 h2) h3
  exact ⟨p, v', hp, cell_of a g1, g2⟩
theorem cellsFrom_spec (row : Row) : ∀ (n x : Nat) (l : List Value), cellsFrom row x n = some l → l.length = n ∧ ∀ (i : Nat) v, l[i]? = some v → Tr.get row.d row.c (x + i) = some v
  | 0, x, l, h => by cases h; simp
  | n + 1, x, l, h => by
    unfold cellsFrom at h
    obtain ⟨v, h1, h2⟩ := ob_some.1 h
    obtain ⟨m, h3, h4⟩ := ob_some.1 h2
    cases h4
    obtain ⟨h5, h6⟩ := cellsFrom_spec row n _ m h3
    refine ⟨by simp [h5], fun i u hi => ?_⟩
    cases i with
    | zero => simp at hi; subst hi; exact h1
    | succ i =>
      have := h6 i u (by simpa using hi)
      rw [show x + (i + 1) = Nat.add x 1 + i by show _ = x + 1 + i; omega]; exact this
theorem rdCs_spec {r x n : Nat} {l : List Value} (h : GS P B ρ S V w) (hr : rdCs S r x n = some l) :
    ∃ p l', ρ r = some p ∧ VRL P ρ l l' ∧ l'.length = n ∧ p.s + x + n ≤ p.n ∧ ∀ (j : Nat) v, l'[j]? = some v → w.cell? ⟨p.b, p.s + x + j, none⟩ = some v := by
  unfold rdCs at hr
  obtain ⟨row, h1, h2⟩ := ob_some.1 hr
  obtain ⟨h2, h3⟩ := iff_some.1 h2
  have h2 : x + n ≤ row.len := ble_iff.1 h2
  obtain ⟨p, hp, cc, a, b, c, d, e, f⟩ := h.of_row h1
  obtain ⟨h5, h6⟩ := cellsFrom_spec row n x l h3
  refine ⟨p, (cc.toList.drop (p.s + x)).take n, hp, ?_, ?_, by omega, ?_⟩
  · refine VRL_of ?_ ?_
    · simp only [List.length_take, List.length_drop, h5, Array.length_toList]; omega
    · intro i u u' hu hu'
      have hi : i < n := by rw [← h5]; exact (List.getElem?_eq_some_iff.1 hu).1
      obtain ⟨v', g1, g2⟩ := f (x + i) u (by omega) (h6 i u hu)
      rw [List.getElem?_take_of_lt hi, List.getElem?_drop, Array.getElem?_toList, show p.s + x + i = p.s + (x + i) by omega, g1] at hu'
      cases hu'; exact g2
  · simp [List.length_take, List.length_drop]; omega
  · intro j v hj
    have hjn : j < n := by
      rcases Nat.lt_or_ge j n with h | h
      · exact h
      · rw [List.getElem?_eq_none (by simp [List.length_take]; omega)] at hj; cases hj
    rw [List.getElem?_take_of_lt hjn, List.getElem?_drop, Array.getElem?_toList] at hj
    exact cell_of a hj
theorem setCells_spec {d : Nat} : ∀ (l : List Value) (c c' : Tr Value d) (x : Nat), setCells c x l = some c' → x + l.length ≤ 2 ^ d →
    (∀ v ∈ l, oneCell v = true) ∧ ∀ k, k < 2 ^ d → Tr.get d c' k = if x ≤ k ∧ k < x + l.length then l[k - x]? else Tr.get d c k
  | [], c, c', x, h, _ => by
    cases h
    refine ⟨by simp, fun k hk => ?_⟩
    rw [if_neg (by simp)]
  | v :: l, c, c', x, h, hl => by
    unfold setCells at h
    obtain ⟨h1, h2⟩ := cond_some.1 h
    simp only [List.length_cons] at hl
    obtain ⟨h3, h4⟩ := setCells_spec l _ c' _ h2 (by show x + 1 + l.length ≤ _; omega)
    refine ⟨by simpa [h1] using h3, fun k hk => ?_⟩
    rw [h4 k hk, Tr.get_set' hk (by omega)]
    show (if x + 1 ≤ k ∧ k < x + 1 + l.length then l[k - (x + 1)]? else if k = x then some v else Tr.get d c k) = _
    simp only [List.length_cons]
    by_cases hx : k = x
    · subst hx
      rw [if_neg (by omega), if_pos rfl, if_pos (by omega)]; simp
    · rw [if_neg hx]
      by_cases h5 : x + 1 ≤ k ∧ k < x + 1 + l.length
      · rw [if_pos h5, if_pos (by omega), show k - x = k - (x + 1) + 1 by omega]; simp
      · rw [if_neg h5, if_neg (by omega)]
theorem oneCell_VR {v v' : Value} (h : oneCell v = true) (hv : VR P ρ v v') : v'.oneCell' = true := by
  cases v with
  | agg cs => cases h
  | tuple cs => cases h
  | chan c =>
    match c, h, hv with
    | some (m + 1), _, hv => simp only [VR] at hv; obtain ⟨n, rfl, _⟩ := hv; rfl
  | pointer a => cases a with
    | none => simp only [VR] at hv; subst hv; rfl
    | some a => simp only [VR] at hv; obtain ⟨p, _, _, rfl⟩ := hv; rfl
  | slice a n m =>
    match a, hv with
    | none, hv => simp only [VR] at hv; subst hv; rfl
    | some ⟨r, off, none⟩, hv => simp only [VR] at hv; obtain ⟨p, _, rfl⟩ := hv; rfl
    | some ⟨r, off, some 0⟩, hv => simp only [VR] at hv; obtain ⟨_, p, c, _, _, _, rfl⟩ := hv; rfl
    | some ⟨r, off, some (k + 1)⟩, hv => simp only [VR] at hv; obtain ⟨_, _, a, c, rfl⟩ := hv; rfl
  | map a => cases a with
    | none => simp only [VR] at hv; subst hv; rfl
    | some a => simp only [VR] at hv; obtain ⟨p, _, rfl⟩ := hv; rfl
  | func fn a b => cases fn with
    | yield l => simp only [VR] at hv; obtain ⟨_, _, p, _, rfl⟩ := hv; rfl
    | _ => simp only [VR] at hv; obtain ⟨f, c, rfl, _, _⟩ := hv; rfl
  | iface t v => simp only [VR] at hv; obtain ⟨v', rfl, _⟩ := hv; rfl
  | _ => simp only [VR] at hv; subst hv; rfl
theorem oneCell_VRL : ∀ {l l' : List Value}, (∀ v ∈ l, oneCell v = true) → VRL P ρ l l' → ∀ v ∈ l', v.oneCell' = true
  | [], _, _, h => by cases h; simp
  | v :: l, _, h, ⟨v', m, e, h1, h2⟩ => by
    subst e
    intro u hu
    rcases List.mem_cons.1 hu with rfl | hu
    · exact oneCell_VR (h v (by simp)) h1
    · exact oneCell_VRL (fun u hu => h u (by simp [hu])) h2 u hu
/-- Cells are written into a row. -/
theorem wrCs_spec {r x : Nat} {l l' : List Value} (h : GS P B ρ S V w) (hr : wrCs E S r x l = some S') (hl : VRL P ρ l l') :
    ∃ p w', ρ r = some p ∧ (storeCells ⟨p.b, p.s + x, none⟩ l').run P w = .ok () w' ∧ GS P B ρ S' V w' ∧ Nx B ρ ρ S.nx S'.nx w w' ∧ S'.nx = S.nx := by
  unfold wrCs at hr
  obtain ⟨row, h1, h2⟩ := ob_some.1 hr
  obtain ⟨hb, hc⟩ := iff_some.1 h2
  obtain ⟨c, h3, h4⟩ := ob_some.1 hc
  cases h4
  have h2 : x + l.length ≤ row.len := ble_iff.1 hb
  clear hb hc
  obtain ⟨p, hp, cc, a, b, c0, d, e, f⟩ := h.of_row h1
  obtain ⟨g1, g2⟩ := setCells_spec l row.c c x h3 (by omega)
  have hlen := VRL_length hl
  have hrun := run_storeCells_at P p.b (p.s + x) row.t l' 0 cc w a (by omega) (oneCell_VRL g1 hl)
  simp only [Nat.add_zero] at hrun
  have hB := (h.plc r p hp).1
  refine ⟨p, _, hp, hrun, ?_, ⟨ρ.le_refl, ?_, fun _ h _ => h, Nat.le_refl _⟩, rfl⟩
  · show G P B ρ (ov (rdO (putO S r _)) V) _
    rw [rdO_putO _ (rdO_lt (rdR_some.1 h1)), ov_upd]
    refine h.put ρ.le_refl hp (fun _ _ => rfl) hB (by rw [setRow_size]; exact (h.plc r p hp).2) (by rw [setRow_size]; exact Nat.le_refl _) (fun k hk _ => setRow_other w p.b k _ hk) ?_ ?_
    · intro k ok pk hkr hk hd hpk
      exact h.apart k r ok (.inl row) pk p hkr hk hd (ov_of (rdR_some.1 h1)) rfl hpk hp
    · refine ⟨_, setRow_heap w p.b cc _ row.t (0, 0) a, ?_, c0, d, e, ?_⟩
      · simp; omega
      · intro k v hk hv
        have hk2 : k < 2 ^ row.d := by show k < _; have : row.len ≤ 2 ^ row.d := e; have : k < row.len := hk; omega
        have hv : Tr.get row.d c k = some v := hv
        rw [g2 k hk2] at hv
        have hk : k < row.len := hk
        by_cases hin : x ≤ k ∧ k < x + l.length
        · rw [if_pos hin] at hv
          obtain ⟨v', u1, u2⟩ := VRL_get hl _ _ hv
          refine ⟨v', ?_, u2⟩
          simp only [List.getElem?_toArray]
          rw [List.append_assoc, List.getElem?_append_right (by simp; omega), List.getElem?_append_left (by simp; omega)]
          rw [show p.s + k - (List.take (p.s + x) cc.toList).length = k - x by simp; omega]; exact u1
        · rw [if_neg hin] at hv
          obtain ⟨v', u1, u2⟩ := f k v hk hv
          refine ⟨v', ?_, u2⟩
          simp only [List.getElem?_toArray]
          by_cases hlo : k < x
          · rw [List.append_assoc, List.getElem?_append_left (by simp; omega), List.getElem?_take_of_lt (by omega), Array.getElem?_toList]; exact u1
          · rw [List.getElem?_append_right (by simp; omega), List.getElem?_drop, Array.getElem?_toList]
            rw [show p.s + x + l'.length + (p.s + k - (List.take (p.s + x) cc.toList ++ l').length) = p.s + k by simp; omega]; exact u1
  · exact ⟨rfl, rfl, rfl, by rw [setRow_size]; exact Nat.le_refl _, fun k hk => setRow_other w p.b k _ (by omega)⟩
/-- A renaming with one more. -/
def Ren.put (ρ : Ren) (r : Nat) (p : Pl) : Ren := fun k => if k = r then some p else ρ k
theorem Ren.le_put {r : Nat} (p : Pl) (h : ρ r = none) : ρ.le (ρ.put r p) := fun k q hk => by
  by_cases e : k = r
  · subst e; rw [h] at hk; cases hk
  · simp [Ren.put, e, hk]
theorem newO_spec {o : AO} {q : Nat × St} (h : newO S o = some q) : S.nx < 4096 ∧ q.1 = S.nx ∧ q.2.nx = S.nx + 1 ∧ rdO q.2 = upd (rdO S) S.nx o := by
  unfold newO at h
  obtain ⟨h1, h2⟩ := iff_some.1 h
  cases h2
  have h1 : S.nx < 4096 := blt_iff.1 h1
  exact ⟨h1, rfl, rfl, rdO_set S.h _ S.nx o h1 S.nx⟩
/-- A new block. -/
theorem G.newO {o : AO} {o' : Obj} {q : Nat × St} {n : Nat} {t : TypeId} (h : GS P B ρ S V w) (hq : newO S o = some q) (hf : ρ S.nx = none) (hB : B ≤ w.heap.size)
    (ho : ∀ ρ' : Ren, ρ.le ρ' → OR P ρ' ⟨w.heap.size, 0, n, t⟩ o (w.alloc o')) :
    ∃ ρ', ρ' q.1 = some ⟨w.heap.size, 0, n, t⟩ ∧ GS P B ρ' q.2 V (w.alloc o') ∧ Nx B ρ ρ' S.nx q.2.nx w (w.alloc o') := by
  obtain ⟨h1, h2, h3, h4⟩ := newO_spec hq
  have hle := Ren.le_put ⟨w.heap.size, 0, n, t⟩ hf
  refine ⟨ρ.put S.nx ⟨w.heap.size, 0, n, t⟩, by rw [h2]; simp [Ren.put], ?_, ⟨hle, (Below.refl B w).alloc hB o', fun r hr hn => ?_, by omega⟩⟩
  · show G P B _ (ov (rdO q.2) V) _
    rw [h4, ov_upd]
    refine h.put hle (by simp [Ren.put]) (fun k hk => by simp [Ren.put, hk]) hB (by simp) (by simp) (fun k hk hlt => Below.heap_alloc w o' k hlt) ?_ (ho _ hle)
    intro k ok pk hkr hk hd hpk
    have := (h.plc k pk hpk).2
    show pk.b ≠ w.heap.size
    omega
  · have : r ≠ S.nx := by omega
    simp [Ren.put, this, hr]
theorem get_alloc_new (w : World) (o : Obj) : (w.alloc o).heap[w.heap.size]? = some o := by
  show (w.heap.push o)[w.heap.size]? = _
  simp
theorem rowOf_spec {t : TypeId} {l : List Value} {row : Row} (h : rowOf t l = some row) : row.t = t ∧ row.len = l.length ∧ row.len ≤ 2 ^ row.d ∧ (∀ v ∈ l, oneCell v = true) ∧
    ∀ k, k < row.len → Tr.get row.d row.c k = l[k]? := by
  unfold rowOf at h
  obtain ⟨h1, h2⟩ := iff_some.1 h
  obtain ⟨c, h3, h4⟩ := ob_some.1 h2
  cases h4
  have h1 : l.length ≤ 2 ^ depth l.length := ble_iff.1 h1
  obtain ⟨g1, g2⟩ := setCells_spec l _ c 0 h3 (by omega)
  refine ⟨rfl, rfl, h1, g1, fun k hk => ?_⟩
  have hk : k < l.length := hk
  show Tr.get _ c k = _
  rw [g2 k (by omega), if_pos (by omega)]; simp
theorem newRow_nx {t : TypeId} {l : List Value} {p : Nat × St} (h : newRow S t l = some p) : p.2.nx = S.nx + 1 := by
  obtain ⟨row, _, h2⟩ := ob_some.1 (show ob (rowOf t l) _ = some p from h)
  exact (newO_spec h2).2.2.1
theorem newRow_nx' {t : TypeId} {l : List Value} {p : Nat × St} (h : newRow S t l = some p) : S.nx < p.2.nx := by rw [newRow_nx h]; omega
/-- A new row. -/
theorem newRow_spec {t : TypeId} {l l' : List Value} {q : Nat × St} (h : GS P B ρ S V w) (hq : newRow S t l = some q) (hl : VRL P ρ l l') (hf : ρ S.nx = none) (hB : B ≤ w.heap.size) :
    ∃ ρ', (Go.newRow t l'.toArray).run P w = .ok ⟨w.heap.size, 0, none⟩ (w.alloc (.cells l'.toArray t)) ∧ ρ' q.1 = some ⟨w.heap.size, 0, l.length, t⟩ ∧
      GS P B ρ' q.2 V (w.alloc (.cells l'.toArray t)) ∧ Nx B ρ ρ' S.nx q.2.nx w (w.alloc (.cells l'.toArray t)) ∧ q.2.nx = S.nx + 1 := by
  unfold newRow at hq
  obtain ⟨row, h1, h2⟩ := ob_some.1 hq
  obtain ⟨a, b, c, d, e⟩ := rowOf_spec h1
  obtain ⟨ρ', g1, g2, g3⟩ := h.newO (n := l.length) (t := t) h2 hf hB (o' := .cells l'.toArray t) fun ρ' hle => by
    refine ⟨l'.toArray, by rw [a]; exact get_alloc_new w _, by simp [VRL_length hl], a.symm, by simp [b], c, fun x v hx hv => ?_⟩
    rw [e x hx] at hv
    obtain ⟨v', u1, u2⟩ := VRL_get hl x v hv
    exact ⟨v', by simpa using u1, VR_mono hle _ _ u2⟩
  exact ⟨ρ', by simp [Go.newRow], g1, g2, g3, (newO_spec h2).2.2.1⟩
end
end Go.Proofs.YtemldmjpanmdbaaGreatDoor.Ev
