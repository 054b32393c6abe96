/- The program's net and the document's side by side: each call of both, whatever it is asked. -/
import Derived.Test.YtfllkhimlambhaaRy
namespace Go.Proofs.Ytfllkhimlambhaa
open Go.RowKit
set_option linter.unusedVariables false
set_option maxRecDepth 8000

/-- The document's net reads so. -/
def Rf (w : World) (U : Nat → Prop) (R : Nat → Rw) (T : Nat → List It) : Prop := ∃ F, Rn w U R F ∧ ∀ l, l < 8 → (F l).map Fv.it = T l
/-- No frame is too long. -/
def SZ (T : Nat → List It) : Prop := ∀ l, l < 8 → ∀ x ∈ T l, x.1.length ≤ 140737488351232

/-- What a Take leaves, and the bytes that it answers. -/
def tkT (T : Nat → List It) (z i : Int) : Nat → List It := if hasB T z i then upd T z.toNat (outL (T z.toNat) i.toNat) else T
def tkB (T : Nat → List It) (z i : Int) : List Nat := if hasB T z i then (itAt (T z.toNat) i.toNat).1 else []
def dbT (T : Nat → List It) (z i : Int) : Nat → List It := if hasB T z i then putT T z (itAt (T z.toNat) i.toNat) else T
def dbB (T : Nat → List It) (z i : Int) : Bool := hasB T z i && putB T z
def ltT (T : Nat → List It) (z i : Int) : Nat → List It := if hasB T z i then lateT T z.toNat i.toNat else T
def slT (T : Nat → List It) (z i p : Int) (m : Nat) : Nat → List It := if hasB T z i then spT T z.toNat i.toNat p m else T
def slB (T : Nat → List It) (z i p : Int) (m : Nat) : Bool := hasB T z i && spB (T z.toNat) i.toNat p m

section
variable {w w' : World} {g : Nat} {V U : Nat → Prop} {T : Nat → List It} {R : Nat → Rw}

/-! ### The program's -/
theorem n_take (H : Net w g V T) (z i : Int) : Calls Try.prog 14 #[np g, .int .i64 z, .int .i64 i] w fun e w' => ∃ y : Fv, e = .returned (.tuple #[.slice y.ao y.n y.cap, .bool (hasB T z i)]) ∧ Hid (Rd8 w' y.ao y.n y.cap (tkB T z i) ∧ (∀ a, y.ao = some a → ∃ cs, w'.heap[a.block]? = some (.cells cs 5)) ∧ Ned w w' g V (tkT T z i)) := by
  by_cases h : hasB T z i = true
  · obtain ⟨l, k, rfl, rfl, hl, hk⟩ := hasB_yes h
    refine (take_yes H l hl k hk).mono ?_
    rintro e w' ⟨y, rfl, h1, h2, h3⟩
    refine ⟨y, by rw [h], ?_, fun a ha => (h2.ty a ha).2, ?_⟩
    · unfold tkB
      rw [if_pos h, Int.toNat_natCast, Int.toNat_natCast, itAt_of h1]
      exact h2.rd
    · unfold tkT
      rw [if_pos h, Int.toNat_natCast, Int.toNat_natCast]
      exact h3
  · have h' : hasB T z i = false := by simpa using h
    refine (take_no H z i h').mono ?_
    rintro e w' ⟨rfl, rfl⟩
    refine ⟨⟨none, 0, 0, [], false⟩, by rw [h'], ?_, fun a ha => (by cases ha), ?_⟩
    · unfold tkB
      rw [if_neg h]
      exact Rd8.empty _
    · unfold tkT
      rw [if_neg h]
      exact Ned.same H
theorem n_double (H : Net w g V T) (z i : Int) : Calls Try.prog 16 #[np g, .int .i64 z, .int .i64 i] w fun e w' => e = .returned (.bool (dbB T z i)) ∧ Hid (Ned w w' g V (dbT T z i)) := by
  unfold dbB dbT
  by_cases h : hasB T z i = true
  · obtain ⟨l, k, rfl, rfl, hl, hk⟩ := hasB_yes h
    rw [if_pos h, h, Int.toNat_natCast, Int.toNat_natCast, Bool.true_and]
    exact double_yes H l hl k hk
  · have h' : hasB T z i = false := by simpa using h
    rw [if_neg h, h', Bool.false_and]
    refine (double_no H z i h').mono ?_
    rintro e w' ⟨rfl, rfl⟩
    exact ⟨rfl, Ned.same H⟩
theorem n_late (H : Net w g V T) (z i : Int) : Calls Try.prog 18 #[np g, .int .i64 z, .int .i64 i] w fun e w' => e = .returned (.bool (hasB T z i)) ∧ Hid (Ned w w' g V (ltT T z i)) := by
  unfold ltT
  by_cases h : hasB T z i = true
  · obtain ⟨l, k, rfl, rfl, hl, hk⟩ := hasB_yes h
    rw [if_pos h, h, Int.toNat_natCast, Int.toNat_natCast]
    exact late_yes H l hl k hk
  · have h' : hasB T z i = false := by simpa using h
    rw [if_neg h, h']
    refine (late_no H z i h').mono ?_
    rintro e w' ⟨rfl, rfl⟩
    exact ⟨rfl, Ned.same H⟩
theorem n_spoil (H : Net w g V T) (z i p : Int) (m : Nat) (hm : m < 65536) (hp : -9223372036854775808 ≤ p) (hp2 : p ≤ 9223372036854775807) : Calls Try.prog 20 #[np g, .int .i64 z, .int .i64 i, .int .i64 p, .int .u16 (m : Int)] w fun e w' => e = .returned (.bool (slB T z i p m)) ∧ Hid (Ned w w' g V (slT T z i p m)) := by
  unfold slT slB
  by_cases h : hasB T z i = true
  · obtain ⟨l, k, rfl, rfl, hl, hk⟩ := hasB_yes h
    rw [if_pos h, h, Int.toNat_natCast, Int.toNat_natCast, Bool.true_and]
    exact spoil_yes H l hl k hk p m hm hp hp2
  · have h' : hasB T z i = false := by simpa using h
    rw [if_neg h, h', Bool.false_and]
    refine (spoil_no H z i p _ h').mono ?_
    rintro e w' ⟨rfl, rfl⟩
    exact ⟨rfl, Ned.same H⟩

/-! ### The document's -/
theorem Rf.len (H : Rf w U R T) {l : Nat} (hl : l < 8) : (R l).n = (T l).length := by
  obtain ⟨F, h1, h2⟩ := H
  rw [← h2 l hl, List.length_map]
  exact (h1.len l hl).symm
theorem Rf.has (H : Rf w U R T) (z i : Int) : hasR R z i = hasB T z i := by
  unfold hasR hasB lenZ
  congr 1
  simp only [eq_iff_iff]
  by_cases hz : 0 ≤ z ∧ z < 8
  · rw [if_pos hz, H.len (show z.toNat < 8 by omega)]
    omega
  · rw [if_neg hz]
    omega
theorem Rf.put (H : Rf w U R T) (z : Int) : putR R z = putB T z := by
  by_cases hz : 0 ≤ z ∧ z < 8
  · obtain ⟨l, rfl⟩ : ∃ l : Nat, z = (l : Int) := ⟨z.toNat, by omega⟩
    have hl : l < 8 := by omega
    rw [putB_nat T hl]
    unfold putR
    rw [Int.toNat_natCast, H.len hl]
    congr 1
    simp only [eq_iff_iff]
    omega
  · have h1 : putB T z = false := by unfold putB; rw [decide_eq_false hz, Bool.false_and]
    rw [h1]
    unfold putR
    rw [decide_eq_false_iff_not]
    omega
theorem Rf.below (H : Rf w U R T) (hb : Below w.heap.size w w') : Rf w' U R T := by
  obtain ⟨F, h1, h2⟩ := H
  exact ⟨F, h1.below hb, h2⟩
theorem Rf.mono (H : Rf w U R T) (hv : ∀ k, k < w.heap.size → U k → V k) : Rf w V R T := by
  obtain ⟨F, h1, h2⟩ := H
  exact ⟨F, h1.mono hv, h2⟩
theorem Rf.off (H : Rf w U R T) (hO : OffN V w w') : Rf w' U R T := by
  obtain ⟨F, h1, h2⟩ := H
  exact ⟨F, h1.off hO, h2⟩
theorem Rf.same (H : Rf w U R T) (hb : Below w.heap.size w w') : Rf w' (Grow w U) R T := (H.below hb).mono fun _ _ h => .inl h
theorem sz_of {F : Nat → List Fv} (H : Rn w U R F) (hT : ∀ l, l < 8 → (F l).map Fv.it = T l) (hS : SZ T) {l : Nat} (hl : l < 8) : ∀ x ∈ F l, x.n ≤ 140737488351232 := by
  intro x hx
  have h1 := hS l hl x.it (by rw [← hT l hl]; exact List.mem_map_of_mem hx)
  have h2 := (H.by' l hl x hx).rd.len
  have h3 : x.it.1 = x.bs := rfl
  rw [h3] at h1
  omega
theorem upd_it {F : Nat → List Fv} (hT : ∀ l, l < 8 → (F l).map Fv.it = T l) {l : Nat} {L : List Fv} {M : List It} (h : L.map Fv.it = M) : ∀ j, j < 8 → (upd F l L j).map Fv.it = upd T l M j := by
  intro j hj
  by_cases e : j = l
  · subst e; rw [upd_same, upd_same]; exact h
  · rw [upd_other _ _ e, upd_other _ _ e]; exact hT j hj

theorem r_put (H : Rf w U R T) (z : Int) (X : Fv) (hX : Rd8 w X.ao X.n X.cap X.bs) (hXs : X.n ≤ 140737488351232) : Calls Try.prog 13 #[rnV R, .int .i64 z, .agg #[.slice X.ao X.n X.cap, .bool X.sp]] w fun e w' => ∃ R', e = .returned (.tuple #[rnV R', .bool (putB T z)]) ∧ Hid (Rf w' (Grow w U) R' (putT T z X.it) ∧ Below w.heap.size w w') := by
  have hp := H.put z
  have HH := H
  obtain ⟨F, h1, hT⟩ := H
  by_cases h : putB T z = true
  · obtain ⟨l, rfl, hl, hn⟩ := putB_in h
    have hl2 : (F l).length = (T l).length := by rw [← hT l hl, List.length_map]
    refine (rput_yes h1 l hl _ rfl (by omega) X hX hXs).mono ?_
    rintro e w' ⟨r', x', rfl, h2, h3, h4⟩
    refine ⟨_, by rw [h], ⟨_, h3, ?_⟩, h4⟩
    unfold putT
    rw [if_pos h, Int.toNat_natCast]
    exact upd_it hT (by rw [List.map_append, hT l hl, List.map_singleton, h2])
  · have h' : putB T z = false := by simpa using h
    refine (rput_no R z X w (by rw [hp, h'])).mono ?_
    rintro e w' ⟨rfl, h2⟩
    refine ⟨R, by rw [h'], ?_, h2⟩
    unfold putT
    rw [if_neg h]
    exact HH.same h2
theorem r_take (H : Rf w U R T) (z i : Int) : Calls Try.prog 15 #[rnV R, .int .i64 z, .int .i64 i] w fun e w' => ∃ (R' : Nat → Rw) (y : Fv), e = .returned (.tuple #[rnV R', .slice y.ao y.n y.cap, .bool (hasB T z i)]) ∧ Hid (Rd8 w' y.ao y.n y.cap (tkB T z i) ∧ (∀ a, y.ao = some a → ∃ cs, w'.heap[a.block]? = some (.cells cs 5)) ∧ Rf w' (Grow w U) R' (tkT T z i) ∧ Below w.heap.size w w') := by
  have hh := H.has z i
  have HH := H
  obtain ⟨F, h1, hT⟩ := H
  unfold tkT tkB
  by_cases h : hasB T z i = true
  · obtain ⟨l, k, rfl, rfl, hl, hk⟩ := hasB_yes h
    have hl2 : (F l).length = (T l).length := by rw [← hT l hl, List.length_map]
    rw [if_pos h, if_pos h, h, Int.toNat_natCast, Int.toNat_natCast]
    refine (rtake_yes h1 l hl k (by omega)).mono ?_
    rintro e w' ⟨x, r', h2, rfl, h3, h4⟩
    have hb := (h1.by' l hl x (List.mem_of_getElem? h2)).below h4
    refine ⟨_, x, rfl, ?_, fun a ha => (hb.ty a ha).2, ⟨_, h3.mono fun _ _ h => .inl h, upd_it hT ?_⟩, h4⟩
    · have : itAt (T l) k = x.it := itAt_of (by rw [← hT l hl, List.getElem?_map, h2]; rfl)
      rw [this]
      exact hb.rd
    · rw [List.map_append, List.map_take, List.map_drop, hT l hl]
      rfl
  · have h' : hasB T z i = false := by simpa using h
    rw [if_neg h, if_neg h, h']
    refine (rtake_no R z i w (by rw [hh, h'])).mono ?_
    rintro e w' ⟨rfl, h2⟩
    exact ⟨R, ⟨none, 0, 0, [], false⟩, rfl, Rd8.empty _, fun a ha => (by cases ha), HH.same h2, h2⟩
theorem r_double (H : Rf w U R T) (hS : SZ T) (z i : Int) : Calls Try.prog 17 #[rnV R, .int .i64 z, .int .i64 i] w fun e w' => ∃ R', e = .returned (.tuple #[rnV R', .bool (dbB T z i)]) ∧ Hid (Rf w' (Grow w U) R' (dbT T z i) ∧ Below w.heap.size w w') := by
  have hh := H.has z i
  have HH := H
  obtain ⟨F, h1, hT⟩ := H
  unfold dbT dbB
  by_cases h : hasB T z i = true
  · obtain ⟨l, k, rfl, rfl, hl, hk⟩ := hasB_yes h
    have hl2 : (F l).length = (T l).length := by rw [← hT l hl, List.length_map]
    rw [if_pos h, h, Int.toNat_natCast, Int.toNat_natCast, Bool.true_and]
    have hy : ((F l).map Fv.it)[k]? = some (itAt (T l) k) := by
      rw [hT l hl, List.getElem?_eq_getElem hk, itAt_of (List.getElem?_eq_getElem hk)]
    by_cases hn : (T l).length < 200
    · have hp : putB T (l : Int) = true := by rw [putB_nat T hl, decide_eq_true hn]
      refine (rdouble_yes h1 l hl k (by omega) (by omega) _ hy (sz_of h1 hT hS hl)).mono ?_
      rintro e w' ⟨r', x', rfl, h2, h3, h4⟩
      refine ⟨_, by rw [hp], ⟨_, h3, ?_⟩, h4⟩
      unfold putT
      rw [if_pos hp, Int.toNat_natCast]
      exact upd_it hT (by rw [List.map_append, hT l hl, List.map_singleton, h2])
    · have hp : putB T (l : Int) = false := by rw [putB_nat T hl, decide_eq_false hn]
      refine (rdouble_full h1 l hl k (by omega) (by omega)).mono ?_
      rintro e w' ⟨rfl, h2⟩
      refine ⟨R, by rw [hp], ?_, h2⟩
      unfold putT
      rw [hp]
      exact HH.same h2
  · have h' : hasB T z i = false := by simpa using h
    rw [if_neg h, h', Bool.false_and]
    refine (rdouble_no R z i w (by rw [hh, h'])).mono ?_
    rintro e w' ⟨rfl, h2⟩
    exact ⟨R, rfl, HH.same h2, h2⟩
theorem r_late (H : Rf w U R T) (hS : SZ T) (z i : Int) : Calls Try.prog 19 #[rnV R, .int .i64 z, .int .i64 i] w fun e w' => ∃ R', e = .returned (.tuple #[rnV R', .bool (hasB T z i)]) ∧ Hid (Rf w' (Grow w U) R' (ltT T z i) ∧ Below w.heap.size w w') := by
  have hh := H.has z i
  have HH := H
  obtain ⟨F, h1, hT⟩ := H
  unfold ltT
  by_cases h : hasB T z i = true
  · obtain ⟨l, k, rfl, rfl, hl, hk⟩ := hasB_yes h
    have hl2 : (F l).length = (T l).length := by rw [← hT l hl, List.length_map]
    rw [if_pos h, h, Int.toNat_natCast, Int.toNat_natCast]
    have hy : ((F l).map Fv.it)[k]? = some (itAt (T l) k) := by
      rw [hT l hl, List.getElem?_eq_getElem hk, itAt_of (List.getElem?_eq_getElem hk)]
    refine (rlate_yes h1 l hl k (by omega) _ hy (sz_of h1 hT hS hl)).mono ?_
    rintro e w' ⟨r', x', rfl, h2, h3, h4⟩
    refine ⟨_, rfl, ⟨_, h3, ?_⟩, h4⟩
    unfold lateT
    refine upd_it hT ?_
    rw [List.map_append, List.map_singleton, h2]
    unfold outF
    rw [List.map_append, List.map_take, List.map_drop, hT l hl]
    rfl
  · have h' : hasB T z i = false := by simpa using h
    rw [if_neg h, h']
    refine (rlate_no R z i w (by rw [hh, h'])).mono ?_
    rintro e w' ⟨rfl, h2⟩
    exact ⟨R, rfl, HH.same h2, h2⟩
theorem r_spoil (H : Rf w U R T) (hS : SZ T) (z i p : Int) (m : Nat) (hm : m < 65536) (hp : -9223372036854775808 ≤ p) (hp2 : p ≤ 9223372036854775807) : Calls Try.prog 21 #[rnV R, .int .i64 z, .int .i64 i, .int .i64 p, .int .u16 (m : Int)] w fun e w' => ∃ R', e = .returned (.tuple #[rnV R', .bool (slB T z i p m)]) ∧ Hid (Rf w' (Grow w U) R' (slT T z i p m) ∧ Below w.heap.size w w') := by
  have hh := H.has z i
  have HH := H
  obtain ⟨F, h1, hT⟩ := H
  unfold slT slB
  by_cases h : hasB T z i = true
  · obtain ⟨l, k, rfl, rfl, hl, hk⟩ := hasB_yes h
    have hl2 : (F l).length = (T l).length := by rw [← hT l hl, List.length_map]
    rw [if_pos h, h, Int.toNat_natCast, Int.toNat_natCast, Bool.true_and]
    have hy : ((F l).map Fv.it)[k]? = some (itAt (T l) k) := by
      rw [hT l hl, List.getElem?_eq_getElem hk, itAt_of (List.getElem?_eq_getElem hk)]
    unfold spT
    by_cases hs : spB (T l) k p m = true
    · rw [if_pos hs, hs]
      have hs2 := hs
      unfold spB at hs2
      simp only [Bool.and_eq_true, Bool.not_eq_true', decide_eq_false_iff_not] at hs2
      refine (rspoil_turn h1 l hl k (by omega) _ hy (sz_of h1 hT hS hl) p m hm hp hp2 hs2.1 _ rfl hs2.2).mono ?_
      rintro e w' ⟨r', x', rfl, h2, h3, h4⟩
      refine ⟨_, rfl, ⟨_, h3, upd_it hT ?_⟩, h4⟩
      rw [List.map_set, hT l hl, h2]
    · have hs' : spB (T l) k p m = false := by simpa using hs
      rw [if_neg hs, hs']
      refine (rspoil_stay h1 l hl k (by omega) _ hy (sz_of h1 hT hS hl) p m hm hp hp2 ?_).mono ?_
      · unfold spB at hs'
        rw [Bool.and_eq_false_iff] at hs'
        rcases hs' with h | h
        · exact .inl (by simpa using h)
        · exact .inr (by simpa using h)
      rintro e w' ⟨rfl, h2⟩
      exact ⟨R, rfl, HH.same h2, h2⟩
  · have h' : hasB T z i = false := by simpa using h
    rw [if_neg h, h', Bool.false_and]
    refine (rspoil_no R z i p _ w (by rw [hh, h'])).mono ?_
    rintro e w' ⟨rfl, h2⟩
    exact ⟨R, rfl, HH.same h2, h2⟩
end

/-! ### No frame gets too long -/
section
variable {T : Nat → List It}
theorem SZ.upd (H : SZ T) {l : Nat} {L : List It} (h : ∀ x ∈ L, x.1.length ≤ 140737488351232) : SZ (Ytfllkhimlambhaa.upd T l L) := by
  intro j hj x hx
  by_cases e : j = l
  · subst e; rw [upd_same] at hx; exact h x hx
  · rw [upd_other _ _ e] at hx; exact H j hj x hx
theorem SZ.at (H : SZ T) {l k : Nat} (hl : l < 8) (hk : k < (T l).length) : (itAt (T l) k).1.length ≤ 140737488351232 := by
  rw [itAt_of (List.getElem?_eq_getElem hk)]
  exact H l hl _ (List.getElem_mem hk)
theorem SZ.put (H : SZ T) (z : Int) {x : It} (hx : x.1.length ≤ 140737488351232) : SZ (putT T z x) := by
  unfold putT
  split
  · rename_i h
    obtain ⟨l, rfl, hl, _⟩ := putB_in h
    rw [Int.toNat_natCast]
    refine H.upd fun y hy => ?_
    rcases List.mem_append.1 hy with hy | hy
    · exact H l hl y hy
    · have : y = x := by simpa using hy
      rw [this]; exact hx
  · exact H
theorem SZ.out (H : SZ T) {l : Nat} (hl : l < 8) (k : Nat) : ∀ x ∈ outL (T l) k, x.1.length ≤ 140737488351232 := by
  intro x hx
  rcases List.mem_append.1 hx with hx | hx
  · exact H l hl x (List.mem_of_mem_take hx)
  · exact H l hl x (List.mem_of_mem_drop hx)
theorem SZ.tk (H : SZ T) (z i : Int) : SZ (tkT T z i) := by
  unfold tkT
  split
  · rename_i h
    obtain ⟨l, k, rfl, rfl, hl, hk⟩ := hasB_yes h
    rw [Int.toNat_natCast, Int.toNat_natCast]
    exact H.upd (H.out hl k)
  · exact H
theorem SZ.db (H : SZ T) (z i : Int) : SZ (dbT T z i) := by
  unfold dbT
  split
  · rename_i h
    obtain ⟨l, k, rfl, rfl, hl, hk⟩ := hasB_yes h
    rw [Int.toNat_natCast, Int.toNat_natCast]
    exact H.put _ (H.at hl hk)
  · exact H
theorem SZ.lt (H : SZ T) (z i : Int) : SZ (ltT T z i) := by
  unfold ltT
  split
  · rename_i h
    obtain ⟨l, k, rfl, rfl, hl, hk⟩ := hasB_yes h
    rw [Int.toNat_natCast, Int.toNat_natCast]
    refine H.upd fun x hx => ?_
    rcases List.mem_append.1 hx with hx | hx
    · exact H.out hl k x hx
    · have : x = itAt (T l) k := by simpa using hx
      rw [this]; exact H.at hl hk
  · exact H
theorem SZ.sl (H : SZ T) (z i p : Int) (m : Nat) : SZ (slT T z i p m) := by
  unfold slT
  split
  · rename_i h
    obtain ⟨l, k, rfl, rfl, hl, hk⟩ := hasB_yes h
    rw [Int.toNat_natCast, Int.toNat_natCast]
    unfold spT
    split
    · refine H.upd fun x hx => ?_
      rcases List.mem_or_eq_of_mem_set hx with hx | rfl
      · exact H l hl x hx
      · unfold brI; rw [brN_length]; exact H.at hl hk
    · exact H
  · exact H
end

end Go.Proofs.Ytfllkhimlambhaa
