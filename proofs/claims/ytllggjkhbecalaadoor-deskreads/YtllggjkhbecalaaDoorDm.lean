/- The calls as a list and as a map: which list goes with which map. Of no walk. -/
import Derived.Test.YtllggjkhbecalaaDoorQ7
import Derived.Test.YtllggjkhbecalaaDoorLq
namespace Go.Proofs.YtllggjkhbecalaaDoor
open Go.RowKit Go.Maps
set_option linter.unusedVariables false

structure Ck where
  k : Wt
  u : Bool

def rtB (x : Wt) : Bool := cliB x.c && objB x.p x.o

def keB (a b : Wt) : Bool := a.c == b.c && (a.p == b.p && (a.o == b.o && a.wr == b.wr))

theorem keB_true {a b : Wt} : keB a b = true ↔ a = b := by
  unfold keB
  simp only [Bool.and_eq_true, beq_iff_eq]
  exact wt_eq

def fdN (K : List Ck) (k : Wt) : Nat := K.findIdx (fun y => keB y.k k)

def fdZ (K : List Ck) (k : Wt) : Int := if fdN K k < K.length then (fdN K k : Int) else -1

def routB (K : List Ck) (h p : Int) : Bool := K.any (fun y => y.k.c == h && (y.k.p == p && !y.u))

def goK (K : List Ck) (c : Int) : List Ck := K.filter (fun y => !(y.k.c == c))

def calB (K : List Ck) (x : Wt) : Bool := rtB x && decide (fdZ K x < 0)

def calK (K : List Ck) (x : Wt) : List Ck := if calB K x then K ++ [⟨x, false⟩] else K

theorem fdZ_ge {K : List Ck} {x : Wt} (h : 0 ≤ fdZ K x) : ∃ (i : Nat) (hi : i < K.length), fdZ K x = (i : Int) ∧ fdN K x = i ∧ K[i].k = x := by
  unfold fdZ at h ⊢
  by_cases e : fdN K x < K.length
  · rw [if_pos e]
    refine ⟨fdN K x, e, rfl, rfl, ?_⟩
    have h1 := List.findIdx_getElem (w := e)
    exact keB_true.1 h1
  · rw [if_neg e] at h
    exact absurd h (by decide)

def busB (K : List Ck) (x : Wt) : Bool := decide (0 ≤ fdZ K x)

def busK (K : List Ck) (x : Wt) : List Ck := if busB K x then K.set (fdN K x) ⟨x, true⟩ else K

def ansK (K : List Ck) (x : Wt) : List Ck := K.eraseIdx (fdN K x)

def wasB (K : List Ck) (x : Wt) : Bool := if h : fdN K x < K.length then K[fdN K x].u else false

/-- The calls of the list are those of the map. -/
structure KC (K : List Ck) (C : Cl) : Prop where
  ap : K.Pairwise (fun a b => a.k ≠ b.k)
  mem : ∀ k u, C k = some u ↔ (⟨k, u⟩ : Ck) ∈ K

theorem KC.nil : KC [] (fun _ => none) := ⟨List.Pairwise.nil, fun k u => by simp⟩

theorem KC.one {K : List Ck} {C : Cl} (h : KC K C) {y : Ck} (hy : y ∈ K) : C y.k = some y.u := (h.mem y.k y.u).2 hy

theorem KC.no {K : List Ck} {C : Cl} (h : KC K C) {k : Wt} (hk : ∀ y ∈ K, y.k ≠ k) : C k = none := by
  cases e : C k with
  | none => rfl
  | some u => exact absurd rfl (hk _ ((h.mem k u).1 e))

theorem fdZ_lt {K : List Ck} {k : Wt} (h : ¬ 0 ≤ fdZ K k) : ∀ y ∈ K, y.k ≠ k := by
  intro y hy e
  apply h
  unfold fdZ
  have : fdN K k < K.length := List.findIdx_lt_length_of_exists ⟨y, hy, keB_true.2 e⟩
  rw [if_pos this]
  omega

/-- A key that is there. -/
theorem KC.there {K : List Ck} {C : Cl} (h : KC K C) (k : Wt) : (C k).isSome = busB K k ∧ decide (C k = some true) = wasB K k := by
  by_cases e : 0 ≤ fdZ K k
  · obtain ⟨i, hi, h1, h2, h3⟩ := fdZ_ge e
    have h4 := h.one (List.getElem_mem hi)
    rw [h3] at h4
    constructor
    · rw [h4]
      unfold busB
      rw [decide_eq_true e]
      rfl
    · rw [h4]
      unfold wasB
      rw [dif_pos (by rw [h2]; exact hi)]
      simp only [h2]
      cases K[i].u <;> rfl
  · have h4 := h.no (fdZ_lt e)
    constructor
    · rw [h4]
      unfold busB
      rw [decide_eq_false e]
      rfl
    · rw [h4]
      unfold wasB
      rw [dif_neg]
      · rfl
      · intro hlt
        apply e
        unfold fdZ
        rw [if_pos hlt]
        omega

theorem KC.callB {K : List Ck} {C : Cl} (h : KC K C) (g : Int) (x : Wt) : callB C g x = calB K (kyOf g x) := by
  unfold Go.Proofs.YtllggjkhbecalaaDoor.callB calB rtB
  rw [(h.there (kyOf g x)).1]
  have e : (!busB K (kyOf g x)) = decide (fdZ K (kyOf g x) < 0) := by
    unfold busB
    rw [← decide_not]
    congr 1
    simp
  rw [e]
  cases cliB g <;> rfl

theorem KC.call {K : List Ck} {C : Cl} (h : KC K C) (g : Int) (x : Wt) : KC (calK K (kyOf g x)) (callC C g x) := by
  unfold callC calK
  rw [h.callB g x]
  cases e : calB K (kyOf g x)
  · exact h
  · have hn : ∀ y ∈ K, y.k ≠ kyOf g x := by
      refine fdZ_lt ?_
      unfold calB at e
      simp at e
      omega
    simp only [if_true]
    refine ⟨?_, fun k u => ?_⟩
    · rw [List.pairwise_append]
      refine ⟨h.ap, by simp, fun a ha b hb => ?_⟩
      simp at hb
      subst hb
      exact hn a ha
    · by_cases ek : k = kyOf g x
      · subst ek
        rw [Cl.set_self]
        simp only [List.mem_append, List.mem_singleton]
        constructor
        · intro hu
          cases hu
          exact .inr rfl
        · rintro (hu | hu)
          · exact absurd rfl (hn _ hu)
          · cases hu
            rfl
      · rw [Cl.set_other _ _ ek, h.mem]
        simp only [List.mem_append, List.mem_singleton]
        constructor
        · exact .inl
        · rintro (hu | hu)
          · exact hu
          · cases hu
            exact absurd rfl ek

/-- The others of a list whose keys are apart. -/
theorem ap_other {K : List Ck} (h : K.Pairwise (fun a b => a.k ≠ b.k)) {i : Nat} (hi : i < K.length) {j : Nat} (hj : j < K.length) (e : K[j].k = K[i].k) : j = i := by
  rcases Nat.lt_trichotomy j i with l | l | l
  · exact absurd e (List.pairwise_iff_getElem.1 h j i hj hi l)
  · exact l
  · exact absurd e.symm (List.pairwise_iff_getElem.1 h i j hi hj l)

theorem KC.busy {K : List Ck} {C : Cl} (h : KC K C) (g : Int) (x : Wt) : KC (busK K (kyOf g x)) (busyC C g x) := by
  unfold busyC busK
  rw [(h.there (kyOf g x)).1]
  cases e : busB K (kyOf g x)
  · exact h
  · have e' : 0 ≤ fdZ K (kyOf g x) := by
      unfold busB at e
      simpa using e
    obtain ⟨i, hi, h1, h2, h3⟩ := fdZ_ge e'
    simp only [if_true]
    rw [h2]
    refine ⟨?_, fun k u => ?_⟩
    · refine List.pairwise_iff_getElem.2 fun a b ha hb hab => ?_
      have hp := List.pairwise_iff_getElem.1 h.ap a b (by simpa using ha) (by simpa using hb) hab
      rw [List.getElem_set, List.getElem_set]
      split
      · rename_i ea
        subst ea
        split
        · omega
        · simpa [h3] using hp
      · split
        · rename_i eb
          subst eb
          simpa [h3] using hp
        · exact hp
    · by_cases ek : k = kyOf g x
      · subst ek
        rw [Cl.set_self]
        constructor
        · intro hu
          cases hu
          exact List.mem_iff_getElem.2 ⟨i, by simpa using hi, by simp⟩
        · intro hu
          obtain ⟨j, hj, ej⟩ := List.mem_iff_getElem.1 hu
          rw [List.getElem_set] at ej
          split at ej
          · cases ej
            rfl
          · rename_i ne
            exact absurd (ap_other h.ap hi (by simpa using hj) (by rw [ej, h3])).symm ne
      · rw [Cl.set_other _ _ ek, h.mem]
        constructor
        · intro hu
          obtain ⟨j, hj, ej⟩ := List.mem_iff_getElem.1 hu
          refine List.mem_iff_getElem.2 ⟨j, by simpa using hj, ?_⟩
          rw [List.getElem_set, if_neg]
          · exact ej
          · intro eij
            subst eij
            rw [ej] at h3
            exact ek h3
        · intro hu
          obtain ⟨j, hj, ej⟩ := List.mem_iff_getElem.1 hu
          rw [List.getElem_set] at ej
          split at ej
          · cases ej
            exact absurd rfl ek
          · exact List.mem_iff_getElem.2 ⟨j, by simpa using hj, ej⟩

theorem KC.answer {K : List Ck} {C : Cl} (h : KC K C) (q : Wt) : KC (ansK K q) (C.set q none) := by
  unfold ansK
  by_cases e : 0 ≤ fdZ K q
  · obtain ⟨i, hi, h1, h2, h3⟩ := fdZ_ge e
    rw [h2]
    refine ⟨h.ap.sublist (List.eraseIdx_sublist _ _), fun k u => ?_⟩
    by_cases ek : k = q
    · subst ek
      rw [Cl.set_self]
      constructor
      · intro hu
        cases hu
      · intro hu
        obtain ⟨j, hj, hne, ej⟩ := List.mem_eraseIdx_iff_getElem.1 hu
        exact absurd (ap_other h.ap hi hj (by rw [ej, h3])) hne
    · rw [Cl.set_other _ _ ek, h.mem]
      constructor
      · intro hu
        obtain ⟨j, hj, ej⟩ := List.mem_iff_getElem.1 hu
        refine List.mem_eraseIdx_iff_getElem.2 ⟨j, hj, ?_, ej⟩
        intro eij
        subst eij
        rw [ej] at h3
        exact ek h3
      · intro hu
        exact List.mem_of_mem_eraseIdx hu
  · have hn := fdZ_lt e
    have e2 : K.eraseIdx (fdN K q) = K := by
      refine List.eraseIdx_of_length_le ?_
      unfold fdZ at e
      by_cases e3 : fdN K q < K.length
      · rw [if_pos e3] at e; omega
      · omega
    rw [e2]
    refine ⟨h.ap, fun k u => ?_⟩
    by_cases ek : k = q
    · subst ek
      rw [Cl.set_self]
      constructor
      · intro hu
        cases hu
      · intro hu
        exact absurd rfl (hn _ hu)
    · rw [Cl.set_other _ _ ek, h.mem]

theorem KC.out {K : List Ck} {C : Cl} (h : KC K C) (g p : Int) : outB C g p = routB K g p := by
  cases e : routB K g p
  · refine outB_false ?_
    rintro ⟨k, h3, h1, h2⟩
    have h4 := List.any_eq_false.1 e _ ((h.mem k false).1 h3)
    simp [h1, h2] at h4
  · refine outB_true ?_
    obtain ⟨y, hy, ey⟩ := List.any_eq_true.1 e
    have h1 := h.one hy
    simp at ey
    obtain ⟨e1, e2, e3⟩ := ey
    rw [e3] at h1
    exact ⟨y.k, h1, e1, e2⟩

theorem calK_le (K : List Ck) (k : Wt) : (calK K k).length ≤ K.length + 1 := by
  unfold calK
  split <;> simp
theorem busK_le (K : List Ck) (k : Wt) : (busK K k).length ≤ K.length + 1 := by
  unfold busK
  split <;> simp
theorem ansK_le (K : List Ck) (k : Wt) : (ansK K k).length ≤ K.length + 1 := by
  unfold ansK
  exact Nat.le_trans (List.eraseIdx_sublist _ _).length_le (by omega)
theorem goK_le (K : List Ck) (c : Int) : (goK K c).length ≤ K.length + 1 := by
  unfold goK
  exact Nat.le_trans (List.length_filter_le _ _) (by omega)


end Go.Proofs.YtllggjkhbecalaaDoor
