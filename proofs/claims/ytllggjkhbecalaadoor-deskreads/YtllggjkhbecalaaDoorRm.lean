/- Readers alone, as mathematics: who asks to read is granted the whole page at once. -/
import Derived.Test.YtllggjkhbecalaaDoorD8
namespace Go.Proofs.YtllggjkhbecalaaDoor
open Go.RowKit Go.Maps
set_option linter.unusedVariables false
set_option maxRecDepth 8000

/-- Nobody owns anything. -/
def NoOwn (T : Nat → Nat) : Prop := ∀ c p, Tab.ow T c p = 0

theorem orr_zero {f : Nat → Nat} (h : ∀ k, f k = 0) (c : Nat) : ∀ k, Tab.orr f c k = 0
  | 0 => rfl
  | k + 1 => by
    unfold Tab.orr
    split
    · exact orr_zero h c k
    · rw [orr_zero h c k, h k]; rfl
theorem hol_zero {T : Nat → Nat} (h : NoOwn T) (c p o : Nat) : ∀ k, Tab.hol T c p o false k = []
  | 0 => rfl
  | k + 1 => by
    unfold Tab.hol
    rw [if_neg, hol_zero h c p o k]
    simp [Tab.wm, h k p]
theorem ho_zero {T : Nat → Nat} (h : NoOwn T) (L : List Wt) (K : List Ck) (c p o : Int) : hoS ⟨T, L, K⟩ ⟨c, p, o, false⟩ = [] := by
  unfold hoS Tab.hoI
  split
  · exact hol_zero h _ _ _ 4
  · rfl

theorem or15 : ∀ o < 4, Tab.sub (Tab.sub 15 0) 0 ||| 2 ^ o = 15 := by decide

theorem put_same (T : Nat → Nat) (i v : Nat) : Tab.put T i v i = v := by simp [Tab.put]
theorem put_ne (T : Nat → Nat) {i j : Nat} (v : Nat) (h : j ≠ i) : Tab.put T i v j = T j := by simp [Tab.put, h]
theorem or15' : ∀ m < 16, m ||| (15 ||| 0) = 15 := by decide

theorem reads_math {T : Nat → Nat} (h : NoOwn T) (hT : ∀ i, T i < 16) (c p o : Nat) (hc : c < 4) (hp : p < 6) (ho : o < 4) :
    ∃ T', NoOwn T' ∧ setl (hanS ⟨T, [], []⟩ c 0 p o 0 0 false) = (⟨T', [], []⟩, [⟨c, 5, p, 0, 15, 0, false⟩]) := by
  have hpl := Tab.pl_nat hc hp
  have e0 : hanS ⟨T, [], []⟩ c 0 p o 0 0 false = ⟨T, [⟨c, p, o, false⟩], []⟩ := by
    unfold hanS
    rw [if_pos rfl]
    have : addL [] ⟨(c : Int), p, o, false⟩ = [⟨c, p, o, false⟩] := by
      unfold addL
      rw [if_pos]
      · rfl
      · rw [addB_eq]
        simp [cliB, objB, hasB]
        omega
    rw [this]
  have hfr : Tab.frI T c p = 15 := by
    unfold Tab.frI
    rw [if_pos hpl]
    unfold Tab.oo
    rw [orr_zero (fun d => h d _)]
    rfl
  have hres : resN (c : Int) (p : Int) [] = 0 := rfl
  have hno : rmL [⟨(c : Int), (p : Int), (o : Int), false⟩] (c : Int) = [] := by
    unfold rmL plN
    simp
  have hdC : dueC T [] ⟨c, p, o, false⟩ = 15 := by
    unfold dueC dueA cps
    rw [if_neg (by simp), hfr]
    show Tab.sub 15 (resN (c : Int) (p : Int) []) ||| 2 ^ ((o : Int)).toNat = 15
    rw [hres, Int.toNat_natCast]
    exact or15 o ho
  have hdO : dueO T [] ⟨c, p, o, false⟩ = 0 := by
    unfold dueO dueA
    rw [if_neg (by simp)]
    rfl
  have hgO : Tab.gOk T c p 15 0 = true := by
    unfold Tab.gOk Tab.argB Tab.grB
    rw [hpl]
    have h1 : Tab.oo T ((c : Int)).toNat ((p : Int)).toNat = 0 := by unfold Tab.oo; exact orr_zero (fun d => h d _) _ _
    rw [h1]
    simp [Tab.maB]
  have hgT : Tab.gT T c p 15 0 = Tab.grT T c p 15 0 := by
    unfold Tab.gT
    rw [if_pos hgO]
    rfl
  have hgi : givS ⟨T, [⟨c, p, o, false⟩], []⟩ ⟨c, p, o, false⟩ = ⟨Tab.grT T c p 15 0, [], []⟩ := by
    unfold givS
    simp only [hno, hdC, hdO]
    rw [show Tab.gT T (c : Int) (p : Int) ((15 : Nat) : Int) ((0 : Nat) : Int) = Tab.gT T c p 15 0 from rfl, hgT]
  have hcp : Tab.cp (Tab.grT T c p 15 0) c p = 15 := by
    unfold Tab.cp Tab.grT
    rw [put_ne _ _ (by omega), put_same]
    exact or15' _ (hT _)
  have how : ∀ a b, Tab.ow (Tab.grT T c p 15 0) a b = 0 := by
    intro a b
    unfold Tab.grT
    have h2 := h a b
    unfold Tab.ow at h2 ⊢
    by_cases e : a * 12 + b * 2 + 1 = c * 12 + p * 2 + 1
    · rw [e, put_same]
      have := h c p
      unfold Tab.ow at this
      rw [this]
      rfl
    · rw [put_ne _ _ e]
      by_cases e2 : a * 12 + b * 2 + 1 = c * 12 + p * 2
      · omega
      · rw [put_ne _ _ e2]
        exact h2
  have hga : givA ⟨T, [⟨c, p, o, false⟩], []⟩ ⟨c, p, o, false⟩ = ⟨c, 5, p, 0, 15, 0, false⟩ := by
    unfold givA
    rw [hgi]
    have h1 : Tab.cpI (Tab.grT T c p 15 0) c p = 15 := by unfold Tab.cpI; rw [if_pos hpl]; exact hcp
    have h2 : Tab.owI (Tab.grT T c p 15 0) c p = 0 := by unfold Tab.owI; rw [if_pos hpl]; exact how _ _
    simp only [h1, h2]
    rfl
  have hah : ahead [⟨(c : Int), (p : Int), (o : Int), false⟩] ⟨c, p, o, false⟩ = [] := by
    unfold ahead ahL plN
    simp
  have hps : pas ⟨T, [⟨c, p, o, false⟩], []⟩ = (⟨Tab.grT T c p 15 0, [], []⟩, [⟨c, 5, p, 0, 15, 0, false⟩], true) := by
    unfold pas pass skipB
    rw [hah]
    simp only [List.length_nil, routB, List.any_nil, Nat.lt_irrefl, decide_false, Bool.or_self, Bool.false_eq_true, if_false, ho_zero h, if_true]
    show (givS ⟨T, [⟨c, p, o, false⟩], []⟩ ⟨c, p, o, false⟩, ([] : List Sa) ++ [givA ⟨T, [⟨c, p, o, false⟩], []⟩ ⟨c, p, o, false⟩], true) = _
    rw [hgi, hga]
    rfl
  have hsv : serv 2 ⟨T, [⟨c, p, o, false⟩], []⟩ = (⟨Tab.grT T c p 15 0, [], []⟩, [⟨c, 5, p, 0, 15, 0, false⟩]) := by
    unfold serv
    rw [hps]
    rfl
  refine ⟨Tab.grT T c p 15 0, how, ?_⟩
  rw [e0]
  unfold setl
  rw [show serv ((⟨T, [⟨c, p, o, false⟩], []⟩ : St).L.length + 1) ⟨T, [⟨c, p, o, false⟩], []⟩ = _ from hsv]
  rfl

end Go.Proofs.YtllggjkhbecalaaDoor
