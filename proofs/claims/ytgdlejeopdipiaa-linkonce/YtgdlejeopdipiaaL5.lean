/- What Packets of package link does, walked. -/
import Derived.Test.YtgdlejeopdipiaaL4
namespace Go.Proofs.Ytgdlejeopdipiaa
open Go.RowKit
set_option linter.unusedVariables false

/-- The packets of bodies, from a number on. -/
def pksFrom (I : LkI) (h : Nat) : Int → List (List Nat) → List PkG
  | _, [] => []
  | q, b :: L => mkPk I h q b :: pksFrom I h (q + 1) L

theorem pksFrom_length (I : LkI) (h : Nat) : ∀ (L : List (List Nat)) (q : Int), (pksFrom I h q L).length = L.length
  | [], _ => rfl
  | b :: L, q => by simp [pksFrom, pksFrom_length I h L]
theorem pksFrom_snoc (I : LkI) (h : Nat) (b : List Nat) : ∀ (L : List (List Nat)) (q : Int), pksFrom I h q (L ++ [b]) = pksFrom I h q L ++ [mkPk I h (q + L.length) b]
  | [], q => by simp [pksFrom]
  | c :: L, q => by
    simp only [List.cons_append, pksFrom, pksFrom_snoc I h b L, List.length_cons]
    have : q + 1 + (L.length : Int) = q + ((L.length + 1 : Nat) : Int) := by omega
    rw [this]
theorem pksFrom_get (I : LkI) (h : Nat) : ∀ (L : List (List Nat)) (q : Int) (i : Nat) (hi : i < L.length), (pksFrom I h q L)[i]? = some (mkPk I h (q + i) L[i])
  | b :: L, q, 0, _ => by simp [pksFrom]
  | b :: L, q, i + 1, hi => by
    have h1 := pksFrom_get I h L (q + 1) i (by simpa using hi)
    simp only [pksFrom, List.getElem?_cons_succ, h1, List.getElem_cons_succ]
    have : q + 1 + (i : Int) = q + ((i + 1 : Nat) : Int) := by omega
    rw [this]

/-- What is under way, as packets. -/
def pksOf (I : LkI) (L : List (List Nat)) (s h : Nat) : List PkG := if L = [] then [mkPk I h 0 []] else pksFrom I h ((s : Int) - (L.length : Int) + 1) L

set_option maxHeartbeats 1600000 in
theorem packets_any (w : World) (B g : Nat) (ao : Option Addr) (n cap : Nat) (V : Nat → Prop) (I : LkI) (L : List (List Nat)) (s h : Nat) (H : Lk w B g ao n cap V I L s h) :
    Calls Try.prog 17 #[lp g] w fun e w' => ∃ v, e = .returned v ∧ Pks w' w.heap.size (fun k => w.heap.size ≤ k) v (pksOf I L s h) ∧ Below w.heap.size w w' := by
  have h4 := H.hd.c4
  have hle := H.le
  have hsl := H.sl
  have hsm := H.sm
  have hlen := H.len
  by_cases h0 : n = 0
  · have hL : L = [] := List.eq_nil_of_length_eq_zero (by omega)
    have HL : Hid (pksOf I L s h = [mkPk I h 0 []]) := by unfold Hid pksOf; rw [if_pos hL]
    have hd : decide ((n : Int) = 0) = true := by simp; omega
    have hd2 : ((n : Int) == 0) = true := by simp; omega
    have HN : Hid (n = 0) := h0
    clear hlen hL h0 hle hsl
    go_enter Try.func17, Try.ntmps17
    go_wp2_with (first
      | (go_at_call 25; refine (packet_any _ _ _ _ _ _ _ _ _ _ _ H 0 none 0 0 [] (Rd8.empty _) (by omega)).mono ?_; rintro e w1 ⟨u, rfl, hy1, hb1⟩))
    go_ret
    refine ⟨_, rfl, ?_, ?_⟩
    · rw [HL.out]
      exact Pks.built w1 _ _ (mkPk I h 0 []) u hb1.size (hy1.below ((Below.refl _ _).alloc (Nat.le_refl _) _))
    · exact hb1.alloc hb1.size _
  · obtain ⟨vs, ho, hbs⟩ := H.row
    have hvl : vs.length = n := hbs.len.trans hlen
    obtain ⟨r, hr⟩ := ho.place (by omega)
    subst hr
    have HL : Hid (pksOf I L s h = pksFrom I h ((s : Int) - (n : Int) + 1) (L.take n)) := by
      unfold Hid pksOf
      rw [if_neg (by intro e; subst e; simp at hlen; omega), hlen, List.take_of_length_le (by omega)]
    have HB : Hid (∀ (k : Nat) (W : World), k < n → Below w.heap.size w W → ∃ ax m cx bs, W.cell? ⟨r, k, none⟩ = some (.slice ax m cx) ∧ Rd8 W ax m cx bs ∧ m ≤ 700 ∧ pksFrom I h ((s : Int) - (n : Int) + 1) (L.take k) ++ [mkPk I h ((s : Int) - (n : Int) + 1 + (k : Int)) bs] = pksFrom I h ((s : Int) - (n : Int) + 1) (L.take (k + 1)) ∧ (pksFrom I h ((s : Int) - (n : Int) + 1) (L.take k)).length = k) := by
      intro k W hk hb
      have hkL : k < L.length := by omega
      have hkv : k < vs.length := by omega
      obtain ⟨ax, m, cx, e, hr, _, _⟩ := (hbs.each k vs[k] L[k] (by simp) (by simp)).below hb
      have hc := World.ownsRow.cellAt (ho.below hb) k (by omega)
      refine ⟨ax, m, cx, L[k], ?_, hr, ?_, ?_, ?_⟩
      · rw [hc, ← e]; simp
      · have := H.sz L[k] (List.getElem_mem _)
        have := hr.len
        omega
      · rw [List.take_succ_eq_append_getElem hkL, pksFrom_snoc, List.length_take, Nat.min_eq_left (by omega)]
      · rw [pksFrom_length, List.length_take]; omega
    have HK : Hid (∀ W, Below w.heap.size w W → Lk W B g (some ⟨r, 0, none⟩) n cap V I L s h) := fun W hW => H.below hW
    have hd2 : ((n : Int) == 0) = false := by simp; omega
    have hw1 : IntKind.i64.wrap ((s : Int) - (n : Int) + 1) = (s : Int) - (n : Int) + 1 := by rw [IntKind.wrap_i64]; omega
    clear hlen hvl ho hbs
    go_enter Try.func17, Try.ntmps17
    go_wp2_with (first
      | (go_at_call 26; refine (known_any _ _ _ _ _ _ _ _ _ _ _ H).mono ?_; rintro e w0 ⟨rfl, j0, hw⟩; subst w0))
    go_loopw [4, 24] (fun v i wr => ∃ k : Nat, k ≤ n ∧ i = .int .i64 k ∧ Pks wr w.heap.size (fun k => w.heap.size ≤ k) v (pksFrom I h ((s : Int) - (n : Int) + 1) (L.take k)) ∧ Below w.heap.size w wr) (fun _ i _ => n - (intOf i).toNat)
    case atStart => exact ⟨0, Nat.zero_le _, rfl, by simpa [pksFrom] using Pks.nil _ _ _, ⟨rfl, rfl, rfl, Nat.le_refl _, fun _ _ => rfl⟩⟩
    case round =>
      obtain ⟨k, hk, rfl, hp, hbel⟩ := hrel
      by_cases hlt : k < n
      · obtain ⟨ax, m, cx, bs, hc, hr, hm, hsn, hpl⟩ := HB.out k _ hlt hbel
        have HH := HK.out _ hbel
        have HSN : Hid (pksFrom I h ((s : Int) - (n : Int) + 1) (L.take k) ++ [mkPk I h ((s : Int) - (n : Int) + 1 + (k : Int)) bs] = pksFrom I h ((s : Int) - (n : Int) + 1) (L.take (k + 1))) := hsn
        have HPL : Hid ((pksFrom I h ((s : Int) - (n : Int) + 1) (L.take k)).length = k) := hpl
        have hw2 : IntKind.i64.wrap ((s : Int) - (n : Int) + 1 + (k : Int)) = (s : Int) - (n : Int) + 1 + (k : Int) := by rw [IntKind.wrap_i64]; omega
        clear hsn hpl
        go_wp2_with (first
          | (at_builtin; refine wpList_append_pks _ rfl _ _ rfl w.heap.size rfl rfl hp2 (Pks.built w1 w.heap.size _ (mkPk I h ((s : Int) - (n : Int) + 1 + (k : Int)) bs) u hs1 hy2).rd (by rw [HPL.out]; simp; omega) (by simp; omega) ?_; intro v3 w3 hp3 hg3 _)
          | (go_at_call 25; refine (packet_any _ _ _ _ _ _ _ _ _ _ _ HH ((s : Int) - (n : Int) + 1 + (k : Int)) ax m cx bs hr (by omega)).mono ?_; rintro e w1 ⟨u, rfl, hy1, hb1⟩; have hbw : Below w.heap.size w w1 := below_step hbel hb1; have hs1 := hbw.size; have hp2 := (hp.below hb1).below ((Below.refl _ _).alloc (Nat.le_refl _) (pkO (mkPk I h ((s : Int) - (n : Int) + 1 + (k : Int)) bs) u)); have hy2 : By (w1.alloc (pkO (mkPk I h ((s : Int) - (n : Int) + 1 + (k : Int)) bs) u)) (fun k => w.heap.size ≤ k) u bs := (hy1.mono fun j _ hj => Nat.le_trans hbel.size hj).below ((Below.refl _ _).alloc (Nat.le_refl _) _)))
        go_roundw
        case rel => exact ⟨k + 1, by omega, by go_num, by rw [← HSN.out]; exact hp3, (hbw.alloc hs1 _).trans (hp2.grownBelow (by simp; omega) hg3)⟩
        case measure => simp [intOf]; omega
      · have hkn : k = n := by omega
        subst hkn
        go_wp2
        go_ret
        exact ⟨_, rfl, by rw [HL.out]; exact hp, hbel⟩

end Go.Proofs.Ytgdlejeopdipiaa
