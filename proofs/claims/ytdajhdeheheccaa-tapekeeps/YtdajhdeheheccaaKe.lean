/- What is safe stays: the walk. -/
import Derived.Test.YtdajhdeheheccaaT3
import Derived.Test.YtdajhdeheheccaaAc
import Derived.Test.YtdajhdeheheccaaSt
import Derived.Test.YtdajhdeheheccaaSg
namespace Go.Proofs.Ytdajhdeheheccaa
open Go.RowKit
set_option linter.unusedVariables false

/-- The two numbers in their block, as cells. -/
abbrev kbox (k0 k1 : Int) : Obj := .cells #[.int .i64 k0, .int .i64 k1] 45
abbrev abox (k n : Int) (aa : Option Addr) (m c : Nat) : Obj := .cells #[.int .i64 k, .int .i64 n, .slice aa m c] 33

theorem Own8.of {w : World} {base : Nat} {ao : Option Addr} {n cap : Nat} {bs : List Nat} (h : OwnI w base 5 .u8 ao cap ([] ++ ci bs)) (hl : bs.length = n) (hb : ∀ b ∈ bs, b < 256) : Own8 w base ao n cap bs := ⟨h, hl, hb⟩

set_option maxHeartbeats 3200000 in
theorem keeps_walk (a0 : Option Addr) (c0 n0 : Nat) (A : List ActG) (k0 k1 : Int) (w : World) (hA : ActsAt w a0 A) (hn : A.length = n0) (hm : n0 ≤ 200) :
    Calls Try.prog 5 #[.slice a0 n0 c0, .agg #[.int .i64 k0, .int .i64 k1]] w fun e w' => e = .returned (.bool true) ∧ Below w.heap.size w w' := by
  have HA : Hid (ActsAt w a0 A) := hA
  clear hA
  have HK : Hid (∀ W' : World, Below (w.heap.size + 1) (w.alloc (kbox k0 k1)) W' → W'.cell? ⟨w.heap.size, 0, none⟩ = some (.int .i64 k0) ∧ W'.cell? ⟨w.heap.size, 1, none⟩ = some (.int .i64 k1)) := by
    intro W' hb
    have h := (hb.block w.heap.size (by omega)).trans (heap_alloc_new w (kbox k0 k1))
    exact ⟨by rw [cell_of_row _ _ _ _ _ _ h]; rfl, by rw [cell_of_row _ _ _ _ _ _ h]; rfl⟩
  have HB : Hid (∀ W' : World, Below (w.heap.size + 1) (w.alloc (kbox k0 k1)) W' → Below w.heap.size w W') := by
    intro W' hb
    exact below_alloc (hb.mono (by omega))
  go_enter Try.func5, Try.ntmps5
  go_wp2_with (first
    | (go_at_call 8; refine (alive_any _).mono ?_; rintro e w1 ⟨rfl, hb1⟩; have hb1 : Below (w.heap.size + 1) (w.alloc (kbox k0 k1)) w1 := hb1.mono (by simp); have hs1 : w.heap.size + 1 ≤ w1.heap.size := (by have := hb1.size; simp at this; omega))
    | (go_at_call 9; refine (new_any 20000 _).mono ?_; rintro e w2 ⟨rfl, hN, -, hb2⟩; have hT2 : Tp w2 (w.heap.size + 1) w1.heap.size none 0 0 [] 0 20000 := hN _ hs1; clear hN; have hB2 : Below (w.heap.size + 1) (w.alloc (kbox k0 k1)) w2 := hb1.trans (hb2.mono hs1)))
  go_loopw [6, 7, 19] (fun al sf i wr => ∃ (k : Nat) (ao : Option Addr) (n cap : Nat) (bs : List Nat) (s : Nat), k ≤ n0 ∧ i = .int .i64 k ∧ al = .string (st bs) ∧ sf = .int .i64 (s : Int) ∧ Hid (Tp wr (w.heap.size + 1) w1.heap.size ao n cap bs s 20000) ∧ Below (w.heap.size + 1) (w.alloc (kbox k0 k1)) wr) (fun _ _ i _ => n0 - (intOf i).toNat)
  case atStart => exact ⟨0, none, 0, 0, [], 0, Nat.zero_le _, rfl, by rw [st_nil], rfl, hT2, hB2⟩
  case round =>
    obtain ⟨k, ao, n, cap, bs, s, hk, rfl, rfl, rfl, HT, hbel⟩ := hrel
    have hsz := hbel.size
    simp at hsz
    by_cases hlt : k < n0
    · have hb0 := HB.out _ hbel
      have hAr := HA.out.below hb0
      obtain ⟨b, off, rfl, _, hc⟩ := hAr.cell (by intro e; rw [e] at hn; simp at hn; omega)
      obtain ⟨hc0, hc1, hc2⟩ := hc k (by omega)
      have hR := hAr.rd A[k] (List.getElem_mem _)
      have hZ := hAr.sz A[k] (List.getElem_mem _)
      have hR0 := HA.out.rd A[k] (List.getElem_mem _)
      clear hAr hc
      generalize A[k] = x at *
      obtain ⟨kk, nn, aa, mm, cc, ys⟩ := x
      simp only at hc0 hc1 hc2 hR hZ hR0
      have hTa := HT.out.below ((Below.refl _ _).alloc (Nat.le_refl _) (abox kk nn aa mm cc))
      have hgl := HT.out.hd.lt
      have hol := HT.out.own.lt
      have HOL : Hid (∀ a, ao = some a → a.block < wr.heap.size) := hol
      clear hol
      have hnl := hTa.own.len
      have hss := st_size bs
      rw [hnl] at hss
      have HN : Hid ((wr.alloc (abox kk nn aa mm cc)).heap[wr.heap.size]? = some (abox kk nn aa mm cc)) := heap_alloc_new wr _
      have hS : Hid (∀ W' : World, W'.heap[wr.heap.size]? = some (abox kk nn aa mm cc) → W'.cell? ⟨wr.heap.size, 0, none⟩ = some (.int .i64 kk) ∧ W'.cell? ⟨wr.heap.size, 2, none⟩ = some (.slice aa mm cc)) :=
        fun W' h => ⟨by rw [cell_of_row _ _ _ _ _ _ h]; rfl, by rw [cell_of_row _ _ _ _ _ _ h]; rfl⟩
      by_cases hk1 : kk = 1
      · subst hk1
        go_wp2_with (go_at_call 13; refine (sync_any _ _ _ _ _ _ _ _ _ hTa).mono ?_; rintro e w3 ⟨rfl, hT3, hO3, -⟩)
        go_roundw
        case rel => exact ⟨k + 1, ao, n, cap, bs, n, by omega, by go_num, rfl, rfl, hT3, (hbel.alloc (by omega) _).trans (hTa.belowB hO3)⟩
        case measure => simp [intOf]; omega
      · have hml := hR.len
        have hss2 : (st ys).size = mm := by rw [st_size]; exact hml
        have hnl2 := hTa.le
        by_cases hfit : mm = 0 ∨ n + mm ≤ 20000
        · go_wp2_with (first
            | (at_builtin; refine wpList_append_rdI _ rfl _ _ 27 rfl (wr.heap.size + 1) 5 .u8 (.int .u8 0) 1 Try.underlying27 info5 rfl rfl rfl (OwnI.fresh2 wr _ _ _ _ (by omega)) ((hR.alloc _).alloc _).rd rfl (by rw [ci_length]; exact hml) (by omega) (by unfold maxLen; omega) (by simp) ?_; intro ao3 cap3 w3 ho3 hb3; have hO3 := Own8.of ho3 hml hR.byte; have hB3 : Below (wr.heap.size + 1) (wr.alloc (abox kk nn aa mm cc)) w3 := ((Below.refl _ _).alloc (by simp) (.cells #[] 5)).trans hb3; have hT3 := hTa.below (hB3.mono (by simp)); have hN3 := (hB3.block wr.heap.size (by omega)).trans HN.out; have hz3 := hB3.size; simp at hz3)
            | (go_at_call 10; refine (append_ok _ _ _ _ _ _ _ _ _ hT3 _ _ _ _ hO3.rd hfit).mono ?_; rintro e w4 ⟨rfl, ao4, cap4, hT4, hO4, hN4⟩; have hN4' := (hO4.block wr.heap.size (by omega) (by omega) (fun a ha => by have := HOL.out a ha; omega)).trans hN3; have hB4 : Below (w.heap.size + 1) (w.alloc (kbox k0 k1)) w4 := ((hbel.alloc (by omega) _).trans (hB3.mono (by omega))).trans (hT3.belowB hO4); obtain ⟨hq0, hq2⟩ := hS.out _ hN4'; have hx := (hR0.below (HB.out _ hB4)).st))
          go_roundw
          case rel => exact ⟨k + 1, ao4, n + mm, cap4, bs ++ ys, s, by omega, by go_num, by rw [st_append], rfl, hT4, hB4⟩
          case measure => simp [intOf]; omega
        · have hm0 : mm ≠ 0 := fun e => hfit (.inl e)
          have hmf : ¬ n + mm ≤ 20000 := fun e => hfit (.inr e)
          clear hfit
          go_wp2_with (first
            | (at_builtin; refine wpList_append_rdI _ rfl _ _ 27 rfl (wr.heap.size + 1) 5 .u8 (.int .u8 0) 1 Try.underlying27 info5 rfl rfl rfl (OwnI.fresh2 wr _ _ _ _ (by omega)) ((hR.alloc _).alloc _).rd rfl (by rw [ci_length]; exact hml) (by omega) (by unfold maxLen; omega) (by simp) ?_; intro ao3 cap3 w3 ho3 hb3; have hB3 : Below (wr.heap.size + 1) (wr.alloc (abox kk nn aa mm cc)) w3 := ((Below.refl _ _).alloc (by simp) (.cells #[] 5)).trans hb3; have hT3 := hTa.below (hB3.mono (by simp)); have hz3 := hB3.size; simp at hz3)
            | (go_at_call 10; refine (append_bad _ _ _ _ _ _ _ _ _ hT3 _ _ _ hm0 hmf (by omega)).mono ?_; rintro e w4 ⟨rfl, hb4⟩))
          go_roundw
          case rel => exact ⟨k + 1, ao, n, cap, bs, s, by omega, by go_num, rfl, rfl, hT3.below hb4, ((hbel.alloc (by omega) _).trans (hB3.mono (by omega))).trans (hb4.mono (by omega))⟩
          case measure => simp [intOf]; omega
    · obtain ⟨hq0, hq1⟩ := HK.out _ hbel
      have hT := HT.out
      have hnl := hT.own.len
      have hsl := hT.sl
      obtain ⟨L, hL⟩ : ∃ L, crashN s n k0 = L := ⟨_, rfl⟩
      have hLe := crashN_le s n k0 hsl
      rw [hL] at hLe
      obtain ⟨T, hTk⟩ : ∃ T, bs.take L = T := ⟨_, rfl⟩
      have hTl : T.length = L := by rw [← hTk]; simp; omega
      obtain ⟨S1, hS1⟩ : ∃ S1, S1 = st bs := ⟨_, rfl⟩
      obtain ⟨S2, hS2⟩ : ∃ S2, S2 = st T := ⟨_, rfl⟩
      have hz1 : S1.size = n := by rw [hS1, st_size]; exact hnl
      have hz2 : S2.size = L := by rw [hS2, st_size]; exact hTl
      have hz3 : S1.extract 0 L = S2 := by rw [hS1, hS2, st_extract, hTk]; simp
      rw [← hS1]
      have HS2 : Hid (S2 = st T) := hS2
      clear hS1 hS2
      have HL : Hid (crashN s n k0 = L) := hL
      have HTk : Hid (bs.take L = T) := hTk
      clear hL hTk
      have hln := hT.le
      go_wp2_with (first
        | (go_at_call 24; refine (safe_any _ _ _ _ _ _ _ _ _ hT5).mono ?_; rintro e w' ⟨rfl, hw⟩; subst w')
        | (go_at_call 23; refine (bytes_any _ _ _ _ _ _ _ _ _ hT5).mono ?_; rintro e w6 ⟨ao6, cap6, rfl, ho6, hb6⟩; have hx6 := ho6.rd.st; rw [← HS2.out] at hx6)
        | (go_at_call 15; refine (crash_at _ _ _ _ _ _ _ _ _ hT4 k1 L T (by unfold crashN; omega) (List.take_of_length_le (by omega))).mono ?_; rintro e w5 ⟨rfl, hT5, hO5, -⟩)
        | (go_at_call 23; refine (bytes_any _ _ _ _ _ _ _ _ _ hT3).mono ?_; rintro e w4 ⟨ao4, cap4, rfl, ho4, hb4⟩; have hT4 := hT3.below hb4; have hx4 := ho4.rd.st; rw [← HS2.out] at hx4; have hB4 := hB3.trans (hb4.mono (by have := hO3.size; omega)); obtain ⟨hr0, hr1⟩ := HK.out _ hB4)
        | (go_at_call 15; refine (crash_at _ _ _ _ _ _ _ _ _ hT k0 L T HL.out HTk.out).mono ?_; rintro e w3 ⟨rfl, hT3, hO3, -⟩; have hB3 := hbel.trans (hT.belowB hO3)))
      go_ret
      refine ⟨rfl, HB.out _ (((hB4.trans (hT4.belowB hO5)).trans (hb6.mono ?_)))⟩
      have h1 := hO5.size
      have h2 := hb4.size
      have h3 := hO3.size
      omega

end Go.Proofs.Ytdajhdeheheccaa
