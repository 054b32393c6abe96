/- As much as there is room for: the walk. -/
import Derived.Test.YtdajhdeheheccaaT3
import Derived.Test.YtdajhdeheheccaaPo
import Derived.Test.YtdajhdeheheccaaSt
import Derived.Test.YtdajhdeheheccaaSg
namespace Go.Proofs.Ytdajhdeheheccaa
open Go.RowKit
set_option linter.unusedVariables false

set_option maxHeartbeats 6400000 in
theorem room_walk (room : Int) (a0 : Option Addr) (c0 n0 : Nat) (ps : List Pt) (drop : Int) (w : World) (hA : RdS w a0 c0 (ps.map Pt.val)) (hn : ps.length = n0) (hP : ∀ p ∈ ps, Rd8 w p.ao p.n p.cap p.bs) (hm : n0 ≤ 100) (hrw : -9223372036854775808 ≤ room ∧ room ≤ 9223372036854775807) :
    Calls Try.prog 6 #[.int .i64 room, .slice a0 n0 c0, .int .i64 drop] w fun e w' => e = .returned (.bool true) ∧ Below w.heap.size w w' := by
  have HA : Hid (RdS w a0 c0 (ps.map Pt.val)) := hA
  have HP : Hid (∀ p ∈ ps, Rd8 w p.ao p.n p.cap p.bs) := hP
  clear hA hP
  obtain ⟨R, hR⟩ : ∃ R, bnd room = R := ⟨_, rfl⟩
  have hRl := bnd_le room
  rw [hR] at hRl
  have HR : Hid (bnd room = R) := hR
  clear hR
  go_enter Try.func6, Try.ntmps6
  go_wp2_with (first
    | (go_at_call 8; refine (alive_any _).mono ?_; rintro e w1 ⟨rfl, hb1⟩; have hs1 := hb1.size)
    | (go_at_call 9; refine (new_any room _).mono ?_; rintro e w2 ⟨rfl, hN, -, hb2⟩; have hT2 : Tp w2 w.heap.size w1.heap.size none 0 0 [] 0 R := (by have := hN _ hs1; rwa [HR.out] at this); clear hN; have hB2 : Below w.heap.size w w2 := below_step hb1 hb2))
  go_loopw [8, 21] (fun al i wr => ∃ (k : Nat) (ao : Option Addr) (n cap : Nat) (bs : List Nat), k ≤ n0 ∧ i = .int .i64 k ∧ al = .string (st bs) ∧ Hid (Tp wr w.heap.size w1.heap.size ao n cap bs n R) ∧ Below w.heap.size w wr) (fun _ i _ => n0 - (intOf i).toNat)
  case atStart => exact ⟨0, none, 0, 0, [], Nat.zero_le _, rfl, by rw [st_nil], hT2, hB2⟩
  case round =>
    obtain ⟨k, ao, n, cap, bs, hk, rfl, rfl, HT, hbel⟩ := hrel
    have hsz := hbel.size
    by_cases hlt : k < n0
    · obtain ⟨b, off, rfl, _, hc⟩ := (HA.out.below hbel).at (t := k) (by simp; omega)
      have hc0 := hc k (by simp; omega)
      simp only [List.getElem_map, Pt.val] at hc0
      have hX0 := HP.out ps[k] (List.getElem_mem _)
      have hX := hX0.below hbel
      clear hc
      generalize ps[k] = x at *
      obtain ⟨aa, m, cc, ys⟩ := x
      simp only at hc0 hX hX0
      have hT := HT.out
      have hnl := hT.own.len
      have hnle := hT.le
      have hml := hX.len
      have hss : (st bs).size = n := by rw [st_size]; exact hnl
      have hss2 : (st ys).size = m := by rw [st_size]; exact hml
      by_cases h3 : 3000 < m
      · go_wp2
        go_ret
        exact ⟨rfl, hbel⟩
      · have h3' : m ≤ 3000 := by omega
        clear h3
        by_cases hz : m = 0
        · have hfit : m = 0 ∨ n + m ≤ R := .inl hz
          have HZ0 : Hid (m = 0) := hz
          have hbe : ((m : Int) == 0) = true := by simp; omega
          clear hz
          obtain ⟨Z, hZ⟩ : ∃ Z, bs ++ ys = Z := ⟨_, rfl⟩
          have hcat : st bs ++ st ys = st Z := by rw [st_append, hZ]
          have hzl : Z.length = n + m := by rw [← hZ]; simp; omega
          have hzs : (st Z).size = n + m := by rw [st_size]; exact hzl
          have HZ : Hid (bs ++ ys = Z) := hZ
          clear hZ
          by_cases hd0 : drop < 0
          · have hdb : drop < 0 ∨ ((n + m : Nat) : Int) < drop := .inl hd0
            go_wp2_with (first
              | (at_builtin; refine wpList_append_rdI _ rfl _ _ 27 rfl wr.heap.size 5 .u8 (.int .u8 0) 1 Try.underlying27 info5 rfl rfl rfl (OwnI.fresh wr _ _ _ (Nat.le_refl _)) (hX.alloc _).rd rfl (by rw [ci_length]; exact hml) (by omega) (by unfold maxLen; omega) (by simp) ?_; intro ao3 cap3 w3 ho3 hb3; have hO3 : Own8 w3 wr.heap.size ao3 m cap3 ys := ⟨ho3, hml, hX.byte⟩; have hB3 : Below wr.heap.size wr w3 := ((Below.refl _ _).alloc (Nat.le_refl _) (.cells #[] 5)).trans hb3; have hT3 := hT.below hB3)
              | (go_at_call 10; refine (append_ok _ _ _ _ _ _ _ _ _ hT3 _ _ _ _ hO3.rd hfit).mono ?_; rintro e w4 ⟨rfl, ao4, cap4, hT4, hO4, hN4⟩; rw [HZ.out] at hT4; have hB4 : Below w.heap.size w w4 := (below_step hbel hB3).trans (hT3.belowB hO4); have hx := (hX0.below hB4).st)
              | (go_at_call 13; refine (sync_any _ _ _ _ _ _ _ _ _ hT4).mono ?_; rintro e w5 ⟨rfl, hT5, hO5, -⟩; have hB5 := hB4.trans (hT4.belowB hO5))
              | (go_at_call 21; refine (drop_bad _ _ _ _ _ _ _ _ _ hT5 drop hdb).mono ?_; rintro e w' ⟨rfl, hw⟩; subst w')
              | (go_at_call 23; refine (bytes_any _ _ _ _ _ _ _ _ _ hT5).mono ?_; rintro e w7 ⟨ao7, cap7, rfl, ho7, hb7⟩; have hT7 := hT5.below hb7; have hB7 := below_step hB5 hb7; have hx7 := ho7.rd.st))
            go_roundw
            case rel => exact ⟨k + 1, ao4, n + m, cap4, Z, by omega, by go_num, rfl, hT7, hB7⟩
            case measure => simp [intOf]; omega
          · obtain ⟨d, hdd⟩ : ∃ d : Nat, drop = d := ⟨drop.toNat, by omega⟩
            by_cases hd1 : ((n + m : Nat) : Int) < drop
            · have hdb : drop < 0 ∨ ((n + m : Nat) : Int) < drop := .inr hd1
              clear hdd
              go_wp2_with (first
                | (at_builtin; refine wpList_append_rdI _ rfl _ _ 27 rfl wr.heap.size 5 .u8 (.int .u8 0) 1 Try.underlying27 info5 rfl rfl rfl (OwnI.fresh wr _ _ _ (Nat.le_refl _)) (hX.alloc _).rd rfl (by rw [ci_length]; exact hml) (by omega) (by unfold maxLen; omega) (by simp) ?_; intro ao3 cap3 w3 ho3 hb3; have hO3 : Own8 w3 wr.heap.size ao3 m cap3 ys := ⟨ho3, hml, hX.byte⟩; have hB3 : Below wr.heap.size wr w3 := ((Below.refl _ _).alloc (Nat.le_refl _) (.cells #[] 5)).trans hb3; have hT3 := hT.below hB3)
                | (go_at_call 10; refine (append_ok _ _ _ _ _ _ _ _ _ hT3 _ _ _ _ hO3.rd hfit).mono ?_; rintro e w4 ⟨rfl, ao4, cap4, hT4, hO4, hN4⟩; rw [HZ.out] at hT4; have hB4 : Below w.heap.size w w4 := (below_step hbel hB3).trans (hT3.belowB hO4); have hx := (hX0.below hB4).st)
                | (go_at_call 13; refine (sync_any _ _ _ _ _ _ _ _ _ hT4).mono ?_; rintro e w5 ⟨rfl, hT5, hO5, -⟩; have hB5 := hB4.trans (hT4.belowB hO5))
                | (go_at_call 21; refine (drop_bad _ _ _ _ _ _ _ _ _ hT5 drop hdb).mono ?_; rintro e w' ⟨rfl, hw⟩; subst w')
                | (go_at_call 23; refine (bytes_any _ _ _ _ _ _ _ _ _ hT5).mono ?_; rintro e w7 ⟨ao7, cap7, rfl, ho7, hb7⟩; have hT7 := hT5.below hb7; have hB7 := below_step hB5 hb7; have hx7 := ho7.rd.st))
              go_roundw
              case rel => exact ⟨k + 1, ao4, n + m, cap4, Z, by omega, by go_num, rfl, hT7, hB7⟩
              case measure => simp [intOf]; omega
            · subst hdd
              have hd : d ≤ n + m := by omega
              have hdI : (d : Int) ≤ (n : Int) + (m : Int) := by omega
              obtain ⟨Y, hY⟩ : ∃ Y, Z.drop d = Y := ⟨_, rfl⟩
              have hex : (st Z).extract d (n + m) = st Y := by rw [st_extract, List.take_of_length_le (by omega), hY]
              have HY : Hid (Z.drop d = Y) := hY
              clear hY hd1 hd0
              go_wp2_with (first
                | (at_builtin; refine wpList_append_rdI _ rfl _ _ 27 rfl wr.heap.size 5 .u8 (.int .u8 0) 1 Try.underlying27 info5 rfl rfl rfl (OwnI.fresh wr _ _ _ (Nat.le_refl _)) (hX.alloc _).rd rfl (by rw [ci_length]; exact hml) (by omega) (by unfold maxLen; omega) (by simp) ?_; intro ao3 cap3 w3 ho3 hb3; have hO3 : Own8 w3 wr.heap.size ao3 m cap3 ys := ⟨ho3, hml, hX.byte⟩; have hB3 : Below wr.heap.size wr w3 := ((Below.refl _ _).alloc (Nat.le_refl _) (.cells #[] 5)).trans hb3; have hT3 := hT.below hB3)
                | (go_at_call 10; refine (append_ok _ _ _ _ _ _ _ _ _ hT3 _ _ _ _ hO3.rd hfit).mono ?_; rintro e w4 ⟨rfl, ao4, cap4, hT4, hO4, hN4⟩; rw [HZ.out] at hT4; have hB4 : Below w.heap.size w w4 := (below_step hbel hB3).trans (hT3.belowB hO4); have hx := (hX0.below hB4).st)
                | (go_at_call 13; refine (sync_any _ _ _ _ _ _ _ _ _ hT4).mono ?_; rintro e w5 ⟨rfl, hT5, hO5, -⟩; have hB5 := hB4.trans (hT4.belowB hO5))
                | (go_at_call 21; refine (drop_ok _ _ _ _ _ _ _ _ _ hT5 d hd).mono ?_; rintro e w6 ⟨rfl, ao6, cap6, hT6, hO6, hN6⟩; rw [HY.out] at hT6; have hB6 := hB5.trans (hT5.belowB hO6))
                | (go_at_call 23; refine (bytes_any _ _ _ _ _ _ _ _ _ hT6).mono ?_; rintro e w7 ⟨ao7, cap7, rfl, ho7, hb7⟩; have hT7 := hT6.below hb7; have hB7 := below_step hB6 hb7; have hx7 := ho7.rd.st))
              go_roundw
              case rel => exact ⟨k + 1, ao6, n + m - d, cap6, Y, by omega, by go_num, rfl, hT7, hB7⟩
              case measure => simp [intOf]; omega
        · have hm0 : m ≠ 0 := hz
          have hRr : ((R : Nat) : Int) = min (max room 0) 20000 := by rw [← HR.out]; unfold bnd; omega
          by_cases hlo : room ≤ 20000
          · by_cases hyes : (n : Int) + (m : Int) ≤ room
            · have hfit : m = 0 ∨ n + m ≤ R := .inr (by omega)
              clear hRr
              obtain ⟨Z, hZ⟩ : ∃ Z, bs ++ ys = Z := ⟨_, rfl⟩
              have hcat : st bs ++ st ys = st Z := by rw [st_append, hZ]
              have hzl : Z.length = n + m := by rw [← hZ]; simp; omega
              have hzs : (st Z).size = n + m := by rw [st_size]; exact hzl
              have HZ : Hid (bs ++ ys = Z) := hZ
              clear hZ
              by_cases hd0 : drop < 0
              · have hdb : drop < 0 ∨ ((n + m : Nat) : Int) < drop := .inl hd0
                go_wp2_with (first
                  | (at_builtin; refine wpList_append_rdI _ rfl _ _ 27 rfl wr.heap.size 5 .u8 (.int .u8 0) 1 Try.underlying27 info5 rfl rfl rfl (OwnI.fresh wr _ _ _ (Nat.le_refl _)) (hX.alloc _).rd rfl (by rw [ci_length]; exact hml) (by omega) (by unfold maxLen; omega) (by simp) ?_; intro ao3 cap3 w3 ho3 hb3; have hO3 : Own8 w3 wr.heap.size ao3 m cap3 ys := ⟨ho3, hml, hX.byte⟩; have hB3 : Below wr.heap.size wr w3 := ((Below.refl _ _).alloc (Nat.le_refl _) (.cells #[] 5)).trans hb3; have hT3 := hT.below hB3)
                  | (go_at_call 10; refine (append_ok _ _ _ _ _ _ _ _ _ hT3 _ _ _ _ hO3.rd hfit).mono ?_; rintro e w4 ⟨rfl, ao4, cap4, hT4, hO4, hN4⟩; rw [HZ.out] at hT4; have hB4 : Below w.heap.size w w4 := (below_step hbel hB3).trans (hT3.belowB hO4); have hx := (hX0.below hB4).st)
                  | (go_at_call 13; refine (sync_any _ _ _ _ _ _ _ _ _ hT4).mono ?_; rintro e w5 ⟨rfl, hT5, hO5, -⟩; have hB5 := hB4.trans (hT4.belowB hO5))
                  | (go_at_call 21; refine (drop_bad _ _ _ _ _ _ _ _ _ hT5 drop hdb).mono ?_; rintro e w' ⟨rfl, hw⟩; subst w')
                  | (go_at_call 23; refine (bytes_any _ _ _ _ _ _ _ _ _ hT5).mono ?_; rintro e w7 ⟨ao7, cap7, rfl, ho7, hb7⟩; have hT7 := hT5.below hb7; have hB7 := below_step hB5 hb7; have hx7 := ho7.rd.st))
                go_roundw
                case rel => exact ⟨k + 1, ao4, n + m, cap4, Z, by omega, by go_num, rfl, hT7, hB7⟩
                case measure => simp [intOf]; omega
              · obtain ⟨d, hdd⟩ : ∃ d : Nat, drop = d := ⟨drop.toNat, by omega⟩
                by_cases hd1 : ((n + m : Nat) : Int) < drop
                · have hdb : drop < 0 ∨ ((n + m : Nat) : Int) < drop := .inr hd1
                  clear hdd
                  go_wp2_with (first
                    | (at_builtin; refine wpList_append_rdI _ rfl _ _ 27 rfl wr.heap.size 5 .u8 (.int .u8 0) 1 Try.underlying27 info5 rfl rfl rfl (OwnI.fresh wr _ _ _ (Nat.le_refl _)) (hX.alloc _).rd rfl (by rw [ci_length]; exact hml) (by omega) (by unfold maxLen; omega) (by simp) ?_; intro ao3 cap3 w3 ho3 hb3; have hO3 : Own8 w3 wr.heap.size ao3 m cap3 ys := ⟨ho3, hml, hX.byte⟩; have hB3 : Below wr.heap.size wr w3 := ((Below.refl _ _).alloc (Nat.le_refl _) (.cells #[] 5)).trans hb3; have hT3 := hT.below hB3)
                    | (go_at_call 10; refine (append_ok _ _ _ _ _ _ _ _ _ hT3 _ _ _ _ hO3.rd hfit).mono ?_; rintro e w4 ⟨rfl, ao4, cap4, hT4, hO4, hN4⟩; rw [HZ.out] at hT4; have hB4 : Below w.heap.size w w4 := (below_step hbel hB3).trans (hT3.belowB hO4); have hx := (hX0.below hB4).st)
                    | (go_at_call 13; refine (sync_any _ _ _ _ _ _ _ _ _ hT4).mono ?_; rintro e w5 ⟨rfl, hT5, hO5, -⟩; have hB5 := hB4.trans (hT4.belowB hO5))
                    | (go_at_call 21; refine (drop_bad _ _ _ _ _ _ _ _ _ hT5 drop hdb).mono ?_; rintro e w' ⟨rfl, hw⟩; subst w')
                    | (go_at_call 23; refine (bytes_any _ _ _ _ _ _ _ _ _ hT5).mono ?_; rintro e w7 ⟨ao7, cap7, rfl, ho7, hb7⟩; have hT7 := hT5.below hb7; have hB7 := below_step hB5 hb7; have hx7 := ho7.rd.st))
                  go_roundw
                  case rel => exact ⟨k + 1, ao4, n + m, cap4, Z, by omega, by go_num, rfl, hT7, hB7⟩
                  case measure => simp [intOf]; omega
                · subst hdd
                  have hd : d ≤ n + m := by omega
                  have hdI : (d : Int) ≤ (n : Int) + (m : Int) := by omega
                  obtain ⟨Y, hY⟩ : ∃ Y, Z.drop d = Y := ⟨_, rfl⟩
                  have hex : (st Z).extract d (n + m) = st Y := by rw [st_extract, List.take_of_length_le (by omega), hY]
                  have HY : Hid (Z.drop d = Y) := hY
                  clear hY hd1 hd0
                  go_wp2_with (first
                    | (at_builtin; refine wpList_append_rdI _ rfl _ _ 27 rfl wr.heap.size 5 .u8 (.int .u8 0) 1 Try.underlying27 info5 rfl rfl rfl (OwnI.fresh wr _ _ _ (Nat.le_refl _)) (hX.alloc _).rd rfl (by rw [ci_length]; exact hml) (by omega) (by unfold maxLen; omega) (by simp) ?_; intro ao3 cap3 w3 ho3 hb3; have hO3 : Own8 w3 wr.heap.size ao3 m cap3 ys := ⟨ho3, hml, hX.byte⟩; have hB3 : Below wr.heap.size wr w3 := ((Below.refl _ _).alloc (Nat.le_refl _) (.cells #[] 5)).trans hb3; have hT3 := hT.below hB3)
                    | (go_at_call 10; refine (append_ok _ _ _ _ _ _ _ _ _ hT3 _ _ _ _ hO3.rd hfit).mono ?_; rintro e w4 ⟨rfl, ao4, cap4, hT4, hO4, hN4⟩; rw [HZ.out] at hT4; have hB4 : Below w.heap.size w w4 := (below_step hbel hB3).trans (hT3.belowB hO4); have hx := (hX0.below hB4).st)
                    | (go_at_call 13; refine (sync_any _ _ _ _ _ _ _ _ _ hT4).mono ?_; rintro e w5 ⟨rfl, hT5, hO5, -⟩; have hB5 := hB4.trans (hT4.belowB hO5))
                    | (go_at_call 21; refine (drop_ok _ _ _ _ _ _ _ _ _ hT5 d hd).mono ?_; rintro e w6 ⟨rfl, ao6, cap6, hT6, hO6, hN6⟩; rw [HY.out] at hT6; have hB6 := hB5.trans (hT5.belowB hO6))
                    | (go_at_call 23; refine (bytes_any _ _ _ _ _ _ _ _ _ hT6).mono ?_; rintro e w7 ⟨ao7, cap7, rfl, ho7, hb7⟩; have hT7 := hT6.below hb7; have hB7 := below_step hB6 hb7; have hx7 := ho7.rd.st))
                  go_roundw
                  case rel => exact ⟨k + 1, ao6, n + m - d, cap6, Y, by omega, by go_num, rfl, hT7, hB7⟩
                  case measure => simp [intOf]; omega
            · have hmf : ¬ n + m ≤ R := by omega
              clear hRr
              obtain ⟨Z, rfl⟩ : ∃ Z, bs = Z := ⟨_, rfl⟩
              have hzl : bs.length = n := hnl
              by_cases hd0 : drop < 0
              · have hdb : drop < 0 ∨ ((n : Nat) : Int) < drop := .inl hd0
                go_wp2_with (first
                  | (at_builtin; refine wpList_append_rdI _ rfl _ _ 27 rfl wr.heap.size 5 .u8 (.int .u8 0) 1 Try.underlying27 info5 rfl rfl rfl (OwnI.fresh wr _ _ _ (Nat.le_refl _)) (hX.alloc _).rd rfl (by rw [ci_length]; exact hml) (by omega) (by unfold maxLen; omega) (by simp) ?_; intro ao3 cap3 w3 ho3 hb3; have hO3 : Own8 w3 wr.heap.size ao3 m cap3 ys := ⟨ho3, hml, hX.byte⟩; have hB3 : Below wr.heap.size wr w3 := ((Below.refl _ _).alloc (Nat.le_refl _) (.cells #[] 5)).trans hb3; have hT3 := hT.below hB3)
                  | (go_at_call 10; refine (append_bad _ _ _ _ _ _ _ _ _ hT3 _ _ _ hm0 hmf (by omega)).mono ?_; rintro e w4 ⟨rfl, hb4⟩; have hT4 := hT3.below hb4; have hB4 := below_step (below_step hbel hB3) hb4)
                  | (go_at_call 13; refine (sync_any _ _ _ _ _ _ _ _ _ hT4).mono ?_; rintro e w5 ⟨rfl, hT5, hO5, -⟩; have hB5 := hB4.trans (hT4.belowB hO5))
                  | (go_at_call 21; refine (drop_bad _ _ _ _ _ _ _ _ _ hT5 drop hdb).mono ?_; rintro e w' ⟨rfl, hw⟩; subst w')
                  | (go_at_call 23; refine (bytes_any _ _ _ _ _ _ _ _ _ hT5).mono ?_; rintro e w7 ⟨ao7, cap7, rfl, ho7, hb7⟩; have hT7 := hT5.below hb7; have hB7 := below_step hB5 hb7; have hx7 := ho7.rd.st))
                go_roundw
                case rel => exact ⟨k + 1, ao, n, cap, bs, by omega, by go_num, rfl, hT7, hB7⟩
                case measure => simp [intOf]; omega
              · obtain ⟨d, hdd⟩ : ∃ d : Nat, drop = d := ⟨drop.toNat, by omega⟩
                by_cases hd1 : ((n : Nat) : Int) < drop
                · have hdb : drop < 0 ∨ ((n : Nat) : Int) < drop := .inr hd1
                  clear hdd
                  go_wp2_with (first
                    | (at_builtin; refine wpList_append_rdI _ rfl _ _ 27 rfl wr.heap.size 5 .u8 (.int .u8 0) 1 Try.underlying27 info5 rfl rfl rfl (OwnI.fresh wr _ _ _ (Nat.le_refl _)) (hX.alloc _).rd rfl (by rw [ci_length]; exact hml) (by omega) (by unfold maxLen; omega) (by simp) ?_; intro ao3 cap3 w3 ho3 hb3; have hO3 : Own8 w3 wr.heap.size ao3 m cap3 ys := ⟨ho3, hml, hX.byte⟩; have hB3 : Below wr.heap.size wr w3 := ((Below.refl _ _).alloc (Nat.le_refl _) (.cells #[] 5)).trans hb3; have hT3 := hT.below hB3)
                    | (go_at_call 10; refine (append_bad _ _ _ _ _ _ _ _ _ hT3 _ _ _ hm0 hmf (by omega)).mono ?_; rintro e w4 ⟨rfl, hb4⟩; have hT4 := hT3.below hb4; have hB4 := below_step (below_step hbel hB3) hb4)
                    | (go_at_call 13; refine (sync_any _ _ _ _ _ _ _ _ _ hT4).mono ?_; rintro e w5 ⟨rfl, hT5, hO5, -⟩; have hB5 := hB4.trans (hT4.belowB hO5))
                    | (go_at_call 21; refine (drop_bad _ _ _ _ _ _ _ _ _ hT5 drop hdb).mono ?_; rintro e w' ⟨rfl, hw⟩; subst w')
                    | (go_at_call 23; refine (bytes_any _ _ _ _ _ _ _ _ _ hT5).mono ?_; rintro e w7 ⟨ao7, cap7, rfl, ho7, hb7⟩; have hT7 := hT5.below hb7; have hB7 := below_step hB5 hb7; have hx7 := ho7.rd.st))
                  go_roundw
                  case rel => exact ⟨k + 1, ao, n, cap, bs, by omega, by go_num, rfl, hT7, hB7⟩
                  case measure => simp [intOf]; omega
                · subst hdd
                  have hd : d ≤ n := by omega
                  have hdI : (d : Int) ≤ (n : Int) := by omega
                  obtain ⟨Y, hY⟩ : ∃ Y, bs.drop d = Y := ⟨_, rfl⟩
                  have hex : (st bs).extract d (n) = st Y := by rw [st_extract, List.take_of_length_le (by omega), hY]
                  have HY : Hid (bs.drop d = Y) := hY
                  clear hY hd1 hd0
                  go_wp2_with (first
                    | (at_builtin; refine wpList_append_rdI _ rfl _ _ 27 rfl wr.heap.size 5 .u8 (.int .u8 0) 1 Try.underlying27 info5 rfl rfl rfl (OwnI.fresh wr _ _ _ (Nat.le_refl _)) (hX.alloc _).rd rfl (by rw [ci_length]; exact hml) (by omega) (by unfold maxLen; omega) (by simp) ?_; intro ao3 cap3 w3 ho3 hb3; have hO3 : Own8 w3 wr.heap.size ao3 m cap3 ys := ⟨ho3, hml, hX.byte⟩; have hB3 : Below wr.heap.size wr w3 := ((Below.refl _ _).alloc (Nat.le_refl _) (.cells #[] 5)).trans hb3; have hT3 := hT.below hB3)
                    | (go_at_call 10; refine (append_bad _ _ _ _ _ _ _ _ _ hT3 _ _ _ hm0 hmf (by omega)).mono ?_; rintro e w4 ⟨rfl, hb4⟩; have hT4 := hT3.below hb4; have hB4 := below_step (below_step hbel hB3) hb4)
                    | (go_at_call 13; refine (sync_any _ _ _ _ _ _ _ _ _ hT4).mono ?_; rintro e w5 ⟨rfl, hT5, hO5, -⟩; have hB5 := hB4.trans (hT4.belowB hO5))
                    | (go_at_call 21; refine (drop_ok _ _ _ _ _ _ _ _ _ hT5 d hd).mono ?_; rintro e w6 ⟨rfl, ao6, cap6, hT6, hO6, hN6⟩; rw [HY.out] at hT6; have hB6 := hB5.trans (hT5.belowB hO6))
                    | (go_at_call 23; refine (bytes_any _ _ _ _ _ _ _ _ _ hT6).mono ?_; rintro e w7 ⟨ao7, cap7, rfl, ho7, hb7⟩; have hT7 := hT6.below hb7; have hB7 := below_step hB6 hb7; have hx7 := ho7.rd.st))
                  go_roundw
                  case rel => exact ⟨k + 1, ao6, n - d, cap6, Y, by omega, by go_num, rfl, hT7, hB7⟩
                  case measure => simp [intOf]; omega
          · by_cases hyes : (n : Int) + (m : Int) ≤ 20000
            · have hfit : m = 0 ∨ n + m ≤ R := .inr (by omega)
              clear hRr
              obtain ⟨Z, hZ⟩ : ∃ Z, bs ++ ys = Z := ⟨_, rfl⟩
              have hcat : st bs ++ st ys = st Z := by rw [st_append, hZ]
              have hzl : Z.length = n + m := by rw [← hZ]; simp; omega
              have hzs : (st Z).size = n + m := by rw [st_size]; exact hzl
              have HZ : Hid (bs ++ ys = Z) := hZ
              clear hZ
              by_cases hd0 : drop < 0
              · have hdb : drop < 0 ∨ ((n + m : Nat) : Int) < drop := .inl hd0
                go_wp2_with (first
                  | (at_builtin; refine wpList_append_rdI _ rfl _ _ 27 rfl wr.heap.size 5 .u8 (.int .u8 0) 1 Try.underlying27 info5 rfl rfl rfl (OwnI.fresh wr _ _ _ (Nat.le_refl _)) (hX.alloc _).rd rfl (by rw [ci_length]; exact hml) (by omega) (by unfold maxLen; omega) (by simp) ?_; intro ao3 cap3 w3 ho3 hb3; have hO3 : Own8 w3 wr.heap.size ao3 m cap3 ys := ⟨ho3, hml, hX.byte⟩; have hB3 : Below wr.heap.size wr w3 := ((Below.refl _ _).alloc (Nat.le_refl _) (.cells #[] 5)).trans hb3; have hT3 := hT.below hB3)
                  | (go_at_call 10; refine (append_ok _ _ _ _ _ _ _ _ _ hT3 _ _ _ _ hO3.rd hfit).mono ?_; rintro e w4 ⟨rfl, ao4, cap4, hT4, hO4, hN4⟩; rw [HZ.out] at hT4; have hB4 : Below w.heap.size w w4 := (below_step hbel hB3).trans (hT3.belowB hO4); have hx := (hX0.below hB4).st)
                  | (go_at_call 13; refine (sync_any _ _ _ _ _ _ _ _ _ hT4).mono ?_; rintro e w5 ⟨rfl, hT5, hO5, -⟩; have hB5 := hB4.trans (hT4.belowB hO5))
                  | (go_at_call 21; refine (drop_bad _ _ _ _ _ _ _ _ _ hT5 drop hdb).mono ?_; rintro e w' ⟨rfl, hw⟩; subst w')
                  | (go_at_call 23; refine (bytes_any _ _ _ _ _ _ _ _ _ hT5).mono ?_; rintro e w7 ⟨ao7, cap7, rfl, ho7, hb7⟩; have hT7 := hT5.below hb7; have hB7 := below_step hB5 hb7; have hx7 := ho7.rd.st))
                go_roundw
                case rel => exact ⟨k + 1, ao4, n + m, cap4, Z, by omega, by go_num, rfl, hT7, hB7⟩
                case measure => simp [intOf]; omega
              · obtain ⟨d, hdd⟩ : ∃ d : Nat, drop = d := ⟨drop.toNat, by omega⟩
                by_cases hd1 : ((n + m : Nat) : Int) < drop
                · have hdb : drop < 0 ∨ ((n + m : Nat) : Int) < drop := .inr hd1
                  clear hdd
                  go_wp2_with (first
                    | (at_builtin; refine wpList_append_rdI _ rfl _ _ 27 rfl wr.heap.size 5 .u8 (.int .u8 0) 1 Try.underlying27 info5 rfl rfl rfl (OwnI.fresh wr _ _ _ (Nat.le_refl _)) (hX.alloc _).rd rfl (by rw [ci_length]; exact hml) (by omega) (by unfold maxLen; omega) (by simp) ?_; intro ao3 cap3 w3 ho3 hb3; have hO3 : Own8 w3 wr.heap.size ao3 m cap3 ys := ⟨ho3, hml, hX.byte⟩; have hB3 : Below wr.heap.size wr w3 := ((Below.refl _ _).alloc (Nat.le_refl _) (.cells #[] 5)).trans hb3; have hT3 := hT.below hB3)
                    | (go_at_call 10; refine (append_ok _ _ _ _ _ _ _ _ _ hT3 _ _ _ _ hO3.rd hfit).mono ?_; rintro e w4 ⟨rfl, ao4, cap4, hT4, hO4, hN4⟩; rw [HZ.out] at hT4; have hB4 : Below w.heap.size w w4 := (below_step hbel hB3).trans (hT3.belowB hO4); have hx := (hX0.below hB4).st)
                    | (go_at_call 13; refine (sync_any _ _ _ _ _ _ _ _ _ hT4).mono ?_; rintro e w5 ⟨rfl, hT5, hO5, -⟩; have hB5 := hB4.trans (hT4.belowB hO5))
                    | (go_at_call 21; refine (drop_bad _ _ _ _ _ _ _ _ _ hT5 drop hdb).mono ?_; rintro e w' ⟨rfl, hw⟩; subst w')
                    | (go_at_call 23; refine (bytes_any _ _ _ _ _ _ _ _ _ hT5).mono ?_; rintro e w7 ⟨ao7, cap7, rfl, ho7, hb7⟩; have hT7 := hT5.below hb7; have hB7 := below_step hB5 hb7; have hx7 := ho7.rd.st))
                  go_roundw
                  case rel => exact ⟨k + 1, ao4, n + m, cap4, Z, by omega, by go_num, rfl, hT7, hB7⟩
                  case measure => simp [intOf]; omega
                · subst hdd
                  have hd : d ≤ n + m := by omega
                  have hdI : (d : Int) ≤ (n : Int) + (m : Int) := by omega
                  obtain ⟨Y, hY⟩ : ∃ Y, Z.drop d = Y := ⟨_, rfl⟩
                  have hex : (st Z).extract d (n + m) = st Y := by rw [st_extract, List.take_of_length_le (by omega), hY]
                  have HY : Hid (Z.drop d = Y) := hY
                  clear hY hd1 hd0
                  go_wp2_with (first
                    | (at_builtin; refine wpList_append_rdI _ rfl _ _ 27 rfl wr.heap.size 5 .u8 (.int .u8 0) 1 Try.underlying27 info5 rfl rfl rfl (OwnI.fresh wr _ _ _ (Nat.le_refl _)) (hX.alloc _).rd rfl (by rw [ci_length]; exact hml) (by omega) (by unfold maxLen; omega) (by simp) ?_; intro ao3 cap3 w3 ho3 hb3; have hO3 : Own8 w3 wr.heap.size ao3 m cap3 ys := ⟨ho3, hml, hX.byte⟩; have hB3 : Below wr.heap.size wr w3 := ((Below.refl _ _).alloc (Nat.le_refl _) (.cells #[] 5)).trans hb3; have hT3 := hT.below hB3)
                    | (go_at_call 10; refine (append_ok _ _ _ _ _ _ _ _ _ hT3 _ _ _ _ hO3.rd hfit).mono ?_; rintro e w4 ⟨rfl, ao4, cap4, hT4, hO4, hN4⟩; rw [HZ.out] at hT4; have hB4 : Below w.heap.size w w4 := (below_step hbel hB3).trans (hT3.belowB hO4); have hx := (hX0.below hB4).st)
                    | (go_at_call 13; refine (sync_any _ _ _ _ _ _ _ _ _ hT4).mono ?_; rintro e w5 ⟨rfl, hT5, hO5, -⟩; have hB5 := hB4.trans (hT4.belowB hO5))
                    | (go_at_call 21; refine (drop_ok _ _ _ _ _ _ _ _ _ hT5 d hd).mono ?_; rintro e w6 ⟨rfl, ao6, cap6, hT6, hO6, hN6⟩; rw [HY.out] at hT6; have hB6 := hB5.trans (hT5.belowB hO6))
                    | (go_at_call 23; refine (bytes_any _ _ _ _ _ _ _ _ _ hT6).mono ?_; rintro e w7 ⟨ao7, cap7, rfl, ho7, hb7⟩; have hT7 := hT6.below hb7; have hB7 := below_step hB6 hb7; have hx7 := ho7.rd.st))
                  go_roundw
                  case rel => exact ⟨k + 1, ao6, n + m - d, cap6, Y, by omega, by go_num, rfl, hT7, hB7⟩
                  case measure => simp [intOf]; omega
            · have hmf : ¬ n + m ≤ R := by omega
              have hyd : decide ((n : Int) + (m : Int) ≤ 20000) = false := by simp; omega
              have hyI : 20000 < (n : Int) + (m : Int) := by omega
              clear hRr
              obtain ⟨Z, rfl⟩ : ∃ Z, bs = Z := ⟨_, rfl⟩
              have hzl : bs.length = n := hnl
              by_cases hd0 : drop < 0
              · have hdb : drop < 0 ∨ ((n : Nat) : Int) < drop := .inl hd0
                go_wp2_with (first
                  | (at_builtin; refine wpList_append_rdI _ rfl _ _ 27 rfl wr.heap.size 5 .u8 (.int .u8 0) 1 Try.underlying27 info5 rfl rfl rfl (OwnI.fresh wr _ _ _ (Nat.le_refl _)) (hX.alloc _).rd rfl (by rw [ci_length]; exact hml) (by omega) (by unfold maxLen; omega) (by simp) ?_; intro ao3 cap3 w3 ho3 hb3; have hO3 : Own8 w3 wr.heap.size ao3 m cap3 ys := ⟨ho3, hml, hX.byte⟩; have hB3 : Below wr.heap.size wr w3 := ((Below.refl _ _).alloc (Nat.le_refl _) (.cells #[] 5)).trans hb3; have hT3 := hT.below hB3)
                  | (go_at_call 10; refine (append_bad _ _ _ _ _ _ _ _ _ hT3 _ _ _ hm0 hmf (by omega)).mono ?_; rintro e w4 ⟨rfl, hb4⟩; have hT4 := hT3.below hb4; have hB4 := below_step (below_step hbel hB3) hb4)
                  | (go_at_call 13; refine (sync_any _ _ _ _ _ _ _ _ _ hT4).mono ?_; rintro e w5 ⟨rfl, hT5, hO5, -⟩; have hB5 := hB4.trans (hT4.belowB hO5))
                  | (go_at_call 21; refine (drop_bad _ _ _ _ _ _ _ _ _ hT5 drop hdb).mono ?_; rintro e w' ⟨rfl, hw⟩; subst w')
                  | (go_at_call 23; refine (bytes_any _ _ _ _ _ _ _ _ _ hT5).mono ?_; rintro e w7 ⟨ao7, cap7, rfl, ho7, hb7⟩; have hT7 := hT5.below hb7; have hB7 := below_step hB5 hb7; have hx7 := ho7.rd.st))
                go_roundw
                case rel => exact ⟨k + 1, ao, n, cap, bs, by omega, by go_num, rfl, hT7, hB7⟩
                case measure => simp [intOf]; omega
              · obtain ⟨d, hdd⟩ : ∃ d : Nat, drop = d := ⟨drop.toNat, by omega⟩
                by_cases hd1 : ((n : Nat) : Int) < drop
                · have hdb : drop < 0 ∨ ((n : Nat) : Int) < drop := .inr hd1
                  clear hdd
                  go_wp2_with (first
                    | (at_builtin; refine wpList_append_rdI _ rfl _ _ 27 rfl wr.heap.size 5 .u8 (.int .u8 0) 1 Try.underlying27 info5 rfl rfl rfl (OwnI.fresh wr _ _ _ (Nat.le_refl _)) (hX.alloc _).rd rfl (by rw [ci_length]; exact hml) (by omega) (by unfold maxLen; omega) (by simp) ?_; intro ao3 cap3 w3 ho3 hb3; have hO3 : Own8 w3 wr.heap.size ao3 m cap3 ys := ⟨ho3, hml, hX.byte⟩; have hB3 : Below wr.heap.size wr w3 := ((Below.refl _ _).alloc (Nat.le_refl _) (.cells #[] 5)).trans hb3; have hT3 := hT.below hB3)
                    | (go_at_call 10; refine (append_bad _ _ _ _ _ _ _ _ _ hT3 _ _ _ hm0 hmf (by omega)).mono ?_; rintro e w4 ⟨rfl, hb4⟩; have hT4 := hT3.below hb4; have hB4 := below_step (below_step hbel hB3) hb4)
                    | (go_at_call 13; refine (sync_any _ _ _ _ _ _ _ _ _ hT4).mono ?_; rintro e w5 ⟨rfl, hT5, hO5, -⟩; have hB5 := hB4.trans (hT4.belowB hO5))
                    | (go_at_call 21; refine (drop_bad _ _ _ _ _ _ _ _ _ hT5 drop hdb).mono ?_; rintro e w' ⟨rfl, hw⟩; subst w')
                    | (go_at_call 23; refine (bytes_any _ _ _ _ _ _ _ _ _ hT5).mono ?_; rintro e w7 ⟨ao7, cap7, rfl, ho7, hb7⟩; have hT7 := hT5.below hb7; have hB7 := below_step hB5 hb7; have hx7 := ho7.rd.st))
                  go_roundw
                  case rel => exact ⟨k + 1, ao, n, cap, bs, by omega, by go_num, rfl, hT7, hB7⟩
                  case measure => simp [intOf]; omega
                · subst hdd
                  have hd : d ≤ n := by omega
                  have hdI : (d : Int) ≤ (n : Int) := by omega
                  obtain ⟨Y, hY⟩ : ∃ Y, bs.drop d = Y := ⟨_, rfl⟩
                  have hex : (st bs).extract d (n) = st Y := by rw [st_extract, List.take_of_length_le (by omega), hY]
                  have HY : Hid (bs.drop d = Y) := hY
                  clear hY hd1 hd0
                  go_wp2_with (first
                    | (at_builtin; refine wpList_append_rdI _ rfl _ _ 27 rfl wr.heap.size 5 .u8 (.int .u8 0) 1 Try.underlying27 info5 rfl rfl rfl (OwnI.fresh wr _ _ _ (Nat.le_refl _)) (hX.alloc _).rd rfl (by rw [ci_length]; exact hml) (by omega) (by unfold maxLen; omega) (by simp) ?_; intro ao3 cap3 w3 ho3 hb3; have hO3 : Own8 w3 wr.heap.size ao3 m cap3 ys := ⟨ho3, hml, hX.byte⟩; have hB3 : Below wr.heap.size wr w3 := ((Below.refl _ _).alloc (Nat.le_refl _) (.cells #[] 5)).trans hb3; have hT3 := hT.below hB3)
                    | (go_at_call 10; refine (append_bad _ _ _ _ _ _ _ _ _ hT3 _ _ _ hm0 hmf (by omega)).mono ?_; rintro e w4 ⟨rfl, hb4⟩; have hT4 := hT3.below hb4; have hB4 := below_step (below_step hbel hB3) hb4)
                    | (go_at_call 13; refine (sync_any _ _ _ _ _ _ _ _ _ hT4).mono ?_; rintro e w5 ⟨rfl, hT5, hO5, -⟩; have hB5 := hB4.trans (hT4.belowB hO5))
                    | (go_at_call 21; refine (drop_ok _ _ _ _ _ _ _ _ _ hT5 d hd).mono ?_; rintro e w6 ⟨rfl, ao6, cap6, hT6, hO6, hN6⟩; rw [HY.out] at hT6; have hB6 := hB5.trans (hT5.belowB hO6))
                    | (go_at_call 23; refine (bytes_any _ _ _ _ _ _ _ _ _ hT6).mono ?_; rintro e w7 ⟨ao7, cap7, rfl, ho7, hb7⟩; have hT7 := hT6.below hb7; have hB7 := below_step hB6 hb7; have hx7 := ho7.rd.st))
                  go_roundw
                  case rel => exact ⟨k + 1, ao6, n - d, cap6, Y, by omega, by go_num, rfl, hT7, hB7⟩
                  case measure => simp [intOf]; omega
    · go_wp2
      go_ret
      exact ⟨rfl, hbel⟩

end Go.Proofs.Ytdajhdeheheccaa
