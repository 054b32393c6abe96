/- A write touches no other sector: the walk. -/
import Derived.Test.YtnapkcejpllmcaaKp
import Derived.WalkSmall
namespace Go.Proofs.Ytnapkcejpllmcaa
open Go.RowKit
set_option linter.unusedVariables false

/-- A write, whatever is written where. -/
theorem write_any (g : Nat) (V : Nat → Prop) (L : List Sec) (i : Int) (ao : Option Addr) (n cap : Nat) (bs : List Nat) (w : World) (h : Drv w g V L) (hr : Rd8 w ao n cap bs) :
    Calls Try.prog 13 #[dp g, .int .i64 i, .slice ao n cap] w fun e w' => ∃ (ev : Int) (L' : List Sec), e = .returned (.int .i64 ev) ∧ Drv w' g (fun k => V k ∨ w.heap.size ≤ k) L' ∧ Off g w w' ∧ L'.length = L.length ∧
      Hid ((ev = 0 ∧ n ≤ 100 ∧ ∃ j : Nat, ∃ h : j < L.length, i = (j : Int) ∧ L' = L.set j (L[j].wrote bs)) ∨ (ev = 51 ∧ (hasB L i = false ∨ 100 < n) ∧ L' = L)) := by
  by_cases hok : hasB L i = true ∧ n ≤ 100
  · obtain ⟨hok, hn⟩ := hok
    obtain ⟨j, rfl, hj⟩ := hasB_nat hok
    exact (write_ok g V L j ao n cap bs w h hj hr hn).mono fun e w' ⟨h1, h2, h3⟩ => ⟨0, _, h1, h2, h3, by simp, .inl ⟨rfl, hn, j, hj, rfl, rfl⟩⟩
  · have hbad : hasB L i = false ∨ 100 < n := by
      cases hh : hasB L i
      · exact .inl rfl
      · exact .inr (by have : ¬ n ≤ 100 := fun h => hok ⟨hh, h⟩; omega)
    have hlt := h.lt
    refine (write_bad g V L i ao n cap w h hbad).mono fun e w' ⟨h1, h2⟩ => ?_
    subst h2
    exact ⟨51, L, h1, h.mono (fun k _ hk => .inl hk) (by rintro (hx | hx); exact h.vg hx; omega), Off.refl _ _, rfl, .inr ⟨rfl, hbad, rfl⟩⟩

theorem OwnS.at0 {w : World} {base : Nat} {e : TypeId} {ao : Option Addr} {cap : Nat} {xs : List Value} (h : OwnS w base e ao cap xs) (hx : 0 < xs.length) : ∃ o, ao = some ⟨o, 0, none⟩ ∧ base ≤ o ∧ o < w.heap.size := by
  obtain ⟨_, h2⟩ := h
  rcases h2 with ⟨hv, hn⟩ | ⟨g, cp, cur, hv, hg, hh, _⟩
  · omega
  · simp only [Value.slice.injEq] at hv
    exact ⟨g, hv.1, hg, (Array.getElem?_eq_some_iff.1 hh).1⟩

theorem Own8.at0 {w : World} {base : Nat} {ao : Option Addr} {n cap : Nat} {bs : List Nat} (h : Own8 w base ao n cap bs) (hx : 0 < n) : ∃ o, ao = some ⟨o, 0, none⟩ ∧ base ≤ o ∧ o < w.heap.size :=
  OwnS.at0 h.own (by rw [List.length_map, ci_length, h.len]; exact hx)

/-- A store into bytes of the call's own. -/
theorem Own8.put {w : World} {base o n cap : Nat} {bs : List Nat} (h : Own8 w base (some ⟨o, 0, none⟩) n cap bs) (j x : Nat) (hx : x < 256) : Own8 (w.setCell ⟨o, j, none⟩ (.int .u8 (x : Int))) base (some ⟨o, 0, none⟩) n cap (bs.set j x) :=
  ⟨by have := h.own.stored j (x : Int); rwa [ci_set] at this, by simpa using h.len, fun b hb => by
    rcases List.mem_or_eq_of_mem_set hb with hb | hb
    · exact h.byte b hb
    · omega⟩

theorem Own8.cellAt {w : World} {base o n cap : Nat} {bs : List Nat} (h : Own8 w base (some ⟨o, 0, none⟩) n cap bs) (j : Nat) (hj : j < n) : ∃ x : Nat, x < 256 ∧ w.cell? ⟨o, j, none⟩ = some (.int .u8 (x : Int)) := by
  have hl := h.len
  have := h.own.cellAt j (by rw [ci_length]; omega)
  rw [ci_get] at this
  exact ⟨_, h.byte _ (List.getElem_mem (by omega)), this⟩

theorem Own8.offO {w w' : World} {g base : Nat} {ao : Option Addr} {n cap : Nat} {bs : List Nat} (h : Own8 w base ao n cap bs) (hb : Off g w w') (hg : g < base) : Own8 w' base ao n cap bs := by
  refine ⟨?_, h.len, h.byte⟩
  obtain ⟨h1, h2⟩ := h.own
  refine ⟨h1, ?_⟩
  rcases h2 with h2 | ⟨o, cp, cur, hv, ho, hh, r⟩
  · exact .inl h2
  · exact .inr ⟨o, cp, cur, hv, ho, by rw [hb.block o (Array.getElem?_eq_some_iff.1 hh).1 (by omega)]; exact hh, r⟩

/-- What each sector has behind the write. -/
theorem wrote_b (L L' : List Sec) (N : Nat) (i ev : Int) (n : Nat) (bs : List Nat) (hN : L.length = N) (hI : ∀ j (h : j < L.length), L[j].b = [j, 7])
    (hE : (ev = 0 ∧ n ≤ 100 ∧ ∃ j : Nat, ∃ h : j < L.length, i = (j : Int) ∧ L' = L.set j (L[j].wrote bs)) ∨ (ev = 51 ∧ (hasB L i = false ∨ 100 < n) ∧ L' = L)) (k : Nat) (hk : k < L'.length) (hk2 : k < N) :
    (ev = 0 ∧ i = (k : Int) ∧ L'[k].b = bs) ∨ (ev = 0 ∧ ((k : Int) == i) = false ∧ L'[k].b = [k, 7]) ∨ (ev = 51 ∧ L'[k].b = [k, 7]) := by
  rcases hE with ⟨h0, _, j, hj, rfl, rfl⟩ | ⟨h51, _, rfl⟩
  · by_cases e : j = k
    · subst e
      exact .inl ⟨h0, rfl, by simp [Sec.wrote]⟩
    · refine .inr (.inl ⟨h0, by simp; omega, ?_⟩)
      rw [List.getElem_set_ne e]
      exact hI k _
  · exact .inr (.inr ⟨h51, hI k _⟩)

set_option maxRecDepth 100000 in
set_option maxHeartbeats 6400000 in
theorem parts_walk (many i : Int) (a2 : Option Addr) (n2 c2 : Nat) (bs : List Nat) (w : World) (hb : Rd8 w a2 n2 c2 bs) (hn : n2 ≤ 140737488351232) :
    Calls Try.prog 6 #[.int .i64 many, .int .i64 i, .slice a2 n2 c2] w fun e w' => e = .returned (.bool true) ∧ Below w.heap.size w w' := by
  have hN : newN many ≤ 6 := by unfold newN; omega
  generalize hNe : newN many = N at *
  have HB : Hid (Rd8 w a2 n2 c2 bs) := hb
  have hl2 := hb.len
  clear hb
  go_enter Try.func6, Try.ntmps6
  go_wp2_with (first
    | (go_at_call 10; refine (alive_any _).mono ?_; rintro e w1 ⟨rfl, hb1⟩; have hs1 := hb1.size)
    | (go_at_call 8; refine (new_any many _).mono ?_; rintro e w2 ⟨rfl, hD2, hS2, hb2⟩; have hD2 : Drv w2 w1.heap.size (fun k => w1.heap.size + 2 ≤ k) (List.replicate N Sec.e) := (by rw [← hNe]; exact hD2 _ (by omega)); have hs2 : w1.heap.size + 2 ≤ w2.heap.size := (by omega); clear hS2))
  go_loopw [8] (fun t wr => ∃ (k : Nat) (L : List Sec), k ≤ N ∧ t = .int .i64 k ∧ Hid (L.length = N ∧ ∀ j (h : j < L.length), j < k → L[j].b = [j, 7]) ∧ Drv wr w1.heap.size (fun k => w1.heap.size + 2 ≤ k) L ∧ Below w.heap.size w wr ∧ w1.heap.size + 2 ≤ wr.heap.size) (fun t _ => N - (intOf t).toNat)
  case atStart => exact ⟨0, List.replicate N Sec.e, Nat.zero_le _, rfl, ⟨by simp, fun j _ hj => by omega⟩, hD2, below_step hb1 hb2, hs2⟩
  case round =>
    obtain ⟨k, L, hk, rfl, HI, hD, hbel, hsz⟩ := hrel
    have hLN := HI.out.1
    by_cases hlt : k < N
    · have hw8 : IntKind.u8.wrap (k : Int) = k := by rw [IntKind.wrap_u8]; omega
      go_wp2_with (first
        | (go_at_call 11; refine (len_any _ _ L _ hD).mono ?_; rintro e w' ⟨rfl, hw⟩; subst w')
        | (go_at_call 13; refine (write_okB _ _ L k _ 2 _ [k, 7] _ (hD.below ((Below.refl _ _).alloc (Nat.le_refl _) _)) (by omega) (Rd8.built wr _ 2 [k, 7] rfl rfl (by intro b hb; simp at hb; omega) (by unfold maxLen; omega)) (by omega) (by simp; omega)).mono ?_; rintro e w3 ⟨rfl, hD3, hO3⟩; have hs3 := hO3.size; simp at hs3))
      go_roundw
      case rel =>
        refine ⟨k + 1, _, by omega, by go_num, ⟨by simp; omega, fun j hj hjk => ?_⟩, hD3, below_off (hbel.alloc (by omega) _) hO3 (by omega) (by simp; omega), by omega⟩
        rw [List.getElem_set]
        split
        · rename_i e; subst e; rfl
        · exact HI.out.2 j _ (by omega)
      case measure => simp [intOf]; omega
    · rename World => wA
      go_wp2_with (first
        | (go_at_call 11; refine (len_any _ _ L _ hD).mono ?_; rintro e w' ⟨rfl, hw⟩; subst w')
        | (at_builtin; refine wpList_append_rdI _ rfl (.tmp 35) (.tmp 36) 22 rfl wA.heap.size 5 .u8 (.int .u8 0) 1 Try.underlying22 info5 rfl rfl rfl (OwnI.fresh wA _ _ _ (Nat.le_refl _)) ((HB.out.below hbel).alloc _).rd rfl (by rw [ci_length]; exact hl2) (by omega) (by unfold maxLen; omega) (by simp) ?_; intro ao3 cap3 w3 ho3 hb3; have hO3 := Own8.mk ho3 hl2 HB.out.byte; have hB3 : Below wA.heap.size wA w3 := below_alloc hb3; have hs3 := hB3.size)
        | (go_at_call 13; refine (write_any _ _ L i _ _ _ bs w3 (hD.tight.below hB3) hO3.rd).mono ?_; rintro e w4 ⟨ev, L', rfl, hD4, hO4, hL4, HE⟩; have hs4 := hO4.size))
      have hI7 : ∀ j (h : j < L.length), L[j].b = [j, 7] := fun j h => HI.out.2 j h (by omega)
      have HW : Hid (∀ (k : Nat) (hk : k < L'.length) (hk2 : k < N), (ev = 0 ∧ i = (k : Int) ∧ L'[k].b = bs) ∨ (ev = 0 ∧ ((k : Int) == i) = false ∧ L'[k].b = [k, 7]) ∨ (ev = 51 ∧ L'[k].b = [k, 7])) := wrote_b L L' N i ev n2 bs hLN hI7 HE.out
      clear hI7
      have hB4 : Below w.heap.size w w4 := below_off (below_step hbel hB3) hO4 (by omega) (by omega)
      have hO4w := hO3.offO hO4 (by omega)
      go_loopw [44] (fun t wq => ∃ k2 : Nat, k2 ≤ n2 ∧ t = .int .i64 k2 ∧ Hid (∃ xs, Own8 wq wA.heap.size ao3 n2 cap3 xs) ∧ Drv wq w1.heap.size (fun k => (w1.heap.size + 2 ≤ k ∧ k < wA.heap.size) ∨ w3.heap.size ≤ k) L' ∧ Below w.heap.size w wq ∧ w3.heap.size ≤ wq.heap.size) (fun t _ => n2 - (intOf t).toNat)
      case atStart => exact ⟨0, Nat.zero_le _, rfl, ⟨_, hO4w⟩, hD4, hB4, hs4⟩
      case round =>
        obtain ⟨k2, hk2, rfl, HX, hDq, hbq, hsq⟩ := hrel
        rename World => wq
        by_cases hlt2 : k2 < n2
        · obtain ⟨o, rfl, ho1, ho2⟩ := hO3.at0 (by omega)
          obtain ⟨xs, hxs⟩ := HX.out
          have hfz := hxs.own.frozenAt k2
          obtain ⟨y, hy, hcy⟩ := hxs.cellAt k2 hlt2
          go_wp2
          go_roundw
          case rel => exact ⟨k2 + 1, by omega, by go_num, ⟨_, hxs.put k2 0 (by omega)⟩, hDq.other _ _ (by simp; omega) (by simp; omega) (by simp; omega), hbq.setCell (by simp; omega) _, by simp [World.setCell]; omega⟩
          case measure => simp [intOf]; omega
        · go_wp2
          go_loopw [12] (fun t wp => ∃ k3 : Nat, k3 ≤ N ∧ t = .int .i64 k3 ∧ Drv wp w1.heap.size (fun k => ((w1.heap.size + 2 ≤ k ∧ k < wA.heap.size) ∨ w3.heap.size ≤ k) ∧ k < wq.heap.size) L' ∧ Below w.heap.size w wp ∧ wq.heap.size ≤ wp.heap.size) (fun t _ => N - (intOf t).toNat)
          case atStart => exact ⟨0, Nat.zero_le _, rfl, hDq.tight, hbq, Nat.le_refl _⟩
          case round =>
          obtain ⟨k3, hk3, rfl, hD3, hbel3, hsz3⟩ := hrel
          rename World => wp
          by_cases hlt3 : k3 < N
          · rcases HW.out k3 (by omega) hlt3 with ⟨rfl, rfl, hwb⟩ | ⟨rfl, hne, hwb⟩ | ⟨rfl, hwb⟩
            · skip
              have hz0 : IntKind.u8.wrap (k3 : Int) = k3 := by rw [IntKind.wrap_u8]; omega
              go_wp2_with (first
                | (go_at_call 11; refine (len_any _ _ L' _ hD3).mono ?_; rintro e w' ⟨rfl, hw⟩; subst w')
                | (go_at_call 9; refine (read_ok _ _ L' k3 _ hD3 (by omega)).mono ?_; rintro e w6 ⟨ao6, n6, cap6, rfl, ho6, hn6, hb6⟩; rw [hwb] at ho6; have hs6 := hb6.size; have hB6 := below_step hbel3 hb6; have hz := (Rd8.built w6 #[.int .u8 (k3 : Int), .int .u8 7] 2 [k3, 7] rfl rfl (by intro b hb; simp at hb; omega) (by unfold maxLen; omega)).str; have hx6 := (ho6.rd.alloc (.cells #[.int .u8 (k3 : Int), .int .u8 7] 5)).str; have hy6 := (((HB.out.below hB6).alloc (.cells #[.int .u8 (k3 : Int), .int .u8 7] 5))).str))
              have hD6 : Drv (w6.alloc (.cells #[.int .u8 (k3 : Int), .int .u8 7] 5)) w1.heap.size (fun k => ((w1.heap.size + 2 ≤ k ∧ k < wA.heap.size) ∨ w3.heap.size ≤ k) ∧ k < wq.heap.size) L' := (hD3.below hb6).below ((Below.refl _ _).alloc (Nat.le_refl _) _)
              have hO6 : Own8 (w6.alloc (.cells #[.int .u8 (k3 : Int), .int .u8 7] 5)) wp.heap.size ao6 n6 cap6 bs := ho6.below ((Below.refl _ _).alloc (Nat.le_refl _) _)
              go_loopw [82] (fun t wx => ∃ k4 : Nat, k4 ≤ n6 ∧ t = .int .i64 k4 ∧ Hid (∃ xs, Own8 wx wp.heap.size ao6 n6 cap6 xs) ∧ Drv wx w1.heap.size (fun k => ((w1.heap.size + 2 ≤ k ∧ k < wA.heap.size) ∨ w3.heap.size ≤ k) ∧ k < wq.heap.size) L' ∧ Below w.heap.size w wx ∧ w6.heap.size ≤ wx.heap.size) (fun t _ => n6 - (intOf t).toNat)
              case atStart => exact ⟨0, Nat.zero_le _, rfl, ⟨_, hO6⟩, hD6, hB6.alloc (by omega) _, by simp⟩
              case round =>
                obtain ⟨k4, hk4, rfl, HX, hDx, hbx, hsx⟩ := hrel
                by_cases hlt4 : k4 < n6
                · obtain ⟨o, rfl, ho61, ho62⟩ := hO6.at0 (by omega)
                  obtain ⟨xs, hxs⟩ := HX.out
                  have hfz := hxs.own.frozenAt k4
                  obtain ⟨y, hy, hcy⟩ := hxs.cellAt k4 hlt4
                  obtain ⟨z, hz256, hwy⟩ : ∃ z : Nat, z < 256 ∧ IntKind.u8.wrap ((y : Int) + 1) = (z : Int) := ⟨(y + 1) % 256, by omega, by rw [IntKind.wrap_u8]; omega⟩
                  go_wp2
                  go_roundw
                  case rel => exact ⟨k4 + 1, by omega, by go_num, ⟨_, hxs.put k4 z hz256⟩, hDx.other _ _ (by simp; omega) (by simp; omega) (by simp; omega), hbx.setCell (by simp; omega) _, by simp [World.setCell]; omega⟩
                  case measure => simp [intOf]; omega
                · go_wp2_with (first
                    | (go_at_call 9; refine (read_ok _ _ L' k3 _ hDx (by omega)).mono ?_; rintro e w7 ⟨ao7, n7, cap7, rfl, ho7, hn7, hb7⟩; rw [hwb] at ho7; have hs7 := hb7.size; have hB7 := below_step hbx hb7; have hx7 := ho7.rd.str))
                  go_roundw
                  case rel => exact ⟨k3 + 1, by omega, by go_num, hDx.below hb7, hB7, by omega⟩
                  case measure => simp [intOf]; omega
            · skip
              have hz0 : IntKind.u8.wrap (k3 : Int) = k3 := by rw [IntKind.wrap_u8]; omega
              go_wp2_with (first
                | (go_at_call 11; refine (len_any _ _ L' _ hD3).mono ?_; rintro e w' ⟨rfl, hw⟩; subst w')
                | (go_at_call 9; refine (read_ok _ _ L' k3 _ hD3 (by omega)).mono ?_; rintro e w6 ⟨ao6, n6, cap6, rfl, ho6, hn6, hb6⟩; rw [hwb] at ho6; have hs6 := hb6.size; have hB6 := below_step hbel3 hb6; have hz := (Rd8.built w6 #[.int .u8 (k3 : Int), .int .u8 7] 2 [k3, 7] rfl rfl (by intro b hb; simp at hb; omega) (by unfold maxLen; omega)).str; have hx6 := (ho6.rd.alloc (.cells #[.int .u8 (k3 : Int), .int .u8 7] 5)).str; have hy6 := (((HB.out.below hB6).alloc (.cells #[.int .u8 (k3 : Int), .int .u8 7] 5))).str))
              have hD6 : Drv (w6.alloc (.cells #[.int .u8 (k3 : Int), .int .u8 7] 5)) w1.heap.size (fun k => ((w1.heap.size + 2 ≤ k ∧ k < wA.heap.size) ∨ w3.heap.size ≤ k) ∧ k < wq.heap.size) L' := (hD3.below hb6).below ((Below.refl _ _).alloc (Nat.le_refl _) _)
              have hO6 : Own8 (w6.alloc (.cells #[.int .u8 (k3 : Int), .int .u8 7] 5)) wp.heap.size ao6 n6 cap6 [k3, 7] := ho6.below ((Below.refl _ _).alloc (Nat.le_refl _) _)
              go_loopw [82] (fun t wx => ∃ k4 : Nat, k4 ≤ n6 ∧ t = .int .i64 k4 ∧ Hid (∃ xs, Own8 wx wp.heap.size ao6 n6 cap6 xs) ∧ Drv wx w1.heap.size (fun k => ((w1.heap.size + 2 ≤ k ∧ k < wA.heap.size) ∨ w3.heap.size ≤ k) ∧ k < wq.heap.size) L' ∧ Below w.heap.size w wx ∧ w6.heap.size ≤ wx.heap.size) (fun t _ => n6 - (intOf t).toNat)
              case atStart => exact ⟨0, Nat.zero_le _, rfl, ⟨_, hO6⟩, hD6, hB6.alloc (by omega) _, by simp⟩
              case round =>
                obtain ⟨k4, hk4, rfl, HX, hDx, hbx, hsx⟩ := hrel
                by_cases hlt4 : k4 < n6
                · obtain ⟨o, rfl, ho61, ho62⟩ := hO6.at0 (by omega)
                  obtain ⟨xs, hxs⟩ := HX.out
                  have hfz := hxs.own.frozenAt k4
                  obtain ⟨y, hy, hcy⟩ := hxs.cellAt k4 hlt4
                  obtain ⟨z, hz256, hwy⟩ : ∃ z : Nat, z < 256 ∧ IntKind.u8.wrap ((y : Int) + 1) = (z : Int) := ⟨(y + 1) % 256, by omega, by rw [IntKind.wrap_u8]; omega⟩
                  go_wp2
                  go_roundw
                  case rel => exact ⟨k4 + 1, by omega, by go_num, ⟨_, hxs.put k4 z hz256⟩, hDx.other _ _ (by simp; omega) (by simp; omega) (by simp; omega), hbx.setCell (by simp; omega) _, by simp [World.setCell]; omega⟩
                  case measure => simp [intOf]; omega
                · go_wp2_with (first
                    | (go_at_call 9; refine (read_ok _ _ L' k3 _ hDx (by omega)).mono ?_; rintro e w7 ⟨ao7, n7, cap7, rfl, ho7, hn7, hb7⟩; rw [hwb] at ho7; have hs7 := hb7.size; have hB7 := below_step hbx hb7; have hx7 := ho7.rd.str))
                  go_roundw
                  case rel => exact ⟨k3 + 1, by omega, by go_num, hDx.below hb7, hB7, by omega⟩
                  case measure => simp [intOf]; omega
            · skip
              have hz0 : IntKind.u8.wrap (k3 : Int) = k3 := by rw [IntKind.wrap_u8]; omega
              go_wp2_with (first
                | (go_at_call 11; refine (len_any _ _ L' _ hD3).mono ?_; rintro e w' ⟨rfl, hw⟩; subst w')
                | (go_at_call 9; refine (read_ok _ _ L' k3 _ hD3 (by omega)).mono ?_; rintro e w6 ⟨ao6, n6, cap6, rfl, ho6, hn6, hb6⟩; rw [hwb] at ho6; have hs6 := hb6.size; have hB6 := below_step hbel3 hb6; have hz := (Rd8.built w6 #[.int .u8 (k3 : Int), .int .u8 7] 2 [k3, 7] rfl rfl (by intro b hb; simp at hb; omega) (by unfold maxLen; omega)).str; have hx6 := (ho6.rd.alloc (.cells #[.int .u8 (k3 : Int), .int .u8 7] 5)).str; have hy6 := (((HB.out.below hB6).alloc (.cells #[.int .u8 (k3 : Int), .int .u8 7] 5))).str))
              have hD6 : Drv (w6.alloc (.cells #[.int .u8 (k3 : Int), .int .u8 7] 5)) w1.heap.size (fun k => ((w1.heap.size + 2 ≤ k ∧ k < wA.heap.size) ∨ w3.heap.size ≤ k) ∧ k < wq.heap.size) L' := (hD3.below hb6).below ((Below.refl _ _).alloc (Nat.le_refl _) _)
              have hO6 : Own8 (w6.alloc (.cells #[.int .u8 (k3 : Int), .int .u8 7] 5)) wp.heap.size ao6 n6 cap6 [k3, 7] := ho6.below ((Below.refl _ _).alloc (Nat.le_refl _) _)
              go_loopw [82] (fun t wx => ∃ k4 : Nat, k4 ≤ n6 ∧ t = .int .i64 k4 ∧ Hid (∃ xs, Own8 wx wp.heap.size ao6 n6 cap6 xs) ∧ Drv wx w1.heap.size (fun k => ((w1.heap.size + 2 ≤ k ∧ k < wA.heap.size) ∨ w3.heap.size ≤ k) ∧ k < wq.heap.size) L' ∧ Below w.heap.size w wx ∧ w6.heap.size ≤ wx.heap.size) (fun t _ => n6 - (intOf t).toNat)
              case atStart => exact ⟨0, Nat.zero_le _, rfl, ⟨_, hO6⟩, hD6, hB6.alloc (by omega) _, by simp⟩
              case round =>
                obtain ⟨k4, hk4, rfl, HX, hDx, hbx, hsx⟩ := hrel
                by_cases hlt4 : k4 < n6
                · obtain ⟨o, rfl, ho61, ho62⟩ := hO6.at0 (by omega)
                  obtain ⟨xs, hxs⟩ := HX.out
                  have hfz := hxs.own.frozenAt k4
                  obtain ⟨y, hy, hcy⟩ := hxs.cellAt k4 hlt4
                  obtain ⟨z, hz256, hwy⟩ : ∃ z : Nat, z < 256 ∧ IntKind.u8.wrap ((y : Int) + 1) = (z : Int) := ⟨(y + 1) % 256, by omega, by rw [IntKind.wrap_u8]; omega⟩
                  go_wp2
                  go_roundw
                  case rel => exact ⟨k4 + 1, by omega, by go_num, ⟨_, hxs.put k4 z hz256⟩, hDx.other _ _ (by simp; omega) (by simp; omega) (by simp; omega), hbx.setCell (by simp; omega) _, by simp [World.setCell]; omega⟩
                  case measure => simp [intOf]; omega
                · go_wp2_with (first
                    | (go_at_call 9; refine (read_ok _ _ L' k3 _ hDx (by omega)).mono ?_; rintro e w7 ⟨ao7, n7, cap7, rfl, ho7, hn7, hb7⟩; rw [hwb] at ho7; have hs7 := hb7.size; have hB7 := below_step hbx hb7; have hx7 := ho7.rd.str))
                  go_roundw
                  case rel => exact ⟨k3 + 1, by omega, by go_num, hDx.below hb7, hB7, by omega⟩
                  case measure => simp [intOf]; omega
          · rcases HE.out with ⟨rfl, hn100, j, hj, rfl, _⟩ | ⟨rfl, hbad, _⟩
            · have hj0 : (0 : Int) ≤ (j : Int) := by omega
              have hjN : (j : Int) < (N : Int) := by omega
              go_wp2_with (first | (go_at_call 11; refine (len_any _ _ L' _ hD3).mono ?_; rintro e w' ⟨rfl, hw⟩; subst w'))
              go_ret
              exact ⟨ret_bool (by simp; omega), hbel3⟩
            · by_cases hi0 : (0 : Int) ≤ i
              · by_cases hiN : i < (N : Int)
                · have hn100 : 100 < n2 := by
                    rcases hbad with hb | hb
                    · simp [hasB, hLN] at hb; omega
                    · exact hb
                  go_wp2_with (first | (go_at_call 11; refine (len_any _ _ L' _ hD3).mono ?_; rintro e w' ⟨rfl, hw⟩; subst w'))
                  go_ret
                  exact ⟨ret_bool (by simp; omega), hbel3⟩
                · go_wp2_with (first | (go_at_call 11; refine (len_any _ _ L' _ hD3).mono ?_; rintro e w' ⟨rfl, hw⟩; subst w'))
                  go_ret
                  exact ⟨rfl, hbel3⟩
              · go_wp2_with (first | (go_at_call 11; refine (len_any _ _ L' _ hD3).mono ?_; rintro e w' ⟨rfl, hw⟩; subst w'))
                go_ret
                exact ⟨rfl, hbel3⟩

end Go.Proofs.Ytnapkcejpllmcaa
