/- CacheLast, walked. -/
import Derived.Test.YtoconakkldahlaaLm
namespace Go.Proofs.Ytoconakkldahlaa
open Go.RowKit
set_option linter.unusedVariables false

theorem sameInts_true (a : Option Addr) (c n : Nat) (b : Option Addr) (d : Nat) (zs : List Int) (w : World) (ha : RdI w .i64 a c zs) (hb : RdI w .i64 b d zs) (hn : zs.length = n) (hm : n ≤ 9223372036854775807) :
    Calls Try.prog 12 #[.slice a n c, .slice b n d] w fun e w' => e = .returned (.bool true) ∧ Below w.heap.size w w' := by
  go_enter Try.func12, Try.ntmps12
  go_wp2
  go_loopw [13] (fun i wr => ∃ k j : Nat, k ≤ n ∧ i = .int .i64 k ∧ wr = w.drewN j) (fun i _ => n - (intOf i).toNat)
  case atStart => exact ⟨0, 0, Nat.zero_le _, rfl, rfl⟩
  case round =>
    obtain ⟨k, j, hk, rfl, rfl⟩ := hrel
    by_cases hlt : k < n
    · obtain ⟨b1, o1, rfl, _, hc1⟩ := ha.at (t := k) (by omega)
      obtain ⟨b2, o2, rfl, _, hc2⟩ := hb.at (t := k) (by omega)
      have hd1 := hc1 k (by omega)
      have hd2 := hc2 k (by omega)
      have hlt' : (k : Int) < (n : Int) := by omega
      go_wp2
      go_quiet (fail)
      go_wp2
      go_roundw
      case rel => exact ⟨k + 1, _, by omega, by go_num, rfl⟩
      case measure => simp [intOf]; omega
    · go_wp2
      go_ret
      exact ⟨rfl, ⟨rfl, rfl, rfl, Nat.le_refl _, fun _ _ => rfl⟩⟩

theorem RdI.keepB {w w' : World} {k : IntKind} {ao : Option Addr} {cap : Nat} {zs : List Int} (h : RdI w k ao cap zs) (hs : w.heap.size ≤ w'.heap.size) (hb : ∀ a, ao = some a → a.block < w.heap.size → w'.heap[a.block]? = w.heap[a.block]?) : RdI w' k ao cap zs := by
  refine ⟨RdS.le h, RdS.mx h, RdS.nil h, fun hx => ?_⟩
  obtain ⟨b, off, e, hlt, hc⟩ := RdS.cell h hx
  exact ⟨b, off, e, Nat.lt_of_lt_of_le hlt hs, fun t ht => (World.cell?_of_block (w := w) (w' := w') (a := ⟨b, off + t, none⟩) (hb ⟨b, off, none⟩ e hlt)).trans (hc t ht)⟩
theorem OwnI.place {w : World} {base : Nat} {e : TypeId} {k : IntKind} {ao : Option Addr} {cap : Nat} {zs : List Int} (h : OwnI w base e k ao cap zs) (hx : 0 < zs.length) : ∃ g, ao = some ⟨g, 0, none⟩ ∧ base ≤ g := by
  obtain ⟨_, h2⟩ := h
  rcases h2 with ⟨hv, hn⟩ | ⟨g, cp, cur, hv, hg, _⟩
  · simp at hn; subst hn; simp at hx
  · simp only [Value.slice.injEq] at hv
    exact ⟨g, hv.1, hg⟩

/-- Integers as things of one cell. -/
def inC (z : Int) : List Value := [.int .i64 z]
theorem inE : Enc inC 1 := ⟨fun _ => rfl, fun x u hu => by simp only [inC, List.mem_cons, List.not_mem_nil, or_false] at hu; subst hu; rfl, by decide⟩
theorem cs_in (L : List Int) : cs inC L = L.map (Value.int .i64) := by
  induction L with
  | nil => rfl
  | cons a L ih => rw [cs_cons, ih]; rfl
theorem RdR.toI {w : World} {a : Option Addr} {c : Nat} {L : List Int} (h : RdR inC w a c L) : RdI w .i64 a c L := by
  refine ⟨by simpa using h.le, h.mx, h.nil, fun hx => ?_⟩
  obtain ⟨b, off, e, hlt, hc⟩ := h.cell (by intro e; subst e; exact hx rfl)
  refine ⟨b, off, e, hlt, fun t ht => hc t _ ?_⟩
  rw [cs_in]
  exact List.getElem?_eq_getElem ht

/-- What holds at the head of each round: the cache, the row of the last ones, what came in. -/
def Lp (w wr : World) (B c R K : Nat) (oa : Option Addr) (oc on : Nat) : Prop :=
  ∃ (S : Nat) (L : List En) (O : List Int), Inv L O K R ∧ Cx B S wr c R L ∧ RdI wr .i64 oa oc O ∧ O.length = on ∧ (∀ a, oa = some a → S ≤ a.block) ∧ Below w.heap.size w wr ∧ w.heap.size ≤ B

theorem putOk_15 (p : Nat) (h : p < 6) : PutOk p 15 0 := ⟨h, by omega, by omega, by omega, by kernel_rfl⟩
theorem putOk_1 (p : Nat) (h : p < 6) : PutOk p 1 0 := ⟨h, by omega, by omega, by omega, by kernel_rfl⟩
abbrev v0 : Nat → Nat × Nat := fun _ => (0, 0)

theorem l_new (R : Nat) (hR : 2 ≤ R ∧ R ≤ 6) (W : World) : Calls Try.prog 5 #[.int .i64 (R : Int)] W fun e w' => ∃ c, e = .returned (cp c) ∧ Cx W.heap.size w'.heap.size w' c R [] ∧ Below W.heap.size W w' := by
  have h : roomZ (R : Int) = (R : Int) := by unfold roomZ; omega
  have := newX (R : Int) W
  rw [h] at this
  exact this
theorem l_put0 (B S : Nat) (W : World) (c R K : Nat) (hR : 2 ≤ R ∧ R ≤ 6) (hK : K < 6) (H : Cx B S W c R []) : Calls Try.prog 6 #[cp c, .int .i64 (K : Int), .int .i64 1, .int .i64 0, .agg #[.complex .f64 0 0, .complex .f64 0 0, .complex .f64 0 0, .complex .f64 0 0], .slice none 0 0] W fun e w' => (∃ z b, e = .returned (.tuple #[.int .i64 z, .bool b])) ∧ Hid (Cx B w'.heap.size w' c R [fillE ⟨K, 0, 0, fun _ => (0, 0)⟩ 1 0 v0] ∧ Inv [fillE ⟨K, 0, 0, fun _ => (0, 0)⟩ 1 0 v0] [] K R ∧ Below B W w') := by
  refine (putX H (by simp) K 1 0 (putOk_1 K hK) v0 none 0 0 [] (RdI.empty W .i64) rfl (by omega)).mono ?_
  rintro e w' ⟨rfl, h1, h2⟩
  obtain ⟨e1, e2⟩ := Inv.first K R hR.1 v0
  rw [e1] at h1
  exact ⟨⟨_, _, rfl⟩, h1, e2, h2.belB (by have := H.base; have := H.le; omega)⟩

/-- A Put of another page, the one that is kept in a row of one. -/
theorem l_put (w wr : World) (B c R K : Nat) (oa : Option Addr) (oc on : Nat) (hR : 2 ≤ R ∧ R ≤ 6) (P : Nat) (hP : P < 6) (hPK : P ≠ K) (S : Nat) (L : List En) (O : List Int) (H : Inv L O K R ∧ Cx B S wr c R L ∧ RdI wr .i64 oa oc O ∧ O.length = on ∧ (∀ a, oa = some a → S ≤ a.block) ∧ Below w.heap.size w wr ∧ w.heap.size ≤ B) :
    Calls Try.prog 6 #[cp c, .int .i64 (P : Int), .int .i64 15, .int .i64 0, .agg #[.complex .f64 0 0, .complex .f64 0 0, .complex .f64 0 0, .complex .f64 0 0], .slice (some ⟨wr.heap.size, 0, none⟩) 1 1] (wr.alloc (.cells #[.int .i64 (K : Int)] 3)) fun e w' => (∃ z b, e = .returned (.tuple #[.int .i64 z, .bool b])) ∧ Hid (∃ L', Inv L' (nxO O (P : Int) R) K R ∧ Cx B w'.heap.size w' c R L' ∧ RdI w' .i64 oa oc O ∧ Below w.heap.size w w') := by
  obtain ⟨h1, h2, h3, h4, h5, h6, h7⟩ := H
  have hb : Below wr.heap.size wr (wr.alloc (.cells #[.int .i64 (K : Int)] 3)) := (Below.refl _ _).alloc (Nat.le_refl _) _
  have hle : L.length ≤ 100000 := by have := h1.le; omega
  have hbs := h2.base
  have hsl := h2.le
  refine (putX (h2.below hb) hle P 15 0 (putOk_15 P hP) v0 (some ⟨wr.heap.size, 0, none⟩) 1 1 [(K : Int)] (RdI.one wr 3 .i64 (K : Int)) rfl (by omega)).mono ?_
  rintro e w' ⟨rfl, u1, u2⟩
  refine ⟨⟨_, _, rfl⟩, _, h1.put hR.1 P hPK v0, u1, ?_, ?_⟩
  · refine (h3.below hb).keepB u2.size fun a ha hl => u2.block _ hl fun h => ?_
    have := h5 a ha
    omega
  · exact (h6.trans (hb.mono h6.size)).trans (u2.below (fun k h => by omega) (Nat.le_trans h6.size hb.size))

set_option maxHeartbeats 6400000 in
theorem last_main (m : Int) (ao : Option Addr) (cap n : Nat) (zs : List Int) (kp : Int) (w : World) (hz : RdI w .i64 ao cap zs) (hn : zs.length = n) :
    Calls Try.prog 4 #[.int .i64 m, .slice ao n cap, .int .i64 kp] w fun e w' => e = .returned (.bool true) ∧ Below w.heap.size w w' := by
  by_cases g1 : (100 : Int) < n
  · have g1' : decide ((n : Int) > 100) = true := by simpa using g1
    clear hz hn
    go_enter Try.func4, Try.ntmps4
    go_wp2_with (first
      | (go_at_call 8; refine (alive_any w).mono ?_; rintro e w1 ⟨rfl, hb1⟩)
      | fail)
    go_ret
    exact ⟨rfl, hb1⟩
  have g1' : decide ((n : Int) > 100) = false := by simpa using g1
  by_cases g2 : m < 2
  · clear hz hn
    go_enter Try.func4, Try.ntmps4
    go_wp2_with (first
      | (go_at_call 8; refine (alive_any w).mono ?_; rintro e w1 ⟨rfl, hb1⟩)
      | fail)
    go_ret
    exact ⟨rfl, hb1⟩
  by_cases g3 : m > 6
  · clear hz hn
    go_enter Try.func4, Try.ntmps4
    go_wp2_with (first
      | (go_at_call 8; refine (alive_any w).mono ?_; rintro e w1 ⟨rfl, hb1⟩)
      | fail)
    go_ret
    exact ⟨rfl, hb1⟩
  by_cases g4 : kp < 0
  · clear hz hn
    go_enter Try.func4, Try.ntmps4
    go_wp2_with (first
      | (go_at_call 8; refine (alive_any w).mono ?_; rintro e w1 ⟨rfl, hb1⟩)
      | fail)
    go_ret
    exact ⟨rfl, hb1⟩
  by_cases g5 : kp > 5
  · clear hz hn
    go_enter Try.func4, Try.ntmps4
    go_wp2_with (first
      | (go_at_call 8; refine (alive_any w).mono ?_; rintro e w1 ⟨rfl, hb1⟩)
      | fail)
    go_ret
    exact ⟨rfl, hb1⟩
  obtain ⟨R, rfl⟩ : ∃ R : Nat, m = (R : Int) := ⟨m.toNat, by omega⟩
  obtain ⟨K, rfl⟩ : ∃ K : Nat, kp = (K : Int) := ⟨kp.toNat, by omega⟩
  have hR : Hid (2 ≤ R ∧ R ≤ 6) := ⟨by omega, by omega⟩
  have hK : Hid (K < 6) := by unfold Hid; omega
  have HZ : Hid (RdI w .i64 ao cap zs ∧ zs.length = n) := ⟨hz, hn⟩
  have hn1 : n ≤ 100 := by omega
  have g2' : decide ((R : Int) < 2) = false := by simpa using g2
  have g3' : decide ((R : Int) > 6) = false := by simpa using g3
  have g4' : decide ((K : Int) < 0) = false := by simp
  have g5' : decide ((K : Int) > 5) = false := by simpa using g5
  have hR1 : IntKind.i64.wrap ((R : Int) - 1) = (R : Int) - 1 := by rw [IntKind.wrap_i64]; have := hR.out; omega
  clear hz hn
  go_enter Try.func4, Try.ntmps4
  go_upto_region 7 with (first
    | (go_at_call 8; refine (alive_any w).mono ?_; rintro e w1 ⟨rfl, hb1⟩)
    | (go_at_call 5; refine (l_new R hR.out w1).mono ?_; rintro e w2 ⟨c, rfl, HC2, hb2⟩)
    | (go_at_call 6; (with_reducible refine (l_put0 w1.heap.size _ w2 c R K hR.out hK.out HC2).mono ?_); rintro e w3 ⟨⟨z3, b3, rfl⟩, HP⟩)
    | fail)
  obtain ⟨B, hB⟩ : ∃ B, w1.heap.size = B := ⟨_, rfl⟩
  rw [hB] at HP
  have HB : Hid (w.heap.size ≤ B) := by have := hb1.size; unfold Hid; omega
  have HW3 : Hid (Below w.heap.size w w3) := (hb1.trans (hb2.mono hb1.size)).trans (HP.out.2.2.mono HB.out)
  clear hb1 hb2 HC2 hB g1 g2 g3 g4 g5
  go_wp2
  go_loopw [8, 47] (fun o i wr => ∃ (k on : Nat) (oa : Option Addr) (oc : Nat), k ≤ n ∧ i = .int .i64 k ∧ o = .slice oa on oc ∧ Hid (Lp w wr B c R K oa oc on)) (fun o i _ => n - (intOf i).toNat)
  case atStart =>
    refine ⟨0, 0, _, _, Nat.zero_le _, rfl, rfl, w3.heap.size, _, [], HP.out.2.1, HP.out.1.below ((Below.refl _ _).alloc (Nat.le_refl _) _), (OwnI.fresh w3 w3.heap.size 3 .i64 (Nat.le_refl _)).rd, rfl, fun a ha => by cases ha; exact Nat.le_refl _, below_step HW3.out ((Below.refl _ _).alloc (Nat.le_refl _) _), HB.out⟩
  case round =>
    clear HP HW3
    obtain ⟨k, on, oa, oc, hk, rfl, rfl, HI⟩ := hrel
    obtain ⟨wA, hwA⟩ : ∃ x, x = wr := ⟨wr, rfl⟩
    subst hwA
    by_cases hlt : k < n
    · have e0' : decide ((k : Int) < n) = true := by simp; omega
      have hkl : k < zs.length := by have := HZ.out.2; omega
      have hbel : Below w.heap.size w wA := by obtain ⟨_, _, _, _, _, _, _, _, h, _⟩ := HI.out; exact h
      obtain ⟨bk, off, rfl, -, hcc⟩ := (HZ.out.1.below hbel).at hkl
      have hd := hcc k hkl
      clear hcc hbel
      generalize zs[k] = p at *
      by_cases s1 : p < 0
      · go_wp2
        go_roundw
        case rel => exact ⟨k + 1, on, oa, oc, by omega, by go_num, rfl, HI⟩
        case measure => simp [intOf]; omega
      by_cases s2 : p > 5
      · go_wp2
        go_roundw
        case rel => exact ⟨k + 1, on, oa, oc, by omega, by go_num, rfl, HI⟩
        case measure => simp [intOf]; omega
      obtain ⟨P, rfl⟩ : ∃ P : Nat, p = (P : Int) := ⟨p.toNat, by omega⟩
      have HP6 : Hid (P < 6) := by unfold Hid; omega
      have s1' : decide ((P : Int) < 0) = false := by simp
      have s2' : decide ((P : Int) > 5) = false := by simpa using s2
      clear s1 s2
      cases s3 : ((P : Int) == (K : Int))
      rotate_left
      · go_wp2
        go_roundw
        case rel => exact ⟨k + 1, on, oa, oc, by omega, by go_num, rfl, HI⟩
        case measure => simp [intOf]; omega
      · have hPK : Hid (P ≠ K) := by unfold Hid; simp at s3; omega
        obtain ⟨S, L, O, HS⟩ := HI
        have HS' : Hid (Inv L O K R ∧ Cx B S wA c R L ∧ RdI wA .i64 oa oc O ∧ O.length = on ∧ (∀ a, oa = some a → S ≤ a.block) ∧ Below w.heap.size w wA ∧ w.heap.size ≤ B) := HS
        have hon : on ≤ 5 := by have := HS.1.len; have := HS.1.le; have := HS.2.2.2.1; have := hR.out; omega
        clear HS
        go_upto_region 13 with (first
          | (go_at_call 6; (with_reducible refine (l_put w wA B c R K oa oc on hR.out P HP6.out hPK.out S L O HS'.out).mono ?_); rintro e w5 ⟨⟨z5, b5, rfl⟩, HQ⟩)
          | fail)
        have HON : Hid (O.length = on) := HS'.out.2.2.2.1
        clear HS' hd
        obtain ⟨L', HQ1, HQ2, HQ3, HQ4⟩ := HQ
        have HQ' : Hid (Inv L' (nxO O (P : Int) R) K R ∧ Cx B w5.heap.size w5 c R L' ∧ RdI w5 .i64 oa oc O ∧ Below w.heap.size w w5) := ⟨HQ1, HQ2, HQ3, HQ4⟩
        clear HQ1 HQ2 HQ3 HQ4
        go_wp2
        go_loopw [11, 71] (fun nx i wq => ∃ (j nn : Nat) (na : Option Addr) (nc : Nat), j ≤ on ∧ i = .int .i64 j ∧ nx = .slice na nn nc ∧ Hid (OwnI wq w5.heap.size 3 .i64 na nc ((O.take j).filter (fun z => z != (P : Int))) ∧ ((O.take j).filter (fun z => z != (P : Int))).length = nn ∧ Below w5.heap.size w5 wq)) (fun nx i _ => on - (intOf i).toNat)
        case atStart => exact ⟨0, 0, _, _, Nat.zero_le _, rfl, rfl, OwnI.fresh w5 w5.heap.size 3 .i64 (Nat.le_refl _), rfl, (Below.refl _ _).alloc (Nat.le_refl _) _⟩
        case round =>
          obtain ⟨j, nn, na, nc, hj, rfl, rfl, HJ⟩ := hrel
          obtain ⟨wB, hwB⟩ : ∃ x, x = wr := ⟨wr, rfl⟩
          subst hwB
          have hnn : nn ≤ 5 := by
            have h1 := HJ.out.2.1
            have h2 : ((O.take j).filter (fun z => z != (P : Int))).length ≤ (O.take j).length := List.length_filter_le _ _
            rw [List.length_take] at h2
            omega
          by_cases hlj : j < on
          · have e1' : decide ((j : Int) < on) = true := by simp; omega
            have hjl : j < O.length := by have := HON.out; omega
            obtain ⟨bo, oo, rfl, -, hco⟩ := (HQ'.out.2.2.1.below HJ.out.2.2).at hjl
            have hdo := hco j hjl
            have HT : Hid ((O.take (j + 1)).filter (fun z => z != (P : Int)) = (O.take j).filter (fun z => z != (P : Int)) ++ (if (O[j] != (P : Int)) = true then [O[j]] else [])) := by
              unfold Hid
              rw [List.take_add_one, List.getElem?_eq_getElem hjl, List.filter_append]
              congr 1
              by_cases h : (O[j] != (P : Int)) = true
              · rw [if_pos h]; exact List.filter_cons_of_pos h
              · rw [if_neg h]; exact List.filter_cons_of_neg h
            clear hco
            generalize O[j] = x at *
            cases hx : (x != (P : Int))
            · have HT' : Hid ((O.take (j + 1)).filter (fun z => z != (P : Int)) = (O.take j).filter (fun z => z != (P : Int))) := by have := HT.out; rw [hx] at this; unfold Hid; simpa using this
              clear HT
              go_wp2
              go_roundw
              case rel => exact ⟨j + 1, nn, na, nc, by omega, by go_num, rfl, by rw [HT'.out]; exact HJ.out⟩
              case measure => simp [intOf]; omega
            · have HT' : Hid ((O.take (j + 1)).filter (fun z => z != (P : Int)) = (O.take j).filter (fun z => z != (P : Int)) ++ [x]) := by have := HT.out; rw [hx] at this; unfold Hid; simpa using this
              clear HT
              go_wp2_with (first
                | (at_builtin; refine wpList_append_rdI _ rfl _ _ 31 rfl w5.heap.size 3 .i64 _ 8 Try.underlying31 info3 rfl rfl rfl (HJ.out.1.alloc _) (RdI.one wB 3 .i64 x) HJ.out.2.1 rfl (by omega) (by unfold maxLen; omega) (by have := HJ.out.2.2.size; simp; omega) ?_; intro a7 c7 w7 ho7 hb7)
                | fail)
              go_roundw
              case rel => exact ⟨j + 1, nn + 1, a7, c7, by omega, by go_num, rfl, by rw [HT'.out]; exact ho7, by rw [HT'.out, List.length_append, HJ.out.2.1]; rfl, HJ.out.2.2.trans (((Below.refl w5.heap.size wB).alloc HJ.out.2.2.size _).trans hb7)⟩
              case measure => simp [intOf]; omega
          · obtain rfl : j = on := by omega
            have HT : Hid (O.take j = O) := List.take_of_length_le (by have := HON.out; omega)
            have HJ' : Hid (OwnI wB w5.heap.size 3 .i64 na nc (O.filter (fun z => z != (P : Int))) ∧ (O.filter (fun z => z != (P : Int))).length = nn ∧ Below w5.heap.size w5 wB) := by have := HJ.out; rw [HT.out] at this; exact this
            clear HJ HT
            go_upto_region 21 with (first
              | (at_builtin; refine wpList_append_rdI _ rfl _ _ 31 rfl w5.heap.size 3 .i64 _ 8 Try.underlying31 info3 rfl rfl rfl (HJ'.out.1.alloc _) (RdI.one wB 3 .i64 (P : Int)) HJ'.out.2.1 rfl (by omega) (by unfold maxLen; omega) (by have := HJ'.out.2.2.size; simp; omega) ?_; intro a8 c8 w8 ho8 hb8)
              | fail)
            have hl8 : (O.filter (fun z => z != (P : Int)) ++ [(P : Int)]).length = nn + 1 := by rw [List.length_append, HJ'.out.2.1]; rfl
            obtain ⟨g8, rfl, hg8⟩ := ho8.place (by rw [hl8]; omega)
            have hc8 := ho8.rd.le
            rw [hl8] at hc8
            have hb58 : Below w5.heap.size w5 w8 := HJ'.out.2.2.trans (((Below.refl w5.heap.size wB).alloc HJ'.out.2.2.size _).trans hb8)
            have H8 : Hid (RdI w8 .i64 (some ⟨g8, 0, none⟩) c8 (O.filter (fun z => z != (P : Int)) ++ [(P : Int)]) ∧ (O.filter (fun z => z != (P : Int)) ++ [(P : Int)]).length = nn + 1 ∧ w5.heap.size ≤ g8 ∧ Below w5.heap.size w5 w8) := ⟨ho8.rd, hl8, hg8, hb58⟩
            have HCp : Hid (Calls Try.prog 10 #[cp c, .int .i64 (K : Int)] w8 fun e w' => e = .returned (.int .i64 1) ∧ Below w8.heap.size w8 w') := by
              have h1 := copiesX (HQ'.out.2.1.beyond hb58) (by have := HQ'.out.1.le; have := hR.out; omega) (K : Int)
              rw [HQ'.out.1.cp] at h1
              exact h1
            clear ho8 hb8 hl8 hg8 hb58 HJ'
            by_cases hcut : (nn + 1 : Int) > (R : Int) - 1
            · have HN : Hid (nxO O (P : Int) R = (O.filter (fun z => z != (P : Int)) ++ [(P : Int)]).drop 1) := by unfold Hid nxO; rw [if_pos (by rw [H8.out.2.1]; have := hR.out; omega)]
              have hc1 : ¬ c8 = 1 := by have := hR.out; omega
              have hc8' : 1 ≤ c8 := by omega
              have hcut' : decide ((nn : Int) + 1 > (R : Int) - 1) = true := by simpa using hcut
              have hT8 := H8.out.1.tail 1 (by rw [H8.out.2.1]; omega)
              rw [if_neg hc1] at hT8
              have HT8 : Hid (RdI w8 .i64 (some ⟨g8, 1, none⟩) (c8 - 1) ((O.filter (fun z => z != (P : Int)) ++ [(P : Int)]).drop 1)) := by unfold Hid; simpa [Addr.add_lit] using hT8
              clear hT8
              go_wp2_with (first
                | (go_at_call 10; refine HCp.out.mono ?_; rintro e w9 ⟨rfl, hb9⟩)
                | fail)
              go_roundw
              case rel =>
                refine ⟨k + 1, nn, some ⟨g8, 1, none⟩, c8 - 1, by omega, by go_num, by simp, w5.heap.size, L', nxO O (P : Int) R, HQ'.out.1, (HQ'.out.2.1.beyond H8.out.2.2.2).below hb9, by rw [HN.out]; exact HT8.out.below hb9, by rw [HN.out, List.length_drop, H8.out.2.1]; omega, fun a ha => by cases ha; exact H8.out.2.2.1, ?_, HB.out⟩
                exact (HQ'.out.2.2.2.trans (H8.out.2.2.2.mono HQ'.out.2.2.2.size)).trans (hb9.mono (Nat.le_trans HQ'.out.2.2.2.size H8.out.2.2.2.size))
              case measure => simp [intOf]; omega
            · have HN : Hid (nxO O (P : Int) R = O.filter (fun z => z != (P : Int)) ++ [(P : Int)]) := by unfold Hid nxO; rw [if_neg (by rw [H8.out.2.1]; have := hR.out; omega)]
              have hcut' : decide ((nn : Int) + 1 > (R : Int) - 1) = false := by simpa using hcut
              go_wp2_with (first
                | (go_at_call 10; refine HCp.out.mono ?_; rintro e w9 ⟨rfl, hb9⟩)
                | fail)
              go_roundw
              case rel =>
                refine ⟨k + 1, nn + 1, some ⟨g8, 0, none⟩, c8, by omega, by go_num, rfl, w5.heap.size, L', nxO O (P : Int) R, HQ'.out.1, (HQ'.out.2.1.beyond H8.out.2.2.2).below hb9, by rw [HN.out]; exact H8.out.1.below hb9, by rw [HN.out, H8.out.2.1], fun a ha => by cases ha; exact H8.out.2.2.1, ?_, HB.out⟩
                exact (HQ'.out.2.2.2.trans (H8.out.2.2.2.mono HQ'.out.2.2.2.size)).trans (hb9.mono (Nat.le_trans HQ'.out.2.2.2.size H8.out.2.2.2.size))
              case measure => simp [intOf]; omega
    · obtain rfl : k = n := by omega
      obtain ⟨S, L, O, HS⟩ := HI
      have HS' : Hid (Inv L O K R ∧ Cx B S wA c R L ∧ RdI wA .i64 oa oc O ∧ O.length = on ∧ (∀ a, oa = some a → S ≤ a.block) ∧ Below w.heap.size w wA ∧ w.heap.size ≤ B) := HS
      clear HS
      have hbR : Below wA.heap.size wA (wA.alloc (.cells #[] 3)) := (Below.refl _ _).alloc (Nat.le_refl _) _
      obtain ⟨l, hl⟩ : ∃ l, L.length = l := ⟨_, rfl⟩
      have HPg : Hid (Calls Try.prog 9 #[cp c] (wA.alloc (.cells #[] 3)) fun e w' => ∃ a2 c2, e = .returned (.slice a2 l c2) ∧ Hid (RdI w' .i64 a2 c2 (ps L) ∧ OwR inC 1 3 w' (some ⟨wA.heap.size, 0, none⟩) 0 [] ∧ (∀ a, a2 = some a → wA.heap.size < a.block) ∧ wA.heap.size < w'.heap.size ∧ Below wA.heap.size wA w')) := by
        refine (pagesX (HS'.out.2.1.below hbR) (by have := HS'.out.1.le; have := hR.out; omega)).mono ?_
        rintro e w' ⟨a2, c2, rfl, h1, h2⟩
        rw [hl]
        refine ⟨a2, c2, rfl, h1.rd, (OwR.fresh 3 wA).below h2, fun a ha => ?_, by have := h2.size; simp at this; omega, below_step hbR h2⟩
        have hll : 0 < (L.map fun x => (x.p : Int)).length := by rw [List.length_map]; have := HS'.out.1.len; omega
        obtain ⟨g, hg, hg2⟩ := h1.place hll
        rw [hg] at ha
        cases ha
        simp at hg2
        simp only
        omega
      have hl6 : l ≤ 6 := by have := HS'.out.1.le; have := hR.out; omega
      have HLl : Hid ((ps L).length = l) := by unfold Hid; rw [ps_length]; exact hl
      clear hbR hl
      go_wp2_with (first
        | (go_at_call 9; refine HPg.out.mono ?_; rintro e w10 ⟨a2, c2, rfl, HR10⟩)
        | fail)
      go_loopw [14, 103] (fun rs i wq => ∃ (j rn : Nat) (ra : Option Addr) (rc : Nat), j ≤ l ∧ i = .int .i64 j ∧ rs = .slice ra rn rc ∧ Hid (OwR inC 1 3 wq ra rc (((ps L).take j).filter (fun z => z != (K : Int))) ∧ (((ps L).take j).filter (fun z => z != (K : Int))).length = rn ∧ OffS (fun k => k = wA.heap.size) w10 wq ∧ (∀ a, ra = some a → a.block = wA.heap.size ∨ w10.heap.size ≤ a.block))) (fun rs i _ => l - (intOf i).toNat)
      case atStart => exact ⟨0, 0, _, _, Nat.zero_le _, rfl, rfl, HR10.out.2.1, rfl, OffS.refl _ _, fun a ha => by cases ha; exact .inl rfl⟩
      case round =>
        obtain ⟨j, rn, ra, rc, hj, rfl, rfl, HJ⟩ := hrel
        obtain ⟨wB, hwB⟩ : ∃ x, x = wr := ⟨wr, rfl⟩
        subst hwB
        have hnn : rn ≤ 6 := by
          have h1 := HJ.out.2.1
          have h2 : (((ps L).take j).filter (fun z => z != (K : Int))).length ≤ ((ps L).take j).length := List.length_filter_le _ _
          rw [List.length_take] at h2
          omega
        have HR2 : Hid (RdI wB .i64 a2 c2 (ps L)) := HR10.out.1.keepB HJ.out.2.2.1.size fun a ha hl => HJ.out.2.2.1.block _ hl (by have := HR10.out.2.2.1 a ha; omega)
        by_cases hlj : j < l
        · have e1' : decide ((j : Int) < l) = true := by simp; omega
          have hjl : j < (ps L).length := by have := HLl.out; omega
          obtain ⟨bo, oo, rfl, -, hco⟩ := HR2.out.at hjl
          have hdo := hco j hjl
          have HT : Hid (((ps L).take (j + 1)).filter (fun z => z != (K : Int)) = ((ps L).take j).filter (fun z => z != (K : Int)) ++ (if ((ps L)[j] != (K : Int)) = true then [(ps L)[j]] else [])) := by
            unfold Hid
            rw [List.take_add_one, List.getElem?_eq_getElem hjl, List.filter_append]
            congr 1
            by_cases h : ((ps L)[j] != (K : Int)) = true
            · rw [if_pos h]; exact List.filter_cons_of_pos h
            · rw [if_neg h]; exact List.filter_cons_of_neg h
          clear hco HR2
          generalize (ps L)[j] = x at *
          cases hx : (x != (K : Int))
          · have HT' : Hid (((ps L).take (j + 1)).filter (fun z => z != (K : Int)) = ((ps L).take j).filter (fun z => z != (K : Int))) := by have := HT.out; rw [hx] at this; unfold Hid; simpa using this
            clear HT
            go_wp2
            go_roundw
            case rel => exact ⟨j + 1, rn, ra, rc, by omega, by go_num, rfl, by rw [HT'.out]; exact HJ.out⟩
            case measure => simp [intOf]; omega
          · have HT' : Hid (((ps L).take (j + 1)).filter (fun z => z != (K : Int)) = ((ps L).take j).filter (fun z => z != (K : Int)) ++ [x]) := by have := HT.out; rw [hx] at this; unfold Hid; simpa using this
            clear HT
            go_wp2_with (first
              | (at_builtin; refine wpList_append_R inE _ rfl _ _ 31 rfl 3 _ 8 Try.underlying31 info3 rfl (L := ((ps L).take j).filter (fun z => z != (K : Int))) (M := [x]) (n := rn) (m := 1) rfl rfl (HJ.out.1.below ((Below.refl _ _).alloc (Nat.le_refl _) _)) (RdR.built inE wB 3 #[.int .i64 x] [x] rfl 1 rfl (by unfold maxLen; omega)) HJ.out.2.1 rfl (by omega) (by unfold maxLen; omega) ?_; intro a7 c7 w7 ho7 hg7 hl7)
              | fail)
            have hbA : Below wB.heap.size wB (wB.alloc (.cells #[.int .i64 x] 3)) := (Below.refl _ _).alloc (Nat.le_refl _) _
            have HE : Hid (OffS (fun k => k = wA.heap.size) w10 w7 ∧ (∀ a, a7 = some a → a.block = wA.heap.size ∨ w10.heap.size ≤ a.block)) := by
              have hsz := HJ.out.2.2.1.size
              have hr : ∀ k, ra.map (·.block) = some k → k = wA.heap.size ∨ w10.heap.size ≤ k := fun k hk => by
                cases ra with
                | none => cases hk
                | some a =>
                  have : a.block = k := by simpa using hk
                  rw [← this]
                  exact HJ.out.2.2.2 a rfl
              refine ⟨(HJ.out.2.2.1.trans (OffS.of_below hbA)).trans ((OffS.grown hg7 hr)), fun a ha => ?_⟩
              rcases hl7 with h | h
              · exact HJ.out.2.2.2 a (h ▸ ha)
              · rw [h] at ha
                cases ha
                exact .inr (by simp; omega)
            clear hbA hg7 hl7
            go_roundw
            case rel => exact ⟨j + 1, rn + 1, a7, c7, by omega, by go_num, rfl, by rw [HT'.out]; exact ho7, by rw [HT'.out, List.length_append, HJ.out.2.1]; rfl, HE.out⟩
            case measure => simp [intOf]; omega
        · obtain rfl : j = l := by omega
          have HT : Hid ((ps L).take j = ps L) := List.take_of_length_le (by have := HLl.out; omega)
          have HX : Hid (RdI wB .i64 ra rc O ∧ RdI wB .i64 oa oc O ∧ O.length = on ∧ rn = on ∧ Below w.heap.size w wB) := by
            have h1 := HJ.out
            rw [HT.out, HS'.out.1.fo] at h1
            have hb10 := HR10.out.2.2.2.2
            have hwA := HS'.out.2.2.2.2.2.1.size
            refine ⟨h1.1.rd.toI, ?_, HS'.out.2.2.2.1, by have := HS'.out.2.2.2.1; omega, ?_⟩
            · have h2 := HS'.out.2.2.1.below hb10
              refine HS'.out.2.2.1.keepB (Nat.le_trans hb10.size h1.2.2.1.size) fun a ha hl => ?_
              rw [h1.2.2.1.block _ (Nat.lt_of_lt_of_le hl hb10.size) (by omega), hb10.block _ hl]
            · exact (HS'.out.2.2.2.2.2.1.trans (hb10.mono hwA)).trans (h1.2.2.1.below (fun k hk => by omega) (Nat.le_trans hwA hb10.size))
          have hrn := HX.out.2.2.2.1
          subst hrn
          have HSm : Hid (Calls Try.prog 12 #[.slice ra rn rc, .slice oa rn oc] wB fun e w' => e = .returned (.bool true) ∧ Below wB.heap.size wB w') := sameInts_true ra rc rn oa oc O wB HX.out.1 HX.out.2.1 HX.out.2.2.1 (by omega)
          go_wp2_with (first
            | (go_at_call 12; refine HSm.out.mono ?_; rintro e w12 ⟨rfl, hb12⟩)
            | fail)
          go_ret
          exact ⟨rfl, below_step HX.out.2.2.2.2 hb12⟩

end Go.Proofs.Ytoconakkldahlaa
