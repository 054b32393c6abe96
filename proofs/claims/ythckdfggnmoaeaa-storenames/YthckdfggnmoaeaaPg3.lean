/- What Bytes of package page does, walked. -/
import Derived.Test.YthckdfggnmoaeaaPg1
import Derived.Handy
namespace Go.Proofs.Ythckdfggnmoaeaa
open Go.RowKit
set_option linter.unusedVariables false

/-- Some numbers as bytes. -/
def nb (zs : List Int) : List Nat := zs.map Int.toNat

theorem nb_length (zs : List Int) : (nb zs).length = zs.length := by simp [nb]

theorem ci_nb {zs : List Int} (h : ∀ z ∈ zs, 0 ≤ z ∧ z < 256) : ci (nb zs) = zs := by
  simp only [ci, nb, List.map_map]
  conv => rhs; rw [← List.map_id zs]
  apply List.map_congr_left
  intro z hz
  have := h z hz
  simp
  omega

theorem nb_ci (bs : List Nat) : nb (ci bs) = bs := by simp [nb, ci, Function.comp_def]

theorem nb_bytes {zs : List Int} (h : ∀ z ∈ zs, 0 ≤ z ∧ z < 256) : ∀ b ∈ nb zs, b < 256 := by
  intro b hb
  obtain ⟨z, hz, rfl⟩ := List.mem_map.1 hb
  have := h z hz
  omega

theorem ci_bd {bs : List Nat} (h : ∀ b ∈ bs, b < 256) : ∀ z ∈ ci bs, 0 ≤ z ∧ z < 256 := by
  intro z hz
  obtain ⟨b, hb, rfl⟩ := List.mem_map.1 hz
  have := h b hb
  omega

theorem rd8_nb {w : World} {ao : Option Addr} {n cap : Nat} {zs : List Int} (r : RdI w .u8 ao cap zs) (l : zs.length = n) (h : ∀ z ∈ zs, 0 ≤ z ∧ z < 256) : Rd8 w ao n cap (nb zs) :=
  ⟨by rw [ci_nb h]; exact r, by rw [nb_length]; exact l, nb_bytes h⟩

/-- The bytes of some objects, one behind the other. -/
def objsZ (cs : List (Nat × Nat)) : List Int := cs.flatMap fun c => valN c.1 c.2

theorem objsZ_length (cs : List (Nat × Nat)) : (objsZ cs).length = 16 * cs.length := by
  induction cs with
  | nil => rfl
  | cons c cs ih => simp only [objsZ, List.flatMap_cons, List.length_append, valN_length, List.length_cons] at *; omega

/-- The bytes of a page, without the sum. -/
def pageZ (l : Int) (cs : List (Nat × Nat)) : List Int := formsN [l] ++ objsZ cs

theorem pageZ_length (l : Int) (cs : List (Nat × Nat)) : (pageZ l cs).length = 3 + 16 * cs.length := by
  simp [pageZ, formsN_length, objsZ_length]

theorem pageZ_bd (l : Int) (cs : List (Nat × Nat)) : ∀ z ∈ pageZ l cs, 0 ≤ z ∧ z < 256 := by
  intro z hz
  simp only [pageZ, formsN, objsZ, valN, List.mem_append, List.mem_flatMap] at hz
  rcases hz with ⟨_, _, h⟩ | ⟨_, _, h | h⟩
  all_goals exact wrN_bd _ _ z h

theorem pageZ_snoc (l : Int) (cs : List (Nat × Nat)) (c : Nat × Nat) : pageZ l cs ++ valN c.1 c.2 = pageZ l (cs ++ [c]) := by
  simp [pageZ, objsZ, List.flatMap_append]

/-- The bytes of a page. -/
def pageN (l : Int) (a b c d : Nat × Nat) : List Nat := sealN (nb (pageZ l [a, b, c, d]))

theorem pageN_length (l : Int) (a b c d : Nat × Nat) : (pageN l a b c d).length = 69 := by
  simp [pageN, sealN_length, nb_length, pageZ_length]

/-- Both parts are words. -/
def wordB (c : Nat × Nat) : Prop := c.1 < 18446744073709551616 ∧ c.2 < 18446744073709551616

set_option maxHeartbeats 200000 in
theorem bytes_bad (l : Int) (a b c d : Nat × Nat) (w : World) (hl : lsnB l = false) :
    Calls Try.prog 86 #[pgV l a b c d] w fun e w' => e = .returned (.tuple #[.slice none 0 0, .int .i64 41]) ∧ Below w.heap.size w w' := by
  unfold pgV
  go_enter Try.func86, Try.ntmps86
  go_wp2_with (first
    | (go_at_call 54; refine (right_any l a b c d _).mono ?_; rintro e w1 ⟨rfl, hw⟩; subst w1))
  go_returns
  refine ⟨rfl, ?_⟩
  go_grown

set_option maxRecDepth 100000 in
/-- The objects of a page, one by one. -/
theorem idx4 (a b c d : Nat × Nat) (W : World) :
    (Instr.index 40 (.agg #[.complex .f64 a.1 a.2, .complex .f64 b.1 b.2, .complex .f64 c.1 c.2, .complex .f64 d.1 d.2]) (.int .i64 0)).run Try.prog W = .ok (.complex .f64 a.1 a.2) W ∧
    (Instr.index 40 (.agg #[.complex .f64 a.1 a.2, .complex .f64 b.1 b.2, .complex .f64 c.1 c.2, .complex .f64 d.1 d.2]) (.int .i64 1)).run Try.prog W = .ok (.complex .f64 b.1 b.2) W ∧
    (Instr.index 40 (.agg #[.complex .f64 a.1 a.2, .complex .f64 b.1 b.2, .complex .f64 c.1 c.2, .complex .f64 d.1 d.2]) (.int .i64 2)).run Try.prog W = .ok (.complex .f64 c.1 c.2) W ∧
    (Instr.index 40 (.agg #[.complex .f64 a.1 a.2, .complex .f64 b.1 b.2, .complex .f64 c.1 c.2, .complex .f64 d.1 d.2]) (.int .i64 3)).run Try.prog W = .ok (.complex .f64 d.1 d.2) W := by
  refine ⟨?_, ?_, ?_, ?_⟩
  all_goals rfl

theorem nums_three (w : World) (o1 o2 : Obj) (l : Int) (hl : 0 ≤ l ∧ l ≤ 16777215) :
    Calls Try.prog 66 #[.slice (some ⟨w.heap.size + 1 + 1, 0, none⟩) 1 1] (((w.alloc o1).alloc o2).alloc (.cells #[.int .i64 l] 3)) fun e w' => ∃ ao cap, e = .returned (.tuple #[.slice ao 3 cap, .int .i64 0]) ∧
      OwnI w' w.heap.size 5 .u8 ao cap (formsN [l]) ∧ Below (w.heap.size + 1) (w.alloc o1) w' := by
  have hs : ((w.alloc o1).alloc o2).heap.size = w.heap.size + 1 + 1 := by simp
  have hr := RdI.one ((w.alloc o1).alloc o2) 3 .i64 l
  rw [hs] at hr
  refine (nums_good _ 1 1 [l] _ hr rfl (by omega) (by intro z hz; simp at hz; subst hz; exact hl)).mono ?_
  rintro e w2 ⟨ao2, cap2, rfl, ho2, hb2⟩
  have hs3 : (((w.alloc o1).alloc o2).alloc (.cells #[.int .i64 l] 3)).heap.size = w.heap.size + 1 + 1 + 1 := by simp
  rw [hs3] at ho2 hb2
  refine ⟨_, _, rfl, ho2.mono (by omega), ?_⟩
  have hb0 : Below (w.heap.size + 1) (w.alloc o1) (((w.alloc o1).alloc o2).alloc (.cells #[.int .i64 l] 3)) := ((Below.refl _ _).alloc (by simp) _).alloc (by simp) _
  exact hb0.trans (hb2.mono (by omega))

set_option maxHeartbeats 400000 in
theorem bytes_ok (l : Int) (x0 x1 x2 x3 : Nat × Nat) (w : World) (hl : lsnB l = true) (h0 : wordB x0) (h1 : wordB x1) (h2 : wordB x2) (h3 : wordB x3) :
    Calls Try.prog 86 #[pgV l x0 x1 x2 x3] w fun e w' => ∃ ao cap, e = .returned (.tuple #[.slice ao 69 cap, .int .i64 0]) ∧ Own8 w' w.heap.size ao 69 cap (pageN l x0 x1 x2 x3) ∧ Below w.heap.size w w' := by
  have hl2 : Hid (0 ≤ l ∧ l ≤ 16777215) := show 0 ≤ l ∧ l ≤ 16777215 from by simpa [lsnB] using hl
  have HW : Hid (wordB x0 ∧ wordB x1 ∧ wordB x2 ∧ wordB x3) := ⟨h0, h1, h2, h3⟩
  clear h0 h1 h2 h3
  unfold pgV
  go_enter Try.func86, Try.ntmps86
  go_wp2_with (first
    | (go_at_call 54; refine (right_any l x0 x1 x2 x3 _).mono ?_; rintro e w1 ⟨rfl, hw⟩; subst w1)
    | (go_at_call 66; with_reducible refine (nums_three w _ _ l hl2.out).mono ?_; rintro e w2 ⟨ao2, cap2, rfl, ho2, hb2⟩; have hp := (PgAt.new w l x0 x1 x2 x3).below hb2 (Nat.lt_succ_self _); have q1 := hp.c1; have q2 := hp.c2; have q3 := hp.c3; have q4 := hp.c4; clear hp))
  have hB2 : Below w.heap.size w w2 := ((Below.refl _ _).alloc (Nat.le_refl _) _).trans (hb2.mono (by omega))
  have ho2' : OwnI w2 w.heap.size 5 .u8 ao2 cap2 (pageZ l []) := by rw [show pageZ l [] = formsN [l] by simp [pageZ, objsZ]]; exact ho2
  clear q1 q2 q3 q4 hb2 ho2
  go_loopw [4, 20] (fun t i wr => ∃ (k : Nat) (a : Option Addr) (c : Nat), k ≤ 4 ∧ i = .int .i64 k ∧ t = .slice a (3 + 16 * k) c ∧ OwnI wr w.heap.size 5 .u8 a c (pageZ l ([x0, x1, x2, x3].take k)) ∧ Below w.heap.size w wr) (fun _ i _ => 4 - (intOf i).toNat)
  case atStart => exact ⟨0, _, _, Nat.zero_le _, rfl, rfl, ho2', hB2⟩
  case round =>
    obtain ⟨k, a, c, hk, rfl, rfl, ho, hbel⟩ := hrel
    clear ho2' hB2
    by_cases hlt : k < 4
    · obtain ⟨H0, H1, H2, H3⟩ := HW.out
      have hlen : (pageZ l ([x0, x1, x2, x3].take k)).length = 3 + 16 * k := by rw [pageZ_length, List.length_take]; simp; omega
      have HLEN : Hid ((pageZ l ([x0, x1, x2, x3].take k)).length = 3 + 16 * k) := hlen
      clear hlen
      obtain ⟨x, hx, HX, hnx⟩ : ∃ x, [x0, x1, x2, x3][k]? = some x ∧ wordB x ∧ pageZ l ([x0, x1, x2, x3].take k) ++ valN x.1 x.2 = pageZ l ([x0, x1, x2, x3].take (k + 1)) := by
        refine ⟨[x0, x1, x2, x3][k], List.getElem?_eq_getElem _, ?_, ?_⟩
        · obtain rfl | rfl | rfl | rfl : k = 0 ∨ k = 1 ∨ k = 2 ∨ k = 3 := by omega
          all_goals assumption
        · rw [pageZ_snoc, ← List.take_succ_eq_append_getElem (by simpa using hlt)]
      have HNX : Hid (pageZ l ([x0, x1, x2, x3].take k) ++ valN x.1 x.2 = pageZ l ([x0, x1, x2, x3].take (k + 1))) := hnx
      clear hnx H0 H1 H2 H3
      have hf1 := formN_lt x.1 HX.1
      have hf2 := formN_lt x.2 HX.2
      have HF : Hid (formN x.1 < 18446744073709551616 ∧ formN x.2 < 18446744073709551616) := ⟨hf1, hf2⟩
      clear hf1 hf2 HX
      obtain rfl | rfl | rfl | rfl : k = 0 ∨ k = 1 ∨ k = 2 ∨ k = 3 := by omega
      all_goals
        simp at hx
        subst x
        have hix := fun W : World => idx4 x0 x1 x2 x3 W
        simp only [forall_and] at hix
        obtain ⟨hi0, hi1, hi2, hi3⟩ := hix
        go_wp2_with (first
          | (go_at_call 67; refine (value_any _ _ _ HF.out.1 HF.out.2).mono ?_; rintro e w3 ⟨ao3, cap3, rfl, ho3, hb3⟩; have hB3 : Below w.heap.size w w3 := below_step hbel hb3)
          | (at_builtin; refine wpList_append_rdI _ rfl (.tmp 23) (.tmp 25) 56 rfl w.heap.size 5 .u8 (.int .u8 0) 1 Try.underlying56 info5 rfl rfl rfl (ho.below hb3) ho3.rd (by rw [HLEN.out]) (valN_length _ _) (by omega) (by unfold maxLen; omega) hB3.size ?_; intro ao4 cap4 w4 ho4 hb4))
        rw [HNX.out] at ho4
        go_roundw
        case rel => exact ⟨_, _, _, by omega, by go_num, rfl, ho4, hB3.trans hb4⟩
        case measure => simp [intOf]
    · have hk4 : k = 4 := by omega
      subst hk4
      have hbd := pageZ_bd l [x0, x1, x2, x3]
      have hln : (pageZ l [x0, x1, x2, x3]).length = 67 := pageZ_length _ _
      have hr : Rd8 wr a 67 c (nb (pageZ l [x0, x1, x2, x3])) := rd8_nb ho.rd hln hbd
      clear hbd hln
      go_wp2_with (first
        | (go_at_call 68; refine (seal_any _ _ _ _ _ hr (by omega)).mono ?_; rintro e w3 ⟨ao3, cap3, rfl, ho3, hb3⟩))
      go_returns
      exact ⟨_, _, rfl, ⟨ho3.own.mono hbel.size, ho3.len, ho3.byte⟩, below_step hbel hb3⟩

end Go.Proofs.Ythckdfggnmoaeaa
