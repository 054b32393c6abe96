/- A net of which one lane alone has frames, each call as one contract; the chapter's example. -/
import Derived.Test.YtfllkhimlambhaaN5
import Derived.Lib.SlBytesConst
namespace Go.Proofs.Ytfllkhimlambhaa
open Go.RowKit
set_option linter.unusedVariables false
set_option maxRecDepth 8000

theorem upd_upd {α : Type} (f : Nat → α) (l : Nat) (x y : α) : upd (upd f l x) l y = upd f l y := by
  funext j
  unfold upd
  split <;> rfl
theorem upd_id {α : Type} (f : Nat → α) (l : Nat) : upd f l (f l) = f := by
  funext j
  unfold upd
  split
  · rename_i h; rw [h]
  · rfl

/-- The frames of one lane; the others have none. -/
def lnL (l : Nat) (L : List It) : Nat → List It := upd (fun _ => []) l L
theorem lnL_at (l : Nat) (L : List It) : lnL l L l = L := upd_same _ _ _
theorem lnL_nil (l : Nat) : lnL l [] = fun _ => [] := upd_id (fun _ => []) l

/-- A net from block B on. -/
def NL (B l g : Nat) (w : World) (L : List It) : Prop := Net w g (fun k => B ≤ k) (lnL l L) ∧ B ≤ w.heap.size

section
variable {w w' : World} {B l g : Nat} {L M : List It}
theorem NL.below (H : NL B l g w L) (hb : Below w.heap.size w w') : NL B l g w' L := ⟨H.1.below hb, Nat.le_trans H.2 hb.size⟩
theorem OffN.belowB {V : Nat → Prop} (h : OffN (fun k => B ≤ k) w w') (hB : B ≤ w.heap.size) : Below B w w' := h.off.below (fun _ h => h) hB
theorem NL.ned (H : NL B l g w L) {T : Nat → List It} (h : Ned w w' g (fun k => B ≤ k) T) (hT : T = lnL l M) : NL B l g w' M ∧ OffN (fun k => B ≤ k) w w' := by
  subst hT
  have hs := h.2.size
  exact ⟨⟨h.1.mono (by rintro k _ (h | h); exact h; exact Nat.le_trans H.2 h), Nat.le_trans H.2 hs⟩, h.2⟩

theorem newL (w : World) (l : Nat) : Calls Try.prog 8 #[] w fun e w' => e = .returned (np w.heap.size) ∧ NL w.heap.size l w.heap.size w' [] ∧ Below w.heap.size w w' := by
  refine (new_any w).mono ?_
  rintro e w' ⟨rfl, h1, h2⟩
  exact ⟨rfl, ⟨by rw [lnL_nil]; exact h1, h2.size⟩, h2⟩

theorem putL (H : NL B l g w L) (hl : l < 8) {ax : Option Addr} {m cx : Nat} {bs : List Nat} (hr : Rd8 w ax m cx bs) (hm : m ≤ 140737488355328) (hL : L.length < 200) {z : Int} (hz : z = (l : Int)) : Calls Try.prog 11 #[np g, .int .i64 z, .slice ax m cx] w fun e w' => e = .returned (.bool true) ∧ NL B l g w' (L ++ [(bs, false)]) ∧ OffN (fun k => B ≤ k) w w' := by
  subst hz
  refine (put_any H.1 (l : Int) ax m cx bs hr hm).mono ?_
  rintro e w' ⟨rfl, h⟩
  have h1 : putB (lnL l L) (l : Int) = true := by rw [putB_nat _ hl, lnL_at]; simpa using hL
  refine ⟨ret_bool h1, H.ned h ?_⟩
  unfold putT
  rw [if_pos h1, Int.toNat_natCast, lnL_at]
  exact upd_upd _ _ _ _
theorem putL_no (H : NL B l g w L) (hl : l < 8) {ax : Option Addr} {m cx : Nat} {bs : List Nat} (hr : Rd8 w ax m cx bs) (hm : m ≤ 140737488355328) (hL : ¬ L.length < 200) {z : Int} (hz : z = (l : Int)) : Calls Try.prog 11 #[np g, .int .i64 z, .slice ax m cx] w fun e w' => e = .returned (.bool false) ∧ NL B l g w' L ∧ OffN (fun k => B ≤ k) w w' := by
  subst hz
  refine (put_any H.1 (l : Int) ax m cx bs hr hm).mono ?_
  rintro e w' ⟨rfl, h⟩
  have h1 : putB (lnL l L) (l : Int) = false := by rw [putB_nat _ hl, lnL_at]; simpa using hL
  refine ⟨ret_bool h1, H.ned h ?_⟩
  unfold putT
  rw [h1]
  rfl
theorem lenL (H : NL B l g w L) (hl : l < 8) {z : Int} (hz : z = (l : Int)) : Calls Try.prog 12 #[np g, .int .i64 z] w fun e w' => e = .returned (.int .i64 (L.length : Int)) ∧ w' = w := by
  subst hz
  refine (len_any H.1 (l : Int)).mono ?_
  rintro e w' ⟨rfl, h⟩
  exact ⟨ret_int (by rw [lenZ_nat _ hl, lnL_at]), h⟩
theorem lenL_other (H : NL B l g w L) (j : Nat) (hj : j < 8) (hne : j ≠ l) : Calls Try.prog 12 #[np g, .int .i64 (j : Int)] w fun e w' => e = .returned (.int .i64 0) ∧ w' = w := by
  refine (len_any H.1 (j : Int)).mono ?_
  rintro e w' ⟨rfl, h⟩
  exact ⟨ret_int (by rw [lenZ_nat _ hj]; unfold lnL; rw [upd_other _ _ hne]; rfl), h⟩

theorem takeL (H : NL B l g w L) (hl : l < 8) {x : It} {M : List It} (hL : L = x :: M) {z : Int} (hz : z = (l : Int)) : Calls Try.prog 14 #[np g, .int .i64 z, .int .i64 0] w fun e w' => ∃ y : Fv, e = .returned (.tuple #[.slice y.ao y.n y.cap, .bool true]) ∧ y.it = x ∧ Fb w' (fun k => B ≤ k) y ∧ NL B l g w' M ∧ OffN (fun k => B ≤ k) w w' := by
  subst hz
  subst hL
  refine (take_yes H.1 l hl 0 (by rw [lnL_at]; simp)).mono ?_
  rintro e w' ⟨y, rfl, h1, h2, h3⟩
  rw [lnL_at] at h1
  refine ⟨y, rfl, by simpa using h1.symm, h2.off (.refl (fun _ => False) _), H.ned h3 ?_⟩
  rw [lnL_at]
  exact upd_upd _ _ _ _
theorem takeL_no (H : NL B l g w []) (i : Int) {z : Int} (hz : z = (l : Int)) : Calls Try.prog 14 #[np g, .int .i64 z, .int .i64 i] w fun e w' => e = .returned (.tuple #[.slice none 0 0, .bool false]) ∧ w' = w := by
  subst hz
  refine take_no H.1 _ _ ?_
  unfold hasB lenZ
  rw [lnL_nil]
  simp

theorem doubleL (H : NL B l g w L) (hl : l < 8) (k : Nat) (hk : k < L.length) (hL : L.length < 200) {z : Int} (hz : z = (l : Int)) {y : Int} (hy : y = (k : Int)) : Calls Try.prog 16 #[np g, .int .i64 z, .int .i64 y] w fun e w' => e = .returned (.bool true) ∧ NL B l g w' (L ++ [itAt L k]) ∧ OffN (fun k => B ≤ k) w w' := by
  subst hz hy
  refine (double_yes H.1 l hl k (by rw [lnL_at]; exact hk)).mono ?_
  rintro e w' ⟨rfl, h⟩
  have h1 : putB (lnL l L) (l : Int) = true := by rw [putB_nat _ hl, lnL_at]; simpa using hL
  refine ⟨ret_bool h1, H.ned h ?_⟩
  unfold putT
  rw [if_pos h1, Int.toNat_natCast, lnL_at]
  exact upd_upd _ _ _ _
theorem doubleL_full (H : NL B l g w L) (hl : l < 8) (k : Nat) (hk : k < L.length) (hL : ¬ L.length < 200) {z : Int} (hz : z = (l : Int)) {y : Int} (hy : y = (k : Int)) : Calls Try.prog 16 #[np g, .int .i64 z, .int .i64 y] w fun e w' => e = .returned (.bool false) ∧ NL B l g w' L ∧ OffN (fun k => B ≤ k) w w' := by
  subst hz hy
  refine (double_yes H.1 l hl k (by rw [lnL_at]; exact hk)).mono ?_
  rintro e w' ⟨rfl, h⟩
  have h1 : putB (lnL l L) (l : Int) = false := by rw [putB_nat _ hl, lnL_at]; simpa using hL
  refine ⟨ret_bool h1, H.ned h ?_⟩
  unfold putT
  rw [h1]
  rfl
theorem lateL (H : NL B l g w L) (hl : l < 8) (k : Nat) (hk : k < L.length) {z : Int} (hz : z = (l : Int)) {y : Int} (hy : y = (k : Int)) : Calls Try.prog 18 #[np g, .int .i64 z, .int .i64 y] w fun e w' => e = .returned (.bool true) ∧ NL B l g w' (outL L k ++ [itAt L k]) ∧ OffN (fun k => B ≤ k) w w' := by
  subst hz hy
  refine (late_yes H.1 l hl k (by rw [lnL_at]; exact hk)).mono ?_
  rintro e w' ⟨rfl, h⟩
  refine ⟨rfl, H.ned h ?_⟩
  unfold lateT
  rw [lnL_at]
  exact upd_upd _ _ _ _
theorem hasL_no (hl : l < 8) {i : Int} (hi : ¬ (0 ≤ i ∧ i < (L.length : Int))) : hasB (lnL l L) (l : Int) i = false := by
  unfold hasB
  rw [lenZ_nat _ hl, lnL_at]
  simpa using hi
theorem lateL_no (H : NL B l g w L) (hl : l < 8) {i : Int} (hi : ¬ (0 ≤ i ∧ i < (L.length : Int))) {z : Int} (hz : z = (l : Int)) : Calls Try.prog 18 #[np g, .int .i64 z, .int .i64 i] w fun e w' => e = .returned (.bool false) ∧ w' = w := by
  subst hz
  exact late_no H.1 _ _ (hasL_no hl hi)
theorem doubleL_no (H : NL B l g w L) (hl : l < 8) {i : Int} (hi : ¬ (0 ≤ i ∧ i < (L.length : Int))) {z : Int} (hz : z = (l : Int)) : Calls Try.prog 16 #[np g, .int .i64 z, .int .i64 i] w fun e w' => e = .returned (.bool false) ∧ w' = w := by
  subst hz
  exact double_no H.1 _ _ (hasL_no hl hi)

theorem spoilL (H : NL B l g w L) (hl : l < 8) {x : It} {M : List It} (hL : L = x :: M) (p m : Nat) (hm : m < 65536) (hp : p ≤ 1000) (b : Bool) (hb : spB L 0 (p : Int) m = b) (L2 : List It) (h2 : (if b then (brI x (p : Int) m, true) :: M else L) = L2) {z : Int} (hz : z = (l : Int)) {y : Int} (hy : y = (p : Int)) {u : Int} (hu : u = (m : Int)) : Calls Try.prog 20 #[np g, .int .i64 z, .int .i64 0, .int .i64 y, .int .u16 u] w fun e w' => e = .returned (.bool b) ∧ NL B l g w' L2 ∧ OffN (fun k => B ≤ k) w w' := by
  subst hz hy hu
  refine (spoil_yes H.1 l hl 0 (by rw [lnL_at, hL]; simp) (p : Int) m hm (by omega) (by omega)).mono ?_
  rintro e w' ⟨rfl, h⟩
  refine ⟨ret_bool (by rw [lnL_at]; exact hb), H.ned h ?_⟩
  subst h2
  unfold spT
  rw [lnL_at, hb]
  cases b with
  | false => rfl
  | true =>
    subst hL
    exact upd_upd _ _ _ _
theorem spoilL_yes (H : NL B l g w L) (hl : l < 8) {x : It} {M : List It} (hL : L = x :: M) (p m : Nat) (hm : m < 65536) (hp : p ≤ 1000) (hb : spB L 0 (p : Int) m = true) {bs2 : List Nat} (h2 : brI x (p : Int) m = bs2) {z : Int} (hz : z = (l : Int)) {y : Int} (hy : y = (p : Int)) {u : Int} (hu : u = (m : Int)) : Calls Try.prog 20 #[np g, .int .i64 z, .int .i64 0, .int .i64 y, .int .u16 u] w fun e w' => e = .returned (.bool true) ∧ NL B l g w' ((bs2, true) :: M) ∧ OffN (fun k => B ≤ k) w w' := by
  subst h2
  exact spoilL H hl hL p m hm hp true hb _ rfl hz hy hu
theorem spoilL_no (H : NL B l g w L) (hl : l < 8) {x : It} {M : List It} (hL : L = x :: M) (p m : Nat) (hm : m < 65536) (hp : p ≤ 1000) (hb : spB L 0 (p : Int) m = false) {z : Int} (hz : z = (l : Int)) {y : Int} (hy : y = (p : Int)) {u : Int} (hu : u = (m : Int)) : Calls Try.prog 20 #[np g, .int .i64 z, .int .i64 0, .int .i64 y, .int .u16 u] w fun e w' => e = .returned (.bool false) ∧ NL B l g w' L ∧ OffN (fun k => B ≤ k) w w' :=
  spoilL H hl hL p m hm hp false hb _ rfl hz hy hu
end

theorem Rd8.marked (w : World) (xs : Array Value) (n : Nat) (fr : Nat × Nat) (bs : List Nat) (hx : xs.toList = (ci bs).map (Value.int .u8)) (hn : bs.length = n) (hb : ∀ b ∈ bs, b < 256) (hm : n ≤ maxLen) : Rd8 (w.alloc (.cells xs 5 fr)) (some ⟨w.heap.size, 0, none⟩) n n bs := by
  refine ⟨⟨by simp [ci_length]; omega, hm, fun h => (by cases h), fun _ => ⟨w.heap.size, 0, rfl, by simp, fun t ht => ?_⟩⟩, hn, hb⟩
  have hh : (w.alloc (.cells xs 5 fr)).heap[w.heap.size]? = some (.cells xs 5 fr) := heap_alloc_new w _
  simp only [World.cell?, hh]
  have e1 : xs = ((ci bs).map (Value.int .u8)).toArray := by rw [← hx]
  subst e1
  simp only [List.length_map] at ht
  simp [ht]

/-- The string of bytes that are known. -/
theorem str_is (bs : List Nat) (s : List UInt8) (h : (strOfNums (ci bs)).toList = s) (y : Fv) {x : It} (e : y.it = x) (hx : x.1 = bs) : (strOfNums (ci y.bs)).toList = s := by subst e; rw [← h, ← hx]; rfl

set_option maxHeartbeats 1600000 in
theorem alive_any (w : World) : Calls Try.prog 9 #[] w fun e w' => e = .returned (.bool true) ∧ Below w.heap.size w w' := by
  have HB : Hid (∀ (U U' : World), w.heap.size ≤ U.heap.size → OffN (fun k => w.heap.size ≤ k) U U' → Below w.heap.size U U') := fun U U' hs h => h.off.below (fun _ h => h) hs
  have s1 : spB [([98], false), ([97], false)] 0 ((0 : Nat) : Int) 1 = true := by kernel_rfl
  have s2 : brI ([98], false) ((0 : Nat) : Int) 1 = [99] := by kernel_rfl
  have s3 : spB [([99], true), ([97], false)] 0 ((0 : Nat) : Int) 1 = false := by kernel_rfl
  have HS : Hid (spB [([98], false), ([97], false)] 0 ((0 : Nat) : Int) 1 = true ∧ spB [([99], true), ([97], false)] 0 ((0 : Nat) : Int) 1 = false ∧ brI ([98], false) ((0 : Nat) : Int) 1 = [99]) := ⟨s1, s3, s2⟩
  clear s1 s2 s3
  have t1 : (strOfNums (ci [99])).toList = [99] := by decide +kernel
  have t2 : (strOfNums (ci [97])).toList = [97] := by decide +kernel
  have HTT : Hid ((strOfNums (ci [99])).toList = [99] ∧ (strOfNums (ci [97])).toList = [97]) := ⟨t1, t2⟩
  clear t1 t2
  obtain ⟨g, hg⟩ : ∃ g, w.heap.size = g := ⟨_, rfl⟩
  have HNew : Hid (Calls Try.prog 8 #[] w fun e w' => e = .returned (np g) ∧ Hid (NL g 3 g w' [] ∧ Below g w w')) := by
    have := newL w 3
    rw [hg] at this
    exact this
  have HG : Hid (w.heap.size = g) := hg
  clear hg
  go_enter Try.func9, Try.ntmps9
  go_wp2_with (first
    | (go_at_call 10; refine (lane_any _ _ _).mono ?_; rintro e w9 ⟨rfl, hw9⟩; subst w9)
    | (go_at_call 12; refine (lenL (l := 3) HN8.out.1 (by decide) (by decide)).mono ?_; rintro e w10 ⟨rfl, hw10⟩; subst w10)
    | (go_at_call 14; (with_reducible refine (takeL (l := 3) HN7.out.1 (by decide) rfl (by decide)).mono ?_); rintro e w8 ⟨y2, rfl, hy2, hfy2, hn8, ho8⟩; have HN8 : Hid (NL g 3 g w8 [] ∧ Below g w w8 ∧ y2.it = ([97], false) ∧ Fb w8 (fun k => g ≤ k) y2) := ⟨hn8, HN7.out.2.1.trans (ho8.off.below (fun _ h => h) HN7.out.1.2), hy2, hfy2⟩; have r1 := (HN7.out.2.2.2.off ho8).rd.str; have r2 := hfy2.rd.str; have q1 := str_is [99] _ HTT.out.1 y1 HN7.out.2.2.1 rfl; have q2 := str_is [97] _ HTT.out.2 y2 hy2 rfl; clear hn8 ho8 hy2 hfy2)
    | (go_at_call 14; (with_reducible refine (takeL (l := 3) HN6.out.1 (by decide) rfl (by decide)).mono ?_); rintro e w7 ⟨y1, rfl, hy1, hfy1, hn7, ho7⟩; have HN7 : Hid (NL g 3 g w7 [([97], false)] ∧ Below g w w7 ∧ y1.it = ([99], true) ∧ Fb w7 (fun k => g ≤ k) y1) := ⟨hn7, HN6.out.2.trans (ho7.off.below (fun _ h => h) HN6.out.1.2), hy1, hfy1⟩; clear hn7 ho7 hy1 hfy1)
    | (go_at_call 20; (with_reducible refine (spoilL_no (l := 3) HN5.out.1 (by decide) rfl 0 1 (by decide) (by decide) HS.out.2.1 (by decide) (by decide) (by decide)).mono ?_); rintro e w6 ⟨rfl, hn6, ho6⟩; have HN6 : Hid (NL g 3 g w6 [([99], true), ([97], false)] ∧ Below g w w6) := ⟨hn6, HN5.out.2.trans (ho6.off.below (fun _ h => h) HN5.out.1.2)⟩; clear hn6 ho6)
    | (go_at_call 20; (with_reducible refine (spoilL_yes (l := 3) HN4.out.1 (by decide) rfl 0 1 (by decide) (by decide) HS.out.1 HS.out.2.2 (by decide) (by decide) (by decide)).mono ?_); rintro e w5 ⟨rfl, hn5, ho5⟩; have HN5 : Hid (NL g 3 g w5 [([99], true), ([97], false)] ∧ Below g w w5) := ⟨hn5, HN4.out.2.trans (ho5.off.below (fun _ h => h) HN4.out.1.2)⟩; clear hn5 ho5)
    | (go_at_call 18; (with_reducible refine (lateL (l := 3) HN3.out.1 (by decide) 0 (by decide) (by decide) (by decide)).mono ?_); rintro e w4 ⟨rfl, hn4, ho4⟩; have HN4 : Hid (NL g 3 g w4 [([98], false), ([97], false)] ∧ Below g w w4) := ⟨hn4, HN3.out.2.trans (ho4.off.below (fun _ h => h) HN3.out.1.2)⟩; clear hn4 ho4)
    | (go_at_call 11; (with_reducible refine (putL (l := 3) (L := [([97], false)]) (bs := [98]) (HN2.out.1.below ((Below.refl _ _).alloc (Nat.le_refl _) (.cells #[.int .u8 98] 5 (1, 2)))) (by decide) (Rd8.marked w2 _ 1 _ [98] rfl rfl (by decide) (by decide)) (by decide) (by decide) (by decide)).mono ?_); rintro e w3 ⟨rfl, hn3, ho3⟩; have HN3 : Hid (NL g 3 g w3 [([97], false), ([98], false)] ∧ Below g w w3) := ⟨hn3, HN2.out.2.trans (((Below.refl _ _).alloc HN2.out.1.2 _).trans (ho3.off.below (fun _ h => h) (HN2.out.1.below ((Below.refl _ _).alloc (Nat.le_refl _) (.cells #[.int .u8 98] 5 (1, 2)))).2))⟩; clear hn3 ho3)
    | (go_at_call 11; (with_reducible refine (putL (l := 3) (L := []) (bs := [97]) (HN1.out.1.below ((Below.refl _ _).alloc (Nat.le_refl _) (.cells #[.int .u8 97] 5 (1, 2)))) (by decide) (Rd8.marked w1 _ 1 _ [97] rfl rfl (by decide) (by decide)) (by decide) (by decide) (by decide)).mono ?_); rintro e w2 ⟨rfl, hn2, ho2⟩; have HN2 : Hid (NL g 3 g w2 [([97], false)] ∧ Below g w w2) := ⟨hn2, HN1.out.2.trans (((Below.refl _ _).alloc HN1.out.1.2 _).trans (ho2.off.below (fun _ h => h) (HN1.out.1.below ((Below.refl _ _).alloc (Nat.le_refl _) (.cells #[.int .u8 97] 5 (1, 2)))).2))⟩; clear hn2 ho2; have hcv2 := Go.Lib.run_convert_bytes_const (P := Try.prog) w2 33 5 #[.int .u8 98] 1 1 Try.underlying33 Try.underlying5)
    | (go_at_call 8; refine HNew.out.mono ?_; rintro e w1 ⟨rfl, HN1⟩; have hcv1 := Go.Lib.run_convert_bytes_const (P := Try.prog) w1 33 5 #[.int .u8 97] 1 1 Try.underlying33 Try.underlying5))
  go_ret
  exact ⟨rfl, by rw [HG.out]; exact HN8.out.2.1⟩

end Go.Proofs.Ytfllkhimlambhaa
