/- What Open of package msg does, walked. -/
import Derived.Test.YtgeoeaadeemmcaaPa
namespace Go.Proofs.Ytgeoeaadeemmcaa
open Go.RowKit
set_option linter.unusedVariables false

/-- The packet that the first numbers tell. -/
def pk0 (bs : List Nat) : PkG := ⟨nAt (ci bs) 0, nAt (ci bs) 1, nAt (ci bs) 2, nAt (ci bs) 3, nAt (ci bs) 4, nAt (ci bs) 5 == 1, bs.drop 18⟩

/-- The packet of what a frame holds. -/
def pkOf (bs : List Nat) : Option PkG :=
  if bs.length < 18 then none
  else if isFlg (nAt (ci bs) 5) = false then none
  else if packB (pk0 bs) (bs.length - 18) = true then some (pk0 bs) else none

/-- Is the sum right? -/
def okB (fs : List Nat) : Bool := ofN (fs.take (fs.length - 2)) == fs.getD (fs.length - 2) 0 + 256 * fs.getD (fs.length - 1) 0

theorem okB_iff (fs : List Nat) : okB fs = true ↔ okN fs := by simp [okB, okN]

/-- The packet of a frame. -/
def openP (fs : List Nat) : Option PkG :=
  if fs.length < 2 then none
  else if okB fs = false then none
  else pkOf (fs.take (fs.length - 2))

abbrev pkN : PkG := ⟨0, 0, 0, 0, 0, false, []⟩

def outK (o : Option PkG) : PkG := o.getD pkN

def outF (o : Option PkG) : Int := if o.isSome then 0 else 101

/-- How Open may end. -/
def OpenR (fs : List Nat) (w : World) (x : Ending) (w' : World) : Prop :=
  ∃ a' n' c', x = .returned (.tuple #[pkV (outK (openP fs)) a' n' c', .int .i64 (outF (openP fs))]) ∧ Rd8 w' a' n' c' (outK (openP fs)).bs ∧ Below w.heap.size w w'

theorem openR_none {fs : List Nat} {w : World} {x : Ending} {w' : World} (hp : openP fs = none) (hx : x = .returned (.tuple #[pkV pkN none 0 0, .int .i64 101])) (hb : Below w.heap.size w w') : OpenR fs w x w' :=
  ⟨none, 0, 0, by rw [hp]; exact hx, by rw [hp]; exact Rd8.empty _, hb⟩

theorem openR_some {fs : List Nat} {w : World} {x : Ending} {w' : World} {P : PkG} {a : Option Addr} {n c : Nat} (hp : openP fs = some P) (hx : x = .returned (.tuple #[pkV P a n c, .int .i64 0])) (hr : Rd8 w' a n c P.bs) (hb : Below w.heap.size w w') : OpenR fs w x w' :=
  ⟨a, n, c, by rw [hp]; exact hx, by rw [hp]; exact hr, hb⟩

theorem crcOpen_no (ao : Option Addr) (n cap : Nat) (fs : List Nat) (w : World) (h : Rd8 w ao n cap fs) (hn : n ≤ 140737488355328) (hno : fs.length < 2 ∨ okB fs = false) :
    Calls Try.prog 37 #[.slice ao n cap] w fun e w' => e = .returned (.tuple #[.slice none 0 0, .int .i64 31]) ∧ Below w.heap.size w w' := by
  have hl := h.len
  by_cases h2 : n < 2
  · exact (open_short ao n cap w h2).mono fun e w' he => ⟨he.1, by rw [he.2]; exact Below.refl _ _⟩
  · refine open_bad ao (n - 2) n cap fs w h (by omega) hn (fun hk => ?_)
    rcases hno with h1 | h1
    · omega
    · rw [(okB_iff fs).2 hk] at h1; cases h1

theorem get6 (zs : List Int) : getN zs 6 = [nAt zs 0, nAt zs 1, nAt zs 2, nAt zs 3, nAt zs 4, nAt zs 5] := by simp [getN, List.range_succ, nAt]

theorem get_six (ao : Option Addr) (cap n m : Nat) (zs : List Int) (w : World) (hrd : RdI w .u8 ao cap zs) (hn : zs.length = n) (hb : ∀ z ∈ zs, 0 ≤ z ∧ z < 256) (h6 : 18 ≤ n) (hm : n - 18 = m) (hlen : n ≤ 140737488355328) :
    Calls Try.prog 22 #[.slice ao n cap, .int .i64 6] w fun e w' => ∃ b f c1 a2 c2, e = .returned (.tuple #[.slice (some ⟨b, f, none⟩) 6 c1, .slice a2 m c2, .int .i64 0]) ∧
      (w.heap.size ≤ b ∧ b < w'.heap.size) ∧ w'.cell? ⟨b, f, none⟩ = some (.int .i64 (nAt zs 0)) ∧ w'.cell? ⟨b, f + 1, none⟩ = some (.int .i64 (nAt zs 1)) ∧ w'.cell? ⟨b, f + 2, none⟩ = some (.int .i64 (nAt zs 2)) ∧ w'.cell? ⟨b, f + 3, none⟩ = some (.int .i64 (nAt zs 3)) ∧ w'.cell? ⟨b, f + 4, none⟩ = some (.int .i64 (nAt zs 4)) ∧ w'.cell? ⟨b, f + 5, none⟩ = some (.int .i64 (nAt zs 5)) ∧
      OwnI w' w.heap.size 5 .u8 a2 c2 (zs.drop 18) ∧ Below w.heap.size w w' := by
  subst hm
  refine (get_good ao cap n 6 zs w hrd hn hb (by omega) (by omega) hlen).mono ?_
  rintro e w' ⟨a1, c1, a2, c2, rfl, h1, h2, h3⟩
  rw [get6] at h1
  obtain ⟨b, f, rfl, hlt, hc⟩ := h1.rd.at (t := 0) (by simp)
  exact ⟨b, f, c1, a2, c2, rfl, ⟨(h1.blk _ rfl).1, hlt⟩, hc 0 (by simp), hc 1 (by simp), hc 2 (by simp), hc 3 (by simp), hc 4 (by simp), hc 5 (by simp), h2, h3⟩

set_option maxHeartbeats 400000 in
theorem open_1 (ao : Option Addr) (n cap : Nat) (fs : List Nat) (w : World) (h : Rd8 w ao n cap fs) (hn : n ≤ 140737488355328) (hno : fs.length < 2 ∨ okB fs = false) :
    Calls Try.prog 13 #[.slice ao n cap] w (OpenR fs w) := by
  have HP : Hid (openP fs = none) := by
    rw [Hid, openP]
    by_cases h2 : fs.length < 2
    · rw [if_pos h2]
    · rw [if_neg h2, if_pos (hno.resolve_left h2)]
  have h2 := h.alloc (pkO pkN none 0 0)
  have hM0 := PkAt.new w pkN none 0 0
  have HNO : Hid _ := hno
  clear hno h
  go_enter Try.func13, Try.ntmps13
  go_wp2_with (first
    | (go_at_call 37; refine (crcOpen_no _ _ _ fs _ h2 hn HNO.out).mono ?_; rintro x w1 ⟨rfl, hb1⟩; have tZ := hM0.below hb1; have z0 : w1.cell? ⟨w.heap.size, 0, none⟩ = some (.int .i64 0) := tZ.c0; have z1 : w1.cell? ⟨w.heap.size, 1, none⟩ = some (.int .i64 0) := tZ.c1; have z2 : w1.cell? ⟨w.heap.size, 2, none⟩ = some (.int .i64 0) := tZ.c2; have z3 : w1.cell? ⟨w.heap.size, 3, none⟩ = some (.int .i64 0) := tZ.c3; have z4 : w1.cell? ⟨w.heap.size, 4, none⟩ = some (.int .i64 0) := tZ.c4; have z5 : w1.cell? ⟨w.heap.size, 5, none⟩ = some (.bool false) := tZ.c5; have z6 : w1.cell? ⟨w.heap.size, 6, none⟩ = some (.slice none 0 0) := tZ.c6; have yz := tZ.fz; clear tZ)
    | (fail))
  refine bodyPost_ret (by simp [results, Try.results13, go_sem, z0, z1, z2, z3, z4, z5, z6]; try rfl) rfl ?_
  have le := Nat.le_refl w.heap.size
  have hB : Below w.heap.size w w1 := below_alloc (hb1.mono (by simp))
  exact openR_none HP.out rfl (((((((hB.setCell le _).setCell le _).setCell le _).setCell le _).setCell le _).setCell le _).setCell le _)

set_option maxHeartbeats 800000 in
set_option maxRecDepth 100000 in
theorem open_2 (ao : Option Addr) (n cap m : Nat) (fs bs : List Nat) (zs : List Int) (w : World) (h : Rd8 w ao n cap fs) (hn : n ≤ 140737488355328) (hn2 : n = m + 2) (hok : okB fs = true) (hbs : fs.take m = bs) (hzs : zs = ci bs) (h18 : m < 18) :
    Calls Try.prog 13 #[.slice ao n cap] w (OpenR fs w) := by
  have h2 := h.alloc (pkO pkN none 0 0)
  have hM0 := PkAt.new w pkN none 0 0
  have hlf := h.len
  have HOK : Hid (okN fs) := (okB_iff fs).1 hok
  have HBS : Hid (fs.take m = bs) := hbs
  have HOP : Hid (openP fs = pkOf bs) := by rw [Hid, openP, if_neg (by omega), if_neg (by rw [hok]; simp), show fs.length - 2 = m by omega, hbs]
  have HZB : Hid (∀ z ∈ zs, 0 ≤ z ∧ z < 256) := by
    rw [Hid, hzs]
    refine ci_bd fun x hx => h.byte x ?_
    rw [← hbs] at hx
    exact List.mem_of_mem_take hx
  have HZS : Hid (zs = ci bs) := hzs
  have hbl : bs.length = m := by rw [← hbs, List.length_take]; omega
  have HBL : Hid (bs.length = m) := hbl
  have HZL : Hid (zs.length = m) := by rw [Hid, hzs, ci_length]; exact hbl
  have HN2 : Hid (n = m + 2) := hn2
  clear h hok hbs hzs hn2 hlf hbl
  have HP : Hid (openP fs = none) := by rw [Hid, HOP.out, pkOf, if_pos (by have := HBL.out; omega)]
  go_enter Try.func13, Try.ntmps13
  go_wp2_with (first
    | (go_at_call 37; refine (open_ok _ m n _ fs _ h2 HN2.out hn HOK.out).mono ?_; rintro x w1 ⟨ao1, cap1, rfl, ho1', hb1⟩; rw [HBS.out] at ho1'; have ho1 : RdI w1 .u8 ao1 cap1 zs := (by rw [HZS.out]; exact ho1'.rd.rd); have tZ1 := hM0.below hb1; have HB1 : Hid (Below w.heap.size w w1) := below_alloc (hb1.mono (by simp)); have z0 : w1.cell? ⟨w.heap.size, 0, none⟩ = some (.int .i64 0) := tZ1.c0; have z1 : w1.cell? ⟨w.heap.size, 1, none⟩ = some (.int .i64 0) := tZ1.c1; have z2 : w1.cell? ⟨w.heap.size, 2, none⟩ = some (.int .i64 0) := tZ1.c2; have z3 : w1.cell? ⟨w.heap.size, 3, none⟩ = some (.int .i64 0) := tZ1.c3; have z4 : w1.cell? ⟨w.heap.size, 4, none⟩ = some (.int .i64 0) := tZ1.c4; have z5 : w1.cell? ⟨w.heap.size, 5, none⟩ = some (.bool false) := tZ1.c5; have z6 : w1.cell? ⟨w.heap.size, 6, none⟩ = some (.slice none 0 0) := tZ1.c6; have yz := tZ1.fz; clear ho1' hb1)
    | (go_at_call 22; refine (get_bad _ _ _ _ _ (by omega) (by omega)).mono ?_; rintro x w0 ⟨rfl, hw⟩; subst w0)
    | (fail))
  refine bodyPost_ret (by simp [results, Try.results13, go_sem, z0, z1, z2, z3, z4, z5, z6]; try rfl) rfl ?_
  have le := Nat.le_refl w.heap.size
  exact openR_none HP.out rfl (((((((HB1.out.setCell le _).setCell le _).setCell le _).setCell le _).setCell le _).setCell le _).setCell le _)

set_option maxHeartbeats 800000 in
set_option maxRecDepth 100000 in
theorem open_3 (ao : Option Addr) (n cap m : Nat) (fs bs : List Nat) (zs : List Int) (w : World) (h : Rd8 w ao n cap fs) (hn : n ≤ 140737488355328) (hn2 : n = m + 2) (hok : okB fs = true) (hbs : fs.take m = bs) (hzs : zs = ci bs) (h18 : 18 ≤ m) (hf : isFlg (nAt zs 5) = false) :
    Calls Try.prog 13 #[.slice ao n cap] w (OpenR fs w) := by
  have h2 := h.alloc (pkO pkN none 0 0)
  have hM0 := PkAt.new w pkN none 0 0
  have hlf := h.len
  have HOK : Hid (okN fs) := (okB_iff fs).1 hok
  have HBS : Hid (fs.take m = bs) := hbs
  have HOP : Hid (openP fs = pkOf bs) := by rw [Hid, openP, if_neg (by omega), if_neg (by rw [hok]; simp), show fs.length - 2 = m by omega, hbs]
  have HZB : Hid (∀ z ∈ zs, 0 ≤ z ∧ z < 256) := by
    rw [Hid, hzs]
    refine ci_bd fun x hx => h.byte x ?_
    rw [← hbs] at hx
    exact List.mem_of_mem_take hx
  have HZS : Hid (zs = ci bs) := hzs
  have hbl : bs.length = m := by rw [← hbs, List.length_take]; omega
  have HBL : Hid (bs.length = m) := hbl
  have HZL : Hid (zs.length = m) := by rw [Hid, hzs, ci_length]; exact hbl
  have HN2 : Hid (n = m + 2) := hn2
  clear h hok hbs hzs hn2 hlf hbl
  have HP : Hid (openP fs = none) := by rw [Hid, HOP.out, pkOf, if_neg (by have := HBL.out; omega), if_pos (by rw [← HZS.out]; exact hf)]
  go_enter Try.func13, Try.ntmps13
  go_wp2_with (first
    | (go_at_call 37; refine (open_ok _ m n _ fs _ h2 HN2.out hn HOK.out).mono ?_; rintro x w1 ⟨ao1, cap1, rfl, ho1', hb1⟩; rw [HBS.out] at ho1'; have ho1 : RdI w1 .u8 ao1 cap1 zs := (by rw [HZS.out]; exact ho1'.rd.rd); have tZ1 := hM0.below hb1; have HB1 : Hid (Below w.heap.size w w1) := below_alloc (hb1.mono (by simp)); have z0 : w1.cell? ⟨w.heap.size, 0, none⟩ = some (.int .i64 0) := tZ1.c0; have z1 : w1.cell? ⟨w.heap.size, 1, none⟩ = some (.int .i64 0) := tZ1.c1; have z2 : w1.cell? ⟨w.heap.size, 2, none⟩ = some (.int .i64 0) := tZ1.c2; have z3 : w1.cell? ⟨w.heap.size, 3, none⟩ = some (.int .i64 0) := tZ1.c3; have z4 : w1.cell? ⟨w.heap.size, 4, none⟩ = some (.int .i64 0) := tZ1.c4; have z5 : w1.cell? ⟨w.heap.size, 5, none⟩ = some (.bool false) := tZ1.c5; have z6 : w1.cell? ⟨w.heap.size, 6, none⟩ = some (.slice none 0 0) := tZ1.c6; have yz := tZ1.fz; clear ho1' hb1)
    | (go_at_call 22; refine (get_six _ _ m (m - 18) zs _ ho1 HZL.out HZB.out h18 rfl (by have := HN2.out; omega)).mono ?_; rintro x w2 ⟨b, f, c1, a2, c2, rfl, hbl, p0, p1, p2, p3, p4, p5, ho, hb2⟩; have tZ2 := tZ1.below hb2; clear z0 z1 z2 z3 z4 z5 z6 yz; have z0 : w2.cell? ⟨w.heap.size, 0, none⟩ = some (.int .i64 0) := tZ2.c0; have z1 : w2.cell? ⟨w.heap.size, 1, none⟩ = some (.int .i64 0) := tZ2.c1; have z2 : w2.cell? ⟨w.heap.size, 2, none⟩ = some (.int .i64 0) := tZ2.c2; have z3 : w2.cell? ⟨w.heap.size, 3, none⟩ = some (.int .i64 0) := tZ2.c3; have z4 : w2.cell? ⟨w.heap.size, 4, none⟩ = some (.int .i64 0) := tZ2.c4; have z5 : w2.cell? ⟨w.heap.size, 5, none⟩ = some (.bool false) := tZ2.c5; have z6 : w2.cell? ⟨w.heap.size, 6, none⟩ = some (.slice none 0 0) := tZ2.c6; have yz := tZ2.fz; have HB2 : Hid (Below w.heap.size w w2) := below_step HB1.out hb2; clear tZ1 hb2)
    | (go_at_call 23; refine (isFlag_any _ _).mono ?_; rw [hf]; rintro x w0 ⟨rfl, hw⟩; subst w0)
    | (fail))
  refine bodyPost_ret (by simp [results, Try.results13, go_sem, z0, z1, z2, z3, z4, z5, z6]; try rfl) rfl ?_
  have le := Nat.le_refl w.heap.size
  exact openR_none HP.out rfl (((((((HB2.out.setCell le _).setCell le _).setCell le _).setCell le _).setCell le _).setCell le _).setCell le _)

end Go.Proofs.Ytgeoeaadeemmcaa
