/- A store of zero pages: what the law asks of it, walked. -/
import Derived.Test.YthckdfggnmoaeaaQ9
namespace Go.Proofs.Ythckdfggnmoaeaa
open Go.RowKit
set_option linter.unusedVariables false

theorem commits0 {w : World} {B gs gp gf g gl gt : Nat} {V : Nat → Prop} {L : List Sec} {F : List Fr} {hd : Nat} {ao : Option Addr} {n cap : Nat} {s r last : Nat} (h : Sto w B gs gp gf g gl gt V L F hd ao n cap (rowN []) s r last) :
    Calls Try.prog 11 #[tp gs] w fun x w' => ∃ a c, x = .returned (.slice a 0 c) ∧ Below w.heap.size w w' := by
  have H1 : Hid (Calls Try.prog 14 #[tp gl] w fun x w' => ∃ v, x = .returned v ∧ Fnd w' w.heap.size v [] ∧ Below w.heap.size w w') := commits_log B gl gt ao n cap [] s r last w h.lg (by simp) chain0
  have h1 := h.st.c1
  go_enter Try.func11, Try.ntmps11
  go_wp2_with (first
    | (go_at_call 14; refine H1.out.mono ?_; rintro x w1 ⟨v, rfl, hF, hb⟩; obtain ⟨a, c, rfl, -⟩ := hF.shape)
    | (fail))
  go_ret
  exact ⟨a, c, rfl, hb⟩

/-- Pages of zeros, compared. -/
theorem eqPg (W : World) : (binOp .eql 42 (.agg #[.int .i64 0, .complex .f64 0 0, .complex .f64 0 0, .complex .f64 0 0, .complex .f64 0 0]) (.agg #[.int .i64 0, .complex .f64 0 0, .complex .f64 0 0, .complex .f64 0 0, .complex .f64 0 0])).run Try.prog W = .ok (.bool true) W := by kernel_rfl

/-- A page of zeros. -/
abbrev pg0 : Pg := ⟨0, zO, zO, zO, zO⟩

theorem map0 {w : World} {B gs gp gf g gl gt : Nat} {V : Nat → Prop} {ao : Option Addr} {n cap : Nat} {bs : List Nat} {s r last : Nat} (h : Sto w B gs gp gf g gl gt V (L0 2) [Fr.e] 0 ao n cap bs s r last) :
    Calls Try.prog 8 #[tp gs] w fun x w' => ∃ v, x = .returned (.tuple #[v, .int .i64 0]) ∧ Pgs w' w.heap.size v [pg0, pg0] ∧ Stays w w' B gs gp gf g gl gt (L0 2) [Fr.of 1 0 zO zO zO zO] 0 n bs s r last := by
  have hG : GetsAll gp gf g gl 2 (fun _ => pg0) (fun _ => L0 2) (fun k => if k = 0 then [Fr.e] else if k = 1 then [Fr.of 0 0 zO zO zO zO] else [Fr.of 1 0 zO zO zO zO]) (fun _ => 0) := by
    intro k hk W V' hS hv
    obtain rfl | rfl : k = 0 ∨ k = 1 := by omega
    · exact gets_new hS hv 0 (by simp) (L0_at 2 0 (by simp)) (by simp)
    · exact gets_over hS hv 1 (by simp) (L0_at 2 1 (by simp)) (by decide) rfl rfl rfl rfl
  refine (map_store gs gp gf g gl 2 (fun _ => pg0) (fun _ => L0 2) _ (fun _ => 0) V w h.st h.apart h.pd h.v (by simp) hG).mono ?_
  rintro x w' ⟨v, rfl, hP, hl⟩
  obtain ⟨⟨V', h1⟩, h2, -⟩ := h.left hl
  exact ⟨v, rfl, hP, V', ao, cap, h1, h2⟩

set_option maxRecDepth 100000 in
set_option maxHeartbeats 3200000 in
theorem names_any (w : World) : Calls Try.prog 3 #[] w fun e w' => e = .returned (.bool true) ∧ Below w.heap.size w w' := by
  have hst := fun (ad : Addr) (re im : Nat) (W : World) => run_store Try.prog W ad (.complex .f64 re im) .plain rfl
  have heq := eqPg
  go_enter Try.func3, Try.ntmps3
  go_wp2_with (first
    | (go_at_call 11; refine (commits0 hS6).mono ?_; rintro e w7 ⟨a7, c7, rfl, hb7⟩)
    | (go_at_call 10; refine (last1 hS6).mono ?_; rintro e w' ⟨rfl, hw⟩; subst w')
    | (go_at_call 9; refine (alive_any _).mono ?_; rintro e w6 ⟨rfl, hb6⟩; have hS6 := hS5.below hb6; obtain ⟨gv, cv, hvv, hgv, -, q0, q1, q2, q3, q4⟩ := (hP5.below hb6).at 1 (by simp); subst hvv)
    | (go_at_call 8; refine (map0 hS4).mono ?_; rintro e w5 ⟨v5, rfl, hP5, V5, ao5, cap5, hS5, hB5⟩)
    | (go_at_call 7; refine (commit_outside gs w1.heap.size gl gp V3 (L0 2) 0 1 1 _ 1 1 ⟨2, 0, zO⟩ [] _ (hS3.below (below_box w3 (wputO ⟨2, 0, zO⟩))).st (hS3.below (below_box w3 (wputO ⟨2, 0, zO⟩))).pd.d (put_rd w3 ⟨2, 0, zO⟩) (by simp) (by omega)).mono ?_; rintro e w4 ⟨rfl, hb4⟩; have hS4 := (hS3.below (below_box w3 (wputO ⟨2, 0, zO⟩))).below hb4)
    | (go_at_call 4; refine (op0 w.heap.size w1.heap.size w.heap.size (fun _ => False) 2 500 1 _ (hT1.below hb2) hD2 (fun k hk => hk.elim) ⟨⟨by have := HS1.out; omega, by have := HS1.out; omega, fun h => h⟩, fun a ha => by cases ha⟩ hb1.size (by omega) (by omega)).mono ?_; rintro e w3 ⟨gs, gp, gf, gl, rfl, ⟨V3, hS3'⟩, hB3⟩; have hS3 : Sto w3 w.heap.size gs gp gf w1.heap.size gl w.heap.size V3 (L0 2) [Fr.e] 0 none 0 0 (rowN []) 0 500 0 := hS3'; clear hS3')
    | (go_at_call 6; refine (snew_any 2 _).mono ?_; rintro e w2 ⟨rfl, hD, -, hb2⟩; have hD2 : Drv w2 w1.heap.size (fun _ => False) (L0 2) := hD (fun _ => False) (fun h => h); clear hD)
    | (go_at_call 5; refine (new_any 500 w).mono ?_; rintro e w1 ⟨rfl, hN, hs1, hb1⟩; have HS1 : Hid (w1.heap.size = w.heap.size + 1) := hs1; clear hs1; have hT1 : Tp w1 w.heap.size w.heap.size none 0 0 [] 0 500 := hN _ (Nat.le_refl _); clear hN)
    | fail)
  go_ret
  refine ⟨rfl, ?_⟩
  have hB2 : Below w.heap.size w w2 := below_step hb1 hb2
  have hB3' := hB2.trans hB3
  have hB4' : Below w.heap.size w w4 := (hB3'.alloc hB3'.size (wputO ⟨2, 0, zO⟩)).trans (hb4.mono (by have := hB3'.size; simp; omega))
  have hB5' := hB4'.trans hB5
  have hB6' := hB5'.trans (hb6.mono hB5'.size)
  exact hB6'.trans (hb7.mono hB6'.size)

end Go.Proofs.Ythckdfggnmoaeaa
