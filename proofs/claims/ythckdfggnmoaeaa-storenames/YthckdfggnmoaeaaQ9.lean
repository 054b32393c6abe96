/- The chapter's example, walked whole. -/
import Derived.Test.YthckdfggnmoaeaaQ8
namespace Go.Proofs.Ythckdfggnmoaeaa
open Go.RowKit
set_option linter.unusedVariables false

section
variable {w w' : World} {B gs gp gf g gl gt : Nat} {V : Nat → Prop} {L : List Sec} {F : List Fr} {hd : Nat} {ao : Option Addr} {n cap : Nat} {bs : List Nat} {s r last : Nat}

theorem Sto.apt (h : Sto w B gs gp gf g gl gt V L F hd ao n cap bs s r last) : Apt gt g V ao :=
  ⟨⟨fun e => h.ap gt (.inr (.inl rfl)) (.inr (.inr (.inl e))), fun e => h.ap gt (.inr (.inl rfl)) (.inr (.inr (.inr (.inl e)))), fun e => h.ap gt (.inr (.inl rfl)) (.inr (.inr (.inr (.inr e))))⟩,
   fun a ha => ⟨fun e => h.ap a.block (.inr (.inr ⟨a, ha, rfl⟩)) (.inr (.inr (.inl e))), fun e => h.ap a.block (.inr (.inr ⟨a, ha, rfl⟩)) (.inr (.inr (.inr (.inl e)))), fun e => h.ap a.block (.inr (.inr ⟨a, ha, rfl⟩)) (.inr (.inr (.inr (.inr e))))⟩⟩

/-- What turns of a tape is none of a drive. -/
theorem Drv.tape (h : Drv w g V L) (hA : Apt gt g V ao) (hO : Off2 gt ao w w') : Drv w' g V L :=
  h.kept ⟨hO.size, fun k hk hx => hO.block k hk (by intro e; subst e; rcases hx with hx | hx | hx; exact hA.t.2.2 hx; exact hA.t.1 hx; exact hA.t.2.1 hx) (fun a ha e => by subst e; rcases hx with hx | hx | hx; exact (hA.a a ha).2.2 hx; exact (hA.a a ha).1 hx; exact (hA.a a ha).2.1 hx)⟩

theorem Tp.drive (h : Tp w B gt ao n cap bs s r) (hA : Apt gt g V ao) (hO : Off g w w') : Tp w' B gt ao n cap bs s r :=
  h.keep hO.size (hO.block gt h.hd.lt hA.t.1) (fun a ha => hO.block _ (h.own.lt a ha) (hA.a a ha).1)
end

theorem crash2 {w : World} {g : Nat} {V : Nat → Prop} (h : Drv w g V (L0 3)) :
    Calls Try.prog 27 #[dp g, .int .i64 0] w fun e w' => e = .returned (.tuple #[]) ∧ Drv w' g V (L0 3) ∧ Off g w w' := by
  have := scrash_any g V (L0 3) 0 w h
  rw [L0_crash] at this
  exact this

theorem na_new {w : World} {B gs gp gf g gl gt : Nat} {V : Nat → Prop} {L : List Sec} {F : List Fr} {hd : Nat} {ao : Option Addr} {n cap : Nat} {bs : List Nat} {s r last : Nat} (h : Sto w B gs gp gf g gl gt V L F hd ao n cap bs s r last) : ∀ a, (some ⟨w.heap.size, 0, none⟩ : Option Addr) = some a → ¬ LgB gl gt ao a.block := by
  intro a ha
  cases ha
  exact (h.new _ (Nat.le_refl _)).2.1

set_option maxRecDepth 100000 in
set_option maxHeartbeats 3200000 in
theorem alive_any (w : World) : Calls Try.prog 9 #[] w fun e w' => e = .returned (.bool true) ∧ Below w.heap.size w w' := by
  have hst := fun (ad : Addr) (re im : Nat) (W : World) => run_store Try.prog W ad (.complex .f64 re im) .plain rfl
  have heq7 : ∀ W : World, (binOp .eql 32 (.complex .f64 4619567317775286272 0) (.complex .f64 4619567317775286272 0)).run Try.prog W = .ok (.bool true) W := fun W => by rfl
  have heq8 : ∀ W : World, (binOp .neq 32 (.complex .f64 4620693217682128896 0) (.complex .f64 4620693217682128896 0)).run Try.prog W = .ok (.bool false) W := fun W => by rfl
  go_enter Try.func9, Try.ntmps9
  go_wp2_with (first
    | (go_at_call 10; refine (last1 (hS14.below (below_box w14 (pgO 1 zO zO o7 zO)))).mono ?_; rintro e w' ⟨rfl, hw⟩; subst w')
    | (go_at_call 24; refine (page1 hS13 rfl).mono ?_; unfold pgV; rintro e w14 ⟨rfl, V14, ao14, cap14, hS14, hB14⟩)
    | (go_at_call 4; refine (op1 _ _ _ _ _ _ _ (hT11.drive hA10 hO12) hD12 (fun k hk => Nat.lt_of_lt_of_le (Nat.lt_of_lt_of_le (hS10.v k hk) hO11.size) hO12.size) hA10 hS10.b.2.2).mono ?_; rintro e w13 ⟨gs', gp', gf', gl', rfl, ⟨V13, hS13⟩, hB13⟩)
    | (go_at_call 27; refine (crash2 (hS10.pd.d.tape hA10 hO11)).mono ?_; rintro e w12 ⟨rfl, hD12, hO12⟩)
    | (go_at_call 26; refine (crash1 hS10.lg.t).mono ?_; rintro e w11 ⟨rfl, hT11, hO11, -⟩; have hA10 := hS10.apt)
    | (go_at_call 25; refine (dur1 (hS9.below (below_box w9 (pgO 2 zO zO o8 zO)))).mono ?_; rintro e w10 ⟨rfl, hb10⟩; have hS10 := (hS9.below (below_box w9 (pgO 2 zO zO o8 zO))).below hb10)
    | (go_at_call 24; refine (page1 hS8 rfl).mono ?_; unfold pgV; rintro e w9 ⟨rfl, V9, ao9, cap9, hS9, hB9⟩)
    | (go_at_call 7; refine (com2 (hS6.below hb7) _ hR7 (na_new hS6)).mono ?_; rintro e w8 ⟨rfl, V8, ao8, cap8, hS8, hB8⟩)
    | (go_at_call 22; refine (one_any o8 w6).mono ?_; rintro e w7 ⟨rfl, hR7, hb7⟩)
    | (go_at_call 23; refine (sync1 hS5).mono ?_; rintro e w6 ⟨rfl, V6, ao6, cap6, hS6, hB6⟩)
    | (go_at_call 7; refine (com1 (hS3.below hb4) (by intro y hy; simp only [List.mem_cons, List.not_mem_nil, or_false] at hy; subst hy; rfl) _ hR4 (na_new hS3)).mono ?_; rintro e w5 ⟨rfl, V5, ao5, cap5, hS5, hB5⟩)
    | (go_at_call 22; refine (one_any o7 w3).mono ?_; rintro e w4 ⟨rfl, hR4, hb4⟩)
    | (go_at_call 4; refine (op0 w.heap.size w1.heap.size w.heap.size (fun _ => False) 3 2000 2 _ (hT1.below hb2) hD2 (fun k hk => hk.elim) ⟨⟨by have := HS1.out; omega, by have := HS1.out; omega, fun h => h⟩, fun a ha => by cases ha⟩ hb1.size (by omega) (by omega)).mono ?_; rintro e w3 ⟨gs, gp, gf, gl, rfl, ⟨V3, hS3'⟩, hB3⟩; have hS3 : Sto w3 w.heap.size gs gp gf w1.heap.size gl w.heap.size V3 (L0 3) [Fr.e, Fr.e] 0 none 0 0 (rowN []) 0 2000 0 := hS3'; clear hS3')
    | (go_at_call 6; refine (snew_any 3 _).mono ?_; rintro e w2 ⟨rfl, hD, -, hb2⟩; have hD2 : Drv w2 w1.heap.size (fun _ => False) (L0 3) := hD (fun _ => False) (fun h => h); clear hD)
    | (go_at_call 5; refine (new_any 2000 w).mono ?_; rintro e w1 ⟨rfl, hN, hs1, hb1⟩; have HS1 : Hid (w1.heap.size = w.heap.size + 1) := hs1; clear hs1; have hT1 : Tp w1 w.heap.size w.heap.size none 0 0 [] 0 2000 := hN _ (Nat.le_refl _); clear hN)
    | fail)
  go_ret
  refine ⟨rfl, ?_⟩
  have hB2 : Below w.heap.size w w2 := below_step hb1 hb2
  have hs3 := (hB2.trans hB3).size
  have hB5' : Below w.heap.size w w5 := ((hB2.trans hB3).trans (hb4.mono hs3)).trans hB5
  have hB6' := hB5'.trans hB6
  have hB9' : Below w.heap.size w w9 := ((hB6'.trans (hb7.mono hB6'.size)).trans hB8).trans hB9
  have hB10' : Below w.heap.size w w10 := (hB9'.alloc hB9'.size (pgO 2 zO zO o8 zO)).trans (hb10.mono (by have := hB9'.size; simp; omega))
  have hB11' : Below w.heap.size w w11 := hB10'.trans (hS10.lg.t.belowB hO11)
  have hB12' : Below w.heap.size w w12 := hB11'.trans (hO12.below hS10.b.2.2 hB11'.size)
  have hB14' := (hB12'.trans hB13).trans hB14
  exact hB14'.alloc hB14'.size _

end Go.Proofs.Ythckdfggnmoaeaa
