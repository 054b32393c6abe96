/- Gets and Sets of pages: of one that isn't in a frame, of one that is; and the steps of the chapter's example. -/
import Derived.Test.YthckdfggnmoaeaaQ6
import Derived.Test.YthckdfggnmoaeaaQ7
namespace Go.Proofs.Ythckdfggnmoaeaa
open Go.RowKit
set_option linter.unusedVariables false

section
variable {w : World} {gp gf g gl : Nat} {V : Nat → Prop} {L L' : List Sec} {hd : Nat} {x x' : Fr}

theorem none_cons {T : List Fr} {n : Int} (h : x.has n = false) (hT : ∀ y ∈ T, y.has n = false) : ∀ j (hj : j < (x :: T).length), (x :: T)[j].has n = false := by
  intro j hj
  rcases List.mem_cons.1 (List.getElem_mem hj) with e | e
  · rw [e]; exact h
  · exact hT _ e

theorem gets_new {T : List Fr} (h : St w gp gf g gl V L (Fr.e :: T) hd) (hv : ∀ k, V k → k < w.heap.size) (n : Nat) (hn : n < L.length) (hb : L[n].b = []) (hT : ∀ y ∈ T, y.has (n : Int) = false) :
    Gets w gp gf g gl V (n : Int) 0 zO zO zO zO L (Fr.of (n : Int) 0 zO zO zO zO :: T) hd := by
  intro W hW
  have hX := h.below hW
  refine pool_get_ok gp gf g gl V L (Fr.of (n : Int) 0 zO zO zO zO :: T) hd (n : Int) 0 (by simp) W ⟨hX.p.lp, hX.p.lf, hX.d.lt⟩ (fun k hk => Nat.lt_of_lt_of_le (hv k hk) hW.size) ?_
  intro W1 h1
  have hY := hX.below h1
  exact load_new gp gf g gl V L L (Fr.e :: T) (Fr.e :: T) hd hd (n : Int) 0 zO zO zO zO 0 (by simp) W1 hY (none_cons rfl hT) (fun W2 h2 => fetch_empty gp gf g gl V L (Fr.e :: T) hd n W2 (hY.below h2) hn hb)
    (fun W2 h2 => (room_empty gp gf g gl (Fr.e :: T) hd 0 (by simp) W2 (hY.below h2).p (by intro j hj; omega) rfl).mono (by rintro e w' ⟨rfl, rfl⟩; exact ⟨rfl, V, hY.below h2, fun _ _ h => h, Off3.refl _ _ _ _⟩))

theorem loads_first {T : List Fr} (h : St w gp gf g gl V L (x :: T) hd) (n : Int) (hn : x.has n = true) : Loads w gp gf g gl V n 0 L (x.use :: T) hd := by
  intro W hW
  refine (load_hit gp gf g gl V L (x :: T) hd n 0 (by simp) W (h.below hW) (by intro j hj; omega) hn).mono ?_
  rintro e w' ⟨rfl, hs, hO⟩
  exact ⟨rfl, V, hs, fun _ _ h => h, hO⟩

theorem gets_hit {T : List Fr} (h : St w gp gf g gl V L (x :: T) hd) (hv : ∀ k, V k → k < w.heap.size) (n : Int) (hn : x.has n = true) :
    Gets w gp gf g gl V n x.l x.a x.b x.c x.d L (x.use :: T) hd := by
  intro W hW
  have hX := h.below hW
  exact pool_get_ok gp gf g gl V L (x.use :: T) hd n 0 (by simp) W ⟨hX.p.lp, hX.p.lf, hX.d.lt⟩ (fun k hk => Nat.lt_of_lt_of_le (hv k hk) hW.size) (loads_first hX n hn)

theorem sets_hit (gp gf g gl : Nat) (L : List Sec) (hd : Nat) (x : Fr) (T : List Fr) (n l : Int) (a b c d : Nat × Nat) (hn : x.has n = true) (hl : lsnB l = true) :
    Sets gp gf g gl n l a b c d L (x :: T) hd L ({ x with l := l, a := a, b := b, c := c, d := d, dr := true, us := true } :: T) hd := by
  intro W V h hv
  exact pool_set_ok gp gf g gl V L (x.use :: T) hd n 0 (by simp) l a b c d W ⟨h.p.lp, h.p.lf, h.d.lt⟩ hv hl (loads_first h n hn)

theorem none_one {n : Int} (h : x.has n = false) : ∀ j (hj : j < [x].length), [x][j].has n = false := none_cons h (by simp)

theorem loads_over (h : St w gp gf g gl V L [x] 0) (n : Nat) (hn : n < L.length) (hb : L[n].b = []) (hx : x.has (n : Int) = false) (hf : x.fl = true) (hp : x.pn = 0) (hu : x.us = true)
    (HF : ∀ W, St W gp gf g gl V L [x.un] 0 → Off3 gp gf g w W → Calls Try.prog 82 #[tp gp, fp gf 0] W fun e w' => e = .returned (.tuple #[]) ∧ ∃ V', St w' gp gf g gl V' L' [x'] 0 ∧ (∀ k, k < W.heap.size → V' k → V k) ∧ Off3 gp gf g W w') :
    Loads w gp gf g gl V (n : Int) 0 L' [Fr.of (n : Int) 0 zO zO zO zO] 0 := by
  intro W hW
  have hX := h.below hW
  refine load_new gp gf g gl V L L' [x] [x'] 0 0 (n : Int) 0 zO zO zO zO 0 (by simp) W hX (none_one hx) (fun W2 h2 => fetch_empty gp gf g gl V L [x] 0 n W2 (hX.below h2) hn hb) (fun W2 h2 => ?_)
  have hY := hX.below h2
  refine (room_full gp gf g gl x W2 hY.p hf (fun p w' => p = some ⟨gf, 0 * 10, none⟩ ∧ ∃ V', St w' gp gf g gl V' L' [x'] 0 ∧ (∀ k, k < W2.heap.size → V' k → V k) ∧ Off3 gp gf g W2 w') ((sweep_take gp gf g gl V L L' x x' W2 hY hp hu (fun W3 h3 hO3 => HF W3 h3 ((Off3.of_below (below_step hW h2)).trans hO3))).mono ?_)).mono ?_
  · rintro e w' ⟨rfl, h4⟩
    exact ⟨_, rfl, rfl, h4⟩
  · rintro e w' ⟨p, rfl, rfl, h4⟩
    exact ⟨rfl, h4⟩

/-- What isn't dirty is taken as it is. -/
theorem over_clean (hd : x.dr = false) : ∀ W, St W gp gf g gl V L [x.un] 0 → Off3 gp gf g w W → Calls Try.prog 82 #[tp gp, fp gf 0] W fun e w' => e = .returned (.tuple #[]) ∧ ∃ V', St w' gp gf g gl V' L [x.un] 0 ∧ (∀ k, k < W.heap.size → V' k → V k) ∧ Off3 gp gf g W w' := by
  intro W h hO
  refine (flush_clean gp gf g gl [x.un] 0 0 (by simp) W h.p hd).mono ?_
  rintro e w' ⟨rfl, rfl⟩
  exact ⟨rfl, V, h, fun _ _ h => h, Off3.refl _ _ _ _⟩

theorem gets_over (h : St w gp gf g gl V L [x] 0) (hv : ∀ k, V k → k < w.heap.size) (n : Nat) (hn : n < L.length) (hb : L[n].b = []) (hx : x.has (n : Int) = false) (hf : x.fl = true) (hp : x.pn = 0) (hu : x.us = true) (hd : x.dr = false) :
    Gets w gp gf g gl V (n : Int) 0 zO zO zO zO L [Fr.of (n : Int) 0 zO zO zO zO] 0 := by
  intro W hW
  have hX := h.below hW
  exact pool_get_ok gp gf g gl V L [Fr.of (n : Int) 0 zO zO zO zO] 0 (n : Int) 0 (by simp) W ⟨hX.p.lp, hX.p.lf, hX.d.lt⟩ (fun k hk => Nat.lt_of_lt_of_le (hv k hk) hW.size) (loads_over hX n hn hb hx hf hp hu (over_clean hd))
end

/-! ### the example's commits -/

abbrev o7 : Nat × Nat := (4619567317775286272, 0)
abbrev o8 : Nat × Nat := (4620693217682128896, 0)
abbrev P7 : PutG := ⟨1, 2, o7⟩
abbrev P8 : PutG := ⟨1, 2, o8⟩
abbrev b1 : Bt := ⟨1, 0, 1, 1, [P7]⟩
abbrev b2 : Bt := ⟨2, 0, 1, 2, [P8]⟩
abbrev x7 : Fr := ⟨true, 1, 1, zO, zO, o7, zO, true, 0, true⟩
abbrev x8 : Fr := ⟨true, 1, 2, zO, zO, o8, zO, true, 0, true⟩

theorem form0 : formN 0 = 0 := by decide +kernel
theorem form7 : formN 4619567317775286272 = 4619567317775286272 := by decide +kernel
theorem can7 : P7.can = P7 := by
  unfold PutG.can
  simp only [canO, form0, form7]

theorem puts_ok (c : Nat × Nat) (h : wordB c) : PutsOk [⟨1, 2, c⟩] := by
  refine ⟨by simp, ?_, ?_⟩
  · intro p hp
    simp only [List.mem_cons, List.not_mem_nil, or_false] at hp
    subst hp
    exact ⟨by show 1 ≤ 5; omega, by show 2 ≤ 3; omega, h⟩
  · intro i p q hp hq
    simp at hq

theorem b1_ok : BtOk b1 := ⟨by decide, by decide, by decide, by decide, puts_ok o7 ⟨by decide, by decide⟩⟩
theorem b2_ok : BtOk b2 := ⟨by decide, by decide, by decide, by decide, puts_ok o8 ⟨by decide, by decide⟩⟩

theorem rowN1 : rowN [] ++ wbN b1 = rowN [b1] := by simp [rowN]
theorem len1 : (rowN [b1]).length = 42 := by
  simp only [rowN, List.flatMap_cons, List.flatMap_nil, List.append_nil, wbN_length]
  rfl
theorem ok1 : ∀ b ∈ [b1], BtOk b := by
  intro b hb
  simp only [List.mem_cons, List.not_mem_nil, or_false] at hb
  subst hb
  exact b1_ok
theorem chain0 : Chain [] := by intro i p q hp hq; simp at hp
theorem chain1 : Chain [b1] := by
  intro i p q hp hq
  simp at hq

abbrev L0 (m : Nat) : List Sec := List.replicate m Sec.e

theorem L0_at (m n : Nat) (h : n < (L0 m).length) : (L0 m)[n].b = [] := by simp

section
variable {w : World} {B gs gp gf g gl gt : Nat} {V : Nat → Prop} {T : List Fr}

/-- The first commit of the example. -/
theorem com1 (h : Sto w B gs gp gf g gl gt V (L0 3) (Fr.e :: T) 0 none 0 0 (rowN []) 0 2000 0) (hT : ∀ y ∈ T, y.has 1 = false) (ap : Option Addr) (hp : RdP w ap 1 1 [P7]) (hna : ∀ a, ap = some a → ¬ LgB gl gt none a.block) :
    Calls Try.prog 7 #[tp gs, .int .i64 0, .int .i64 1, .int .i64 1, .slice ap 1 1] w fun x w' => x = .returned (.tuple #[.int .i64 1, .int .i64 0]) ∧ Stays w w' B gs gp gf g gl gt (L0 3) (x7 :: T) 0 42 (rowN [b1]) 0 2000 1 := by
  have := commit_one B gs gp gf g gl gt V (L0 3) (Fr.e :: T) (Fr.of 1 0 zO zO zO zO :: T) (x7 :: T) 0 0 0 none 0 0 (rowN []) 0 2000 0 b1 P7 ap 1 0 zO zO zO zO w h hp hna rfl rfl b1_ok (by omega) (by simp) (by decide)
    (fun W V' hW hV => gets_new hW hV 1 (by simp) (L0_at 3 1 (by simp)) hT) (sets_hit gp gf g gl (L0 3) 0 (Fr.of 1 0 zO zO zO zO) T 1 1 zO zO o7 zO rfl (by decide))
  rw [rowN1] at this
  exact this

/-- The second one. -/
theorem com2 {ao : Option Addr} {cap : Nat} (h : Sto w B gs gp gf g gl gt V (L0 3) (x7 :: T) 0 ao 42 cap (rowN [b1]) 42 2000 1) (ap : Option Addr) (hp : RdP w ap 1 1 [P8]) (hna : ∀ a, ap = some a → ¬ LgB gl gt ao a.block) :
    Calls Try.prog 7 #[tp gs, .int .i64 0, .int .i64 1, .int .i64 2, .slice ap 1 1] w fun x w' => x = .returned (.tuple #[.int .i64 2, .int .i64 0]) ∧ Stays w w' B gs gp gf g gl gt (L0 3) (x8 :: T) 0 84 (rowN [b1] ++ wbN b2) 42 2000 2 :=
  commit_one B gs gp gf g gl gt V (L0 3) (x7 :: T) (x7 :: T) (x8 :: T) 0 0 0 ao 42 cap (rowN [b1]) 42 2000 1 b2 P8 ap 1 1 zO zO o7 zO w h hp hna rfl rfl b2_ok (by omega) (by simp) (by decide)
    (fun W V' hW hV => gets_hit hW hV 1 rfl) (sets_hit gp gf g gl (L0 3) 0 x7 T 1 2 zO zO o8 zO rfl (by decide))

theorem dur1 {ao : Option Addr} {cap last : Nat} {L : List Sec} {F : List Fr} (h : Sto w B gs gp gf g gl gt V L F 0 ao 84 cap (rowN [b1] ++ wbN b2) 42 2000 last) :
    Calls Try.prog 25 #[tp gs] w fun x w' => x = .returned (.int .i64 1) ∧ Below w.heap.size w w' :=
  durable_store gs g gl gp 1 w h.st (durable_log B gl gt ao 84 cap [b1] _ 42 2000 last w h.lg len1.symm ok1 chain1)

theorem crash1 {ao : Option Addr} {cap : Nat} (h : Tp w B gt ao 84 cap (rowN [b1] ++ wbN b2) 42 2000) :
    Calls Try.prog 26 #[tp gt, .int .i64 0] w fun e w' => e = .returned (.tuple #[]) ∧ Tp w' B gt ao 42 cap (rowN [b1]) 42 2000 ∧ Off2 gt ao w w' ∧ w'.heap.size = w.heap.size :=
  crash_at B gt ao 84 cap _ 42 2000 w h 0 42 _ (by decide) (by rw [← len1, List.take_left])

theorem L0_crash (m : Nat) (k : Int) : (L0 m).mapIdx (fate k) = L0 m := by
  apply List.ext_getElem (by simp)
  intro i h1 h2
  simp [fate, Sec.settle, Sec.revert]

theorem page1 {ao : Option Addr} {n cap : Nat} {bs : List Nat} {s r last : Nat} {x : Fr} {L : List Sec} (h : Sto w B gs gp gf g gl gt V L (x :: T) 0 ao n cap bs s r last) (hx : x.has 1 = true) :
    Calls Try.prog 24 #[tp gs, .int .i64 1] w fun e w' => e = .returned (.tuple #[pgV x.l x.a x.b x.c x.d, .int .i64 0]) ∧ Stays w w' B gs gp gf g gl gt L (x.use :: T) 0 n bs s r last := by
  refine (page_store gs gp gf g gl V 1 x.l x.a x.b x.c x.d L (x.use :: T) 0 w h.st h.lt h.v (gets_hit h.pd h.v 1 hx)).mono ?_
  rintro e w' ⟨rfl, hl⟩
  obtain ⟨⟨V', h1⟩, h2, -⟩ := h.left hl
  exact ⟨rfl, V', ao, cap, h1, h2⟩

theorem sync1 {ao : Option Addr} {n cap : Nat} {bs : List Nat} {s r last : Nat} {L : List Sec} {F : List Fr} (h : Sto w B gs gp gf g gl gt V L F 0 ao n cap bs s r last) :
    Calls Try.prog 23 #[tp gs] w fun e w' => e = .returned (.tuple #[]) ∧ Stays w w' B gs gp gf g gl gt L F 0 n bs n r last := by
  refine sync_store gs g gl gp w h.st _ ((force_log B gl gt ao n cap bs s r last w h.lg).mono ?_)
  rintro e w' ⟨rfl, h1, h2, h3⟩
  exact ⟨rfl, V, ao, cap, h.log h1 (OffL.of_off2 gl h3) (Nw.refl _ _), h2⟩

theorem last1 {ao : Option Addr} {n cap : Nat} {bs : List Nat} {s r last : Nat} {L : List Sec} {F : List Fr} (h : Sto w B gs gp gf g gl gt V L F 0 ao n cap bs s r last) :
    Calls Try.prog 10 #[tp gs] w fun x w' => x = .returned (.int .i64 (last : Int)) ∧ w' = w :=
  last_store gs g gl gp last w h.st (last_log B gl gt ao n cap bs s r last w h.lg)
end

/-- A new store. -/
theorem op0 (B g gt : Nat) (V : Nat → Prop) (m r frames : Nat) (w : World) (hT : Tp w B gt none 0 0 [] 0 r) (hD : Drv w g V (L0 m)) (hv : ∀ k, V k → k < w.heap.size) (hA : Apt gt g V none) (hBg : B ≤ g) (h1 : 1 ≤ frames) (h6 : frames ≤ 6) :
    Calls Try.prog 4 #[tp gt, dp g, .int .i64 (frames : Int)] w fun x w' => ∃ gs gp gf gl, x = .returned (.tuple #[tp gs, .int .i64 0]) ∧ (∃ V', Sto w' B gs gp gf g gl gt V' (L0 m) (List.replicate frames Fr.e) 0 none 0 0 (rowN []) 0 r 0) ∧ Below B w w' :=
  open_store B g gt V (L0 m) none 0 0 [] 0 r frames (fun _ => List.replicate frames Fr.e) w hT (by simp) chain0 hD hv hA hBg h1 h6 rfl (fun k hk => by simp at hk)

/-- The store that finds one commit. -/
theorem op1 (B g gt : Nat) (V : Nat → Prop) (ao : Option Addr) (cap : Nat) (w : World) (hT : Tp w B gt ao 42 cap (rowN [b1]) 42 2000) (hD : Drv w g V (L0 3)) (hv : ∀ k, V k → k < w.heap.size) (hA : Apt gt g V ao) (hBg : B ≤ g) :
    Calls Try.prog 4 #[tp gt, dp g, .int .i64 1] w fun x w' => ∃ gs gp gf gl, x = .returned (.tuple #[tp gs, .int .i64 0]) ∧ (∃ V', Sto w' B gs gp gf g gl gt V' (L0 3) [x7] 0 ao 42 cap (rowN [b1]) 42 2000 1) ∧ Below B w w' := by
  refine open_store B g gt V (L0 3) ao 42 cap [b1] 42 2000 1 (fun k => if k = 0 then [Fr.e] else [x7]) w hT ok1 chain1 hD hv hA hBg (by omega) (by omega) rfl ?_
  intro k hk gs gp gf gl W V' ap hS hp
  obtain rfl : k = 0 := by simpa using hk
  have hp2 : RdP W ap 1 1 [P7] := by
    have : ([b1][0].ps.map PutG.can) = [P7] := by simp [can7]
    rw [this] at hp
    exact hp
  exact apply_one gs gp gf g gl V' (L0 3) (L0 3) [Fr.of 1 0 zO zO zO zO] [x7] 0 0 P7 0 1 0 1 1 zO zO zO zO ap 1 W hS.st hS.lt hS.apart hS.v hp2 (by decide) (by decide) (by decide) (by decide)
    (gets_new hS.pd hS.v 1 (by simp) (L0_at 3 1 (by simp)) (by simp)) (sets_hit gp gf g gl (L0 3) 0 (Fr.of 1 0 zO zO zO zO) [] 1 1 zO zO o7 zO rfl (by decide))

end Go.Proofs.Ythckdfggnmoaeaa
