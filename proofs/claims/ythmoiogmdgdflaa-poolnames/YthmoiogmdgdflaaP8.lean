/- A pool of one frame in front of a new drive and an empty log: its loads. -/
import Derived.Test.YthmoiogmdgdflaaP7
namespace Go.Proofs.Ythmoiogmdgdflaa
open Go.RowKit
set_option linter.unusedVariables false

/-- A pool, its drive and an empty log lie apart. -/
structure Ex (w : World) (B gp gf g gl gt : Nat) (V : Nat → Prop) (L : List Sec) (F : List Fr) : Prop where
  s : St w gp gf g gl V L F 0
  lg : LogAt w B gl gt none 0 0 [] 0 100 0
  v : ∀ k, V k → k < w.heap.size
  l1 : gl ≠ gp ∧ gl ≠ gf ∧ gl ≠ g
  l2 : gt ≠ gp ∧ gt ≠ gf ∧ gt ≠ g

section
variable {w w' : World} {B gp gf g gl gt : Nat} {V : Nat → Prop} {L L' : List Sec} {F F' : List Fr}

theorem Ex.log (h : Ex w B gp gf g gl gt V L F) (hO : Off3 gp gf g w w') : LogAt w' B gl gt none 0 0 [] 0 100 0 :=
  ⟨h.lg.t.keep hO.size (hO.block gt h.lg.t.hd.lt h.l2.1 h.l2.2.1 h.l2.2.2) (fun a ha => by cases ha), h.lg.l.keep (hO.block gl h.lg.l.lt h.l1.1 h.l1.2.1 h.l1.2.2) hO.size, h.lg.bl, h.lg.ng, h.lg.na⟩

theorem Ex.lt (h : Ex w B gp gf g gl gt V L F) : gp < w.heap.size ∧ gf < w.heap.size ∧ g + 1 < w.heap.size := ⟨h.s.p.lp, h.s.p.lf, h.s.d.lt⟩

theorem Ex.below (h : Ex w B gp gf g gl gt V L F) (hb : Below w.heap.size w w') : Ex w' B gp gf g gl gt V L F := ⟨h.s.below hb, h.lg.below hb, fun k hk => Nat.lt_of_lt_of_le (h.v k hk) hb.size, h.l1, h.l2⟩

theorem Ex.left (h : Ex w B gp gf g gl gt V L F) (hl : Left w w' gp gf g gl V L' F' 0) : (∃ V', Ex w' B gp gf g gl gt V' L' F') ∧ Off3 gp gf g w w' := by
  obtain ⟨V', h1, h2, h3⟩ := hl
  exact ⟨⟨_, h1.tight, h.log h3, fun k hk => hk.2, h.l1, h.l2⟩, h3⟩
theorem Ex.stay (h : Ex w B gp gf g gl gt V L F) (hs : St w' gp gf g gl V L F' 0) (hO : Off3 gp gf g w w') : Ex w' B gp gf g gl gt V L F' := ⟨hs, h.log hO, fun k hk => Nat.lt_of_lt_of_le (h.v k hk) hO.size, h.l1, h.l2⟩
end

theorem none_one {x : Fr} {n : Int} (h : x.has n = false) : ∀ j (hj : j < [x].length), [x][j].has n = false := by
  intro j hj
  obtain rfl : j = 0 := by simpa using hj
  exact h

theorem loads_first {w : World} {B gp gf g gl gt : Nat} {V : Nat → Prop} {L : List Sec} (h : Ex w B gp gf g gl gt V L [Fr.e]) (n : Nat) (hn : n < L.length) (hb : L[n].b = []) :
    Loads w gp gf g gl V (n : Int) 0 L [Fr.of (n : Int) 0 zO zO zO zO] 0 := by
  intro W hW
  have hX := h.s.below hW
  exact load_new gp gf g gl V L L [Fr.e] [Fr.e] 0 0 (n : Int) 0 zO zO zO zO 0 (by simp) W hX (none_one rfl) (fun W2 h2 => fetch_empty gp gf g gl V L [Fr.e] 0 n W2 (hX.below h2) hn hb)
    (fun W2 h2 => (room_empty gp gf g gl [Fr.e] 0 0 (by simp) W2 (hX.below h2).p (by intro j hj; omega) rfl).mono (by rintro e w' ⟨rfl, rfl⟩; exact ⟨rfl, V, hX.below h2, fun _ _ h => h, Off3.refl _ _ _ _⟩))

theorem loads_hit {w : World} {gp gf g gl : Nat} {V : Nat → Prop} {L : List Sec} {x : Fr} (h : St w gp gf g gl V L [x] 0) (n : Int) (hn : x.has n = true) :
    Loads w gp gf g gl V n 0 L [x.use] 0 := by
  intro W hW
  refine (load_hit gp gf g gl V L [x] 0 n 0 (by simp) W (h.below hW) (by intro j hj; omega) hn).mono ?_
  rintro e w' ⟨rfl, hs, hO⟩
  exact ⟨rfl, V, hs, fun _ _ h => h, hO⟩

theorem loads_over {w : World} {gp gf g gl : Nat} {V : Nat → Prop} {L L' : List Sec} {x x' : Fr} (h : St w gp gf g gl V L [x] 0) (n : Nat) (hn : n < L.length) (hb : L[n].b = []) (hx : x.has (n : Int) = false) (hf : x.fl = true) (hp : x.pn = 0) (hu : x.us = true)
    (HF : ∀ W, St W gp gf g gl V L [x.un] 0 → Off3 gp gf g w W → Calls Try.prog 52 #[tp gp, fp gf 0] W fun e w' => e = .returned (.tuple #[]) ∧ ∃ V', St w' gp gf g gl V' L' [x'] 0 ∧ (∀ k, k < W.heap.size → V' k → V k) ∧ Off3 gp gf g W w') :
    Loads w gp gf g gl V (n : Int) 0 L' [Fr.of (n : Int) 0 zO zO zO zO] 0 := by
  intro W hW
  have hX := h.below hW
  refine load_new gp gf g gl V L L' [x] [x'] 0 0 (n : Int) 0 zO zO zO zO 0 (by simp) W hX (none_one hx) (fun W2 h2 => fetch_empty gp gf g gl V L [x] 0 n W2 (hX.below h2) hn hb) (fun W2 h2 => ?_)
  have hY := hX.below h2
  refine (room_full gp gf g gl x W2 hY.p hf (fun p w' => p = some ⟨gf, 0 * 10, none⟩ ∧ ∃ V', St w' gp gf g gl V' L' [x'] 0 ∧ (∀ k, k < W2.heap.size → V' k → V k) ∧ Off3 gp gf g W2 w') ((sweep_take gp gf g gl V L L' x x' W2 hY hp hu (fun W3 h3 hO3 => HF W3 h3 ((Off3.of_below (below_step hW h2)).trans hO3))).mono ?_)).mono ?_
  · rintro e w' ⟨rfl, h4⟩
    exact ⟨_, rfl, rfl, h4⟩
  · rintro e w' ⟨p, rfl, rfl, h4⟩
    exact ⟨rfl, h4⟩

theorem full_pinned {w : World} {gp gf g gl : Nat} {V : Nat → Prop} {L : List Sec} {x : Fr} (h : St w gp gf g gl V L [x] 0) (n : Nat) (hn : n < L.length) (hb : L[n].b = []) (hx : x.has (n : Int) = false) (hf : x.fl = true) (hp : 0 < x.pn) :
    Calls Try.prog 17 #[tp gp, .int .i64 (n : Int)] w fun e w' => e = .returned (.tuple #[.pointer none, .int .i64 81]) ∧ St w' gp gf g gl V L [x] 0 ∧ Off3 gp gf g w w' := by
  refine load_full gp gf g gl V L [x] 0 (n : Int) 0 zO zO zO zO w h (none_one hx) (fun W2 h2 => fetch_empty gp gf g gl V L [x] 0 n W2 (h.below h2) hn hb) (fun W2 h2 => ?_)
  have hY := h.below h2
  refine (room_full gp gf g gl x W2 hY.p hf (fun p w' => p = none ∧ St w' gp gf g gl V L [x] 0 ∧ Off3 gp gf g W2 w') ((sweep_pinned gp gf g gl V L x W2 hY hp).mono ?_)).mono ?_
  · rintro e w' ⟨rfl, h4⟩
    exact ⟨_, rfl, rfl, h4⟩
  · rintro e w' ⟨p, rfl, rfl, h4⟩
    exact ⟨rfl, h4⟩

/-- What isn't dirty is taken as it is. -/
theorem over_clean {w : World} {gp gf g gl : Nat} {V : Nat → Prop} {L : List Sec} {x : Fr} (hd : x.dr = false) : ∀ W, St W gp gf g gl V L [x.un] 0 → Off3 gp gf g w W → Calls Try.prog 52 #[tp gp, fp gf 0] W fun e w' => e = .returned (.tuple #[]) ∧ ∃ V', St w' gp gf g gl V' L [x.un] 0 ∧ (∀ k, k < W.heap.size → V' k → V k) ∧ Off3 gp gf g W w' := by
  intro W h hO
  refine (flush_clean gp gf g gl [x.un] 0 0 (by simp) W h.p hd).mono ?_
  rintro e w' ⟨rfl, rfl⟩
  exact ⟨rfl, V, h, fun _ _ h => h, Off3.refl _ _ _ _⟩

/-- What is dirty is written first. -/
theorem over_dirty {w : World} {B gp gf g gl gt : Nat} {V : Nat → Prop} {L : List Sec} {x : Fr} (h : Ex w B gp gf g gl gt V L [x]) (hd : x.dr = true) (m : Nat) (hm : m < L.length) (hok : FrOk L x m) (hl : x.l ≤ 0) :
    ∀ W, St W gp gf g gl V L [x.un] 0 → Off3 gp gf g w W → Calls Try.prog 52 #[tp gp, fp gf 0] W fun e w' => e = .returned (.tuple #[]) ∧ ∃ V', St w' gp gf g gl V' (L.set m (L[m].wrote x.bytes)) [x.un.clean] 0 ∧ (∀ k, k < W.heap.size → V' k → V k) ∧ Off3 gp gf g W w' := by
  intro W hW hO
  exact flush_dirty gp gf g gl V L [x.un] 0 0 m (by simp) 0 W hW hd ⟨hok.nm, hok.lt, hok.l, hok.a, hok.b, hok.c, hok.d⟩ hl hm (fun W2 h2 => durable_none B gl gt 0 100 0 W2 (h.log (hO.trans (Off3.of_below h2))))

end Go.Proofs.Ythmoiogmdgdflaa
