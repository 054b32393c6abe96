/- What comes in: a packet by value; a slice of acts with a packet each; a slice of steps; a slice of slices of bytes. -/
import Derived.Test.YtgdlejeopdipiaaPm
import Derived.Deep.Slices
import Derived.Deep.Matrix
import Derived.ChangeSame
import Derived.ChangeSlices
import Derived.SizedLaws
import Derived.OpenShut
import Derived.RowKit3
namespace Go.Proofs.Ytgdlejeopdipiaa
open Go.RowKit Go.ChangeShapes Go.WideShapes
set_option linter.unusedVariables false

theorem rd8_of {w : World} {ao : Option Addr} {n cap : Nat} {zs : List Int} (r : RdI w .u8 ao cap zs) (l : zs.length = n) (b : ∀ z ∈ zs, (Lit.int .u8 z).wf = true) : ∃ bs, Rd8 w ao n cap bs := by
  have hb : ∀ z ∈ zs, 0 ≤ z ∧ z < 256 := by
    intro z hz
    have := b z hz
    simp [Lit.wf, IntKind.min, IntKind.max, IntKind.bits, IntKind.signed] at this
    omega
  refine ⟨zs.map Int.toNat, ?_, by simpa using l, ?_⟩
  · have e : ci (zs.map Int.toNat) = zs := by
      simp only [ci, List.map_map]
      conv => rhs; rw [← List.map_id zs]
      apply List.map_congr_left
      intro z hz
      have := hb z hz
      simp; omega
    rw [e]; exact r
  · intro x hx
    obtain ⟨z, hz, rfl⟩ := List.mem_map.1 hx
    have := hb z hz
    omega

theorem cells3 : Try.prog.cellsOf 3 = 1 := by kernel_rfl
theorem cells4 : Try.prog.cellsOf 4 = 1 := by kernel_rfl
theorem cells5 : Try.prog.cellsOf 5 = 1 := by kernel_rfl
theorem cells27 : Try.prog.cellsOf 27 = 1 := by kernel_rfl
theorem cells30 : Try.prog.cellsOf 30 = 7 := by kernel_rfl
theorem cells36 : Try.prog.cellsOf 36 = 9 := by kernel_rfl
theorem cells53 : Try.prog.cellsOf 53 = 3 := by kernel_rfl
theorem bytesOf5 : Try.prog.bytesOf 5 = 1 := by kernel_rfl

theorem weights_flat {H : Type} (P : Program) (e : TypeId) (l : List (DataW H)) : DataW.weightsAll P e l = l.flatMap fun d => d.weights P e := by
  induction l with
  | nil => rfl
  | cons d r ih => rw [DataW.weightsAll, ih, List.flatMap_cons]

theorem bytes_of {H : Type} {enc : TypeId × Value → H} {W : World} {fuel : Nat} {cs : List Value} {x : DataW H × List MemPlace} (h : DataW.trod enc Try.prog W 0 (fun _ => true) true fuel 27 cs = some x) (hw : ∀ n ∈ x.1.weights Try.prog 27, n ≤ reachBytes) :
    ∃ ao m cap bs, cs = [.slice ao m cap] ∧ Rd8 W ao m cap bs ∧ m ≤ 140737488351232 := by
  rcases open_ints Try.underlying27 Try.underlying5 cells5 h with ⟨hcs, _⟩ | ⟨y, l, c, zs, hcs, _, hl, hm, hz, hx, hcell, hwz⟩
  · exact ⟨none, 0, 0, [], hcs, Rd8.empty W, by omega⟩
  · have hz2 : zs.length = c := by simpa using hz
    obtain ⟨bs, hbs⟩ := rd8_of (n := l) (rdI_of_row hl hm hz2 hcell) (by simp; omega) (fun z h => hwz z (List.mem_of_mem_take h))
    refine ⟨some y, l, c, bs, hcs, hbs, ?_⟩
    subst hx
    have := hw (((lits (H := H) .u8 (zs.take l)).length + (lits (H := H) .u8 (zs.drop l)).length) * Try.prog.bytesOf 5) (by simp [DataW.weights, Try.underlying27])
    rw [bytesOf5] at this
    simp only [lits, List.length_map, List.length_take, List.length_drop, reachBytes] at this
    omega

/-- The numbers are numbers of 64 bits. -/
structure PkWf (P : PkG) : Prop where
  sq0 : -9223372036854775808 ≤ P.sq
  sq1 : P.sq ≤ 9223372036854775807
  ak0 : -9223372036854775808 ≤ P.ak
  ak1 : P.ak ≤ 9223372036854775807

theorem wf64 {z : Int} (h : (Lit.int .i64 z).wf = true) : -9223372036854775808 ≤ z ∧ z ≤ 9223372036854775807 := by
  simp [Lit.wf, IntKind.min, IntKind.max, IntKind.bits, IntKind.signed] at h
  omega

set_option maxRecDepth 100000 in
theorem packet_of {H : Type} {enc : TypeId × Value → H} {W : World} {fuel : Nat} {c0 c1 c2 c3 c4 c5 c6 : Value} {x : DataW H × List MemPlace} (h : DataW.trod enc Try.prog W 0 (fun _ => true) true fuel 30 [c0, c1, c2, c3, c4, c5, c6] = some x) (hw : ∀ n ∈ x.1.weights Try.prog 30, n ≤ reachBytes) :
    ∃ (P : PkG) (ao : Option Addr) (n cap : Nat), [c0, c1, c2, c3, c4, c5, c6] = pkC P (.slice ao n cap) ∧ Rd8 W ao n cap P.bs ∧ n ≤ 140737488351232 ∧ PkWf P := by
  obtain ⟨xs, k, hk, hxy, _, hxl, hi⟩ := DataW.trod_struct Try.underlying30 h
  match xs, hxl with
  | [y0, y1, y2, y3, y4, y5, y6], _ =>
    have h0 := hi 0 _ rfl
    have h1 := hi 1 _ rfl
    have h2 := hi 2 _ rfl
    have h3 := hi 3 _ rfl
    have h4 := hi 4 _ rfl
    have h5 := hi 5 _ rfl
    have h6 := hi 6 _ rfl
    simp [cells3, cells4, cells27] at h0 h1 h2 h3 h4 h5 h6
    obtain ⟨z0, e0, _, _⟩ := DataW.trod_int Try.underlying3 h0
    obtain ⟨z1, e1, _, _⟩ := DataW.trod_int Try.underlying3 h1
    obtain ⟨z2, e2, _, _⟩ := DataW.trod_int Try.underlying3 h2
    obtain ⟨z3, e3, _, w3⟩ := DataW.trod_int Try.underlying3 h3
    obtain ⟨z4, e4, _, w4⟩ := DataW.trod_int Try.underlying3 h4
    obtain ⟨z5, e5, _⟩ := DataW.trod_bool Try.underlying4 h5
    have hd : x.1 = .agg [y0.1, y1.1, y2.1, y3.1, y4.1, y5.1, y6.1] := by rw [hxy]; rfl
    obtain ⟨ao, mm, cc, bs, e6, hr, hs⟩ := bytes_of h6 (by
      intro k hk
      refine hw k ?_
      rw [hd]
      simp only [DataW.weights, Try.underlying30]
      simp [DataW.weightsEach, hk])
    simp only [List.cons.injEq, and_true] at e0 e1 e2 e3 e4 e5 e6
    subst e0 e1 e2 e3 e4 e5 e6
    exact ⟨⟨z0, z1, z2, z3, z4, z5, bs⟩, ao, mm, cc, rfl, hr, hs, ⟨(wf64 w3).1, (wf64 w3).2, (wf64 w4).1, (wf64 w4).2⟩⟩

set_option maxRecDepth 100000 in
theorem open_packet {H : Type} {enc : TypeId × Value → H} {W : World} {r : Reach} {b0 : Nat} {v : Value} {d : DataW H} {p : List MemPlace}
    (hv : Value.okWide Try.prog W r b0 30 v) (h : DataW.Trod enc Try.prog W 0 (fun _ => true) true 30 v d p) (hw : ∀ n ∈ d.weights Try.prog 30, n ≤ reachBytes) :
    ∃ (P : PkG) (ao : Option Addr) (n cap : Nat), v = pkV P (.slice ao n cap) ∧ (Rd8 W ao n cap P.bs ∧ PkWf P) ∧ n ≤ 140737488351232 := by
  simp only [Value.okWide, Try.underlying30] at hv
  obtain ⟨cs, rfl, hsz, _⟩ := hv
  rw [cells30] at hsz
  obtain ⟨l⟩ := cs
  match l, hsz with
  | [c0, c1, c2, c3, c4, c5, c6], _ =>
    obtain ⟨fuel, hf⟩ := h
    obtain ⟨P, ao, n, cap, e, h1, h2, h3⟩ := packet_of hf hw
    refine ⟨P, ao, n, cap, ?_, ⟨h1, h3⟩, h2⟩
    rw [e]; rfl

/-- An act: a number, bytes, a packet with bytes of its own. -/
structure WAct where
  k : Int
  ao : Option Addr
  m : Nat
  cap : Nat
  bs : List Nat
  P : PkG
  pa : Option Addr
  pm : Nat
  pc : Nat

/-- The cells of an act. -/
def wC (a : WAct) : List Value := [.int .i64 a.k, .slice a.ao a.m a.cap] ++ pkC a.P (.slice a.pa a.pm a.pc)

/-- The acts lie at the slice. -/
structure WActsAt (w : World) (ao : Option Addr) (A : List WAct) : Prop where
  cell : A ≠ [] → ∃ b off, ao = some ⟨b, off, none⟩ ∧ b < w.heap.size ∧ ∀ t (h : t < A.length) j, j < 9 → w.cell? ⟨b, off + t * 9 + j, none⟩ = (wC A[t])[j]?
  rd : ∀ a ∈ A, Rd8 w a.ao a.m a.cap a.bs ∧ a.m ≤ 140737488351232 ∧ Rd8 w a.pa a.pm a.pc a.P.bs ∧ a.pm ≤ 140737488351232 ∧ PkWf a.P

theorem WActsAt.below {w w' : World} {ao : Option Addr} {A : List WAct} (h : WActsAt w ao A) (hb : Below w.heap.size w w') : WActsAt w' ao A := by
  refine ⟨fun hA => ?_, fun a ha => ?_⟩
  · obtain ⟨b, off, e, hlt, hc⟩ := h.cell hA
    exact ⟨b, off, e, Nat.lt_of_lt_of_le hlt hb.size, fun t ht j hj => (hb.cell (p := ⟨b, off + t * 9 + j, none⟩) hlt).trans (hc t ht j hj)⟩
  · obtain ⟨h1, h2, h3, h4, h5⟩ := h.rd a ha
    exact ⟨h1.below hb, h2, h3.below hb, h4, h5⟩

set_option maxRecDepth 100000 in
theorem wacts_of {H : Type} {enc : TypeId × Value → H} {W : World} {fuel : Nat} {cs : List Value} {x : DataW H × List MemPlace} (h : DataW.trod enc Try.prog W 0 (fun _ => true) true fuel 31 cs = some x) (hw : ∀ n ∈ x.1.weights Try.prog 31, n ≤ reachBytes) :
    ∃ (a : Option Addr) (len cap : Nat) (A : List WAct), cs = [.slice a len cap] ∧ WActsAt W a A ∧ A.length = len ∧ len ≤ maxLen := by
  rcases Go.Deep.open_slice Try.underlying31 h with ⟨hcs, _⟩ | ⟨a, len, cap, m, n, D, Pl, hcs, _, hl, hm, hmm, hx, hel⟩
  · exact ⟨none, 0, 0, [], hcs, ⟨fun h => absurd rfl h, by simp⟩, rfl, by unfold maxLen; omega⟩
  · simp only [if_true] at hmm
    have each : ∀ i, i < len → ∃ g : WAct, (∀ j, j < 9 → W.cell? (a.add (i * 9 + j)) = (wC g)[j]?) ∧ Rd8 W g.ao g.m g.cap g.bs ∧ g.m ≤ 140737488351232 ∧ Rd8 W g.pa g.pm g.pc g.P.bs ∧ g.pm ≤ 140737488351232 ∧ PkWf g.P := by
      intro i hi
      obtain ⟨cs', h1, h2⟩ := hel i (by omega)
      have hwi : ∀ k ∈ (D i).weights Try.prog 36, k ≤ reachBytes := by
        intro k hk
        refine hw k ?_
        rw [hx]
        simp only [DataW.weights, Try.underlying31, List.mem_cons, List.mem_append]
        exact .inr (.inl (by rw [weights_flat]; exact List.mem_flatMap.2 ⟨D i, List.mem_map.2 ⟨i, List.mem_range.2 hi, rfl⟩, hk⟩))
      rw [cells36] at h1
      obtain ⟨_, hlen, hcell⟩ := World.cells?_some h1
      obtain ⟨xs, k, hk, hxy, _, hxl, hf⟩ := DataW.trod_struct Try.underlying36 h2
      match xs, hxl, cs', hlen with
      | [y0, y1, y2], _, [v0, v1, v2, v3, v4, v5, v6, v7, v8], _ =>
        have g0 := hf 0 _ rfl
        have g1 := hf 1 _ rfl
        have g2 := hf 2 _ rfl
        simp [cells3, cells27, cells30] at g0 g1 g2
        obtain ⟨z0, hz0, _, _⟩ := DataW.trod_int Try.underlying3 g0
        have hd : D i = .agg [y0.1, y1.1, y2.1] := by have := (Prod.mk.inj hxy).1; simpa using this
        obtain ⟨ao, mm, cc, bs, hz1, hr, hs⟩ := bytes_of g1 (by
          intro k hk
          refine hwi k ?_
          rw [hd]
          simp only [DataW.weights, Try.underlying36]
          simp [DataW.weightsEach, hk])
        obtain ⟨P, pa, pn, pcap, hz2, hpr, hps, hpw⟩ := packet_of g2 (by
          intro k hk
          refine hwi k ?_
          rw [hd]
          simp only [DataW.weights, Try.underlying36]
          simp [DataW.weightsEach, hk])
        simp only [List.cons.injEq, and_true] at hz0 hz1
        subst hz0 hz1
        refine ⟨⟨z0, ao, mm, cc, bs, P, pa, pn, pcap⟩, fun j hj => ?_, hr, hs, hpr, hps, hpw⟩
        have e0 := hcell j hj
        rw [Go.Deep.add_add] at e0
        rw [e0]
        have e9 : wC ⟨z0, ao, mm, cc, bs, P, pa, pn, pcap⟩ = [.int .i64 z0, .slice ao mm cc] ++ [v2, v3, v4, v5, v6, v7, v8] := by rw [hz2]; rfl
        rw [e9]; rfl
    obtain ⟨f, hf⟩ : ∃ f : Nat → WAct, ∀ i, i < len → (∀ j, j < 9 → W.cell? (a.add (i * 9 + j)) = (wC (f i))[j]?) ∧ Rd8 W (f i).ao (f i).m (f i).cap (f i).bs ∧ (f i).m ≤ 140737488351232 ∧ Rd8 W (f i).pa (f i).pm (f i).pc (f i).P.bs ∧ (f i).pm ≤ 140737488351232 ∧ PkWf (f i).P := by
      refine ⟨fun r => if hrc : r < len then Classical.choose (each r hrc) else ⟨0, none, 0, 0, [], ⟨0, 0, 0, 0, 0, false, []⟩, none, 0, 0⟩, fun r hrc => ?_⟩
      simp only [hrc, dif_pos]
      exact Classical.choose_spec (each r hrc)
    refine ⟨some a, len, cap, (List.range len).map f, hcs, ⟨fun hA => ?_, ?_⟩, by simp, by omega⟩
    · have hp : 0 < len := by
        rcases Nat.eq_zero_or_pos len with h | h
        · subst h; exact absurd (by simp) hA
        · exact h
      obtain ⟨b, off, spot⟩ := a
      have h0 := (hf 0 hp).1 0 (by omega)
      have h0' : W.cell? (Addr.add ⟨b, off, spot⟩ (0 * 9 + 0)) = some (.int .i64 (f 0).k) := h0
      have hspot : spot = none := by simpa [Addr.add] using World.cell?_spot h0'
      subst hspot
      refine ⟨b, off, rfl, World.block_lt_of_cell? W _ h0', fun t ht j hj => ?_⟩
      simp only [List.length_map, List.length_range] at ht
      have h1 := (hf t ht).1 j hj
      rw [Addr.add_lit] at h1
      rw [← Nat.add_assoc] at h1
      simp only [List.getElem_map, List.getElem_range]
      exact h1
    · intro g hg
      obtain ⟨r, hr1, rfl⟩ := List.mem_map.1 hg
      exact (hf r (List.mem_range.1 hr1)).2

end Go.Proofs.Ytgdlejeopdipiaa
