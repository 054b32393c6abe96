/- Proved: WaitsRings, that is: some who wait each for the next one, the last one for the first, must give way, the greatest of them first, all others not; with one link missing nobody must. Conditions: the two tables of package math/bits hold what the program's text lays (tied by the card). -/
import Derived.Test.YteofipheoipeoaaDoorRows
import Derived.Test.YteofipheoipeoaaDoorCards
import Derived.Test.YteofipheoipeoaaDoorTie
import Derived.Test.YteofipheoipeoaaDoorW6
import Derived.Test.YteofipheoipeoaaDoorOe
import Derived.WalkKit
import Derived.ProofKit
import Derived.OpenShut
import Derived.ShutString
import Derived.ChangeOld
import Derived.SizedLaws
import Derived.Below
import Derived.Deep.QuietTactic
import Derived.BigQuiet
import Derived.Deep.RegionWith
import Derived.Deep.RegionHeld
import Derived.Deep.RegionHeldLaw
import Derived.RegionTactic
import Derived.Deep.DeepHandedRow
import Derived.Lib.LaidTab
namespace Go.Proofs.YteofipheoipeoaaDoor.waitsRings
open Go.ChangeShapes Go.WideShapes Go.ChangeAt Go.RowKit
set_option linter.unusedVariables false

theorem bytes3 : Tryd.prog.bytesOf 3 = 8 := by kernel_rfl

/-- The edges of a ring, up to k. -/
def nx (Z : List Nat) (i : Nat) : Nat := if i < Z.length - 1 then Z.getD (i + 1) 0 else Z.getD 0 0
def rg (Z : List Nat) : Nat → List (Int × Int)
  | 0 => []
  | k + 1 => rg Z k ++ [((Z.getD k 0 : Int), (nx Z k : Int))]
def mx (Z : List Nat) : Nat → Nat
  | 0 => 0
  | k + 1 => max (mx Z k) (Z.getD k 0)
theorem rg_len (Z : List Nat) : ∀ k, (rg Z k).length = k
  | 0 => rfl
  | k + 1 => by simp [rg, rg_len Z k]
def cut (L : List (Int × Int)) (m : Nat) : List (Int × Int) := L.take m ++ L.drop (m + 1)

def okR (Z : List Nat) : Bool := (vcI (rg Z Z.length) == (mx Z Z.length : Int)) && vcB (rg Z Z.length) && (List.range 4).all (fun c => rB (rg Z Z.length) c c == Z.contains c) && (List.range Z.length).all (fun m => !vcB (cut (rg Z Z.length) m))
theorem ok1 : ∀ a < 4, okR [a] = true := by decide +kernel
theorem ok2 : ∀ a < 4, ∀ b < 4, b ≠ a → okR [a, b] = true := by decide +kernel
theorem ok3 : ∀ a < 4, ∀ b < 4, ∀ c < 4, (b ≠ a ∧ c ≠ a ∧ c ≠ b) → okR [a, b, c] = true := by decide +kernel
theorem ok4' : ((List.range 4).all fun a => (List.range 4).all fun b => (List.range 4).all fun c => (List.range 4).all fun d => (b == a || c == a || c == b || d == a || d == b || d == c) || okR [a, b, c, d]) = true := by decide +kernel
theorem ok4 (a : Nat) (ha : a < 4) (b : Nat) (hb : b < 4) (c : Nat) (hc : c < 4) (d : Nat) (hd : d < 4) (h : b ≠ a ∧ c ≠ a ∧ c ≠ b ∧ d ≠ a ∧ d ≠ b ∧ d ≠ c) : okR [a, b, c, d] = true := by
  have h4 := ok4'
  simp only [List.all_eq_true, List.mem_range] at h4
  have := h4 a ha b hb c hc d hd
  simpa [h.1, h.2.1, h.2.2.1, h.2.2.2.1, h.2.2.2.2.1, h.2.2.2.2.2] using this

theorem ok_ring (Z : List Nat) (h1 : 1 ≤ Z.length) (h4 : Z.length ≤ 4) (hz : ∀ z ∈ Z, z < 4) (hn : Z.Nodup) : okR Z = true := by
  match Z, h1, h4 with
  | [a], _, _ => exact ok1 a (hz a (by simp))
  | [a, b], _, _ =>
    simp at hn
    exact ok2 a (hz a (by simp)) b (hz b (by simp)) (fun h => hn h.symm)
  | [a, b, c], _, _ =>
    simp at hn
    exact ok3 a (hz a (by simp)) b (hz b (by simp)) c (hz c (by simp)) ⟨fun h => hn.1.1 h.symm, fun h => hn.1.2 h.symm, fun h => hn.2 h.symm⟩
  | [a, b, c, d], _, _ =>
    simp at hn
    exact ok4 a (hz a (by simp)) b (hz b (by simp)) c (hz c (by simp)) d (hz d (by simp)) ⟨fun h => hn.1.1 h.symm, fun h => hn.1.2.1 h.symm, fun h => hn.2.1.1 h.symm, fun h => hn.1.2.2 h.symm, fun h => hn.2.1.2 h.symm, fun h => hn.2.2 h.symm⟩

structure Ring (Z : List Nat) : Prop where
  vi : vcI (rg Z Z.length) = (mx Z Z.length : Int)
  vb : vcB (rg Z Z.length) = true
  cy : ∀ c, c < 4 → rB (rg Z Z.length) c c = Z.contains c
  cut : ∀ m, m < Z.length → vcB (cut (rg Z Z.length) m) = false
theorem ring_of (Z : List Nat) (h1 : 1 ≤ Z.length) (h4 : Z.length ≤ 4) (hz : ∀ z ∈ Z, z < 4) (hn : Z.Nodup) : Ring Z := by
  have h := ok_ring Z h1 h4 hz hn
  simp only [okR, Bool.and_eq_true, beq_iff_eq, List.all_eq_true, List.mem_range, Bool.not_eq_true'] at h
  exact ⟨h.1.1.1, h.1.1.2, h.1.2, h.2⟩

/-- What is known of a ring's head part: who is in it, each once, none but clients. -/
structure Part (zs : List Int) (s : Nat) (Z : List Nat) (F : Nat → Bool) : Prop where
  eq : zs.take s = Z.map (fun z : Nat => (z : Int))
  nd : Z.Nodup
  lt : ∀ z ∈ Z, z < 4
  mark : ∀ j, j < 4 → F j = Z.contains j
theorem Part.none (zs : List Int) : Part zs 0 [] (fun _ => false) := ⟨rfl, List.nodup_nil, by simp, by simp⟩
theorem Part.next {zs : List Int} {s : Nat} {Z : List Nat} {F : Nat → Bool} (h : Part zs s Z F) {j : Nat} (hj : j < 4) (he : zs[s]? = some (j : Int)) (hF : F j = false) : Part zs (s + 1) (Z ++ [j]) (putB F j true) := by
  have hm := h.mark j hj
  rw [hF] at hm
  have hnm : j ∉ Z := by intro hc; rw [List.contains_iff_mem.2 hc] at hm; cases hm
  refine ⟨by rw [take_get he, h.eq]; simp, ?_, ?_, ?_⟩
  · rw [List.nodup_append]
    exact ⟨h.nd, by simp, by intro a ha b hb; simp at hb; subst hb; intro e; subst e; exact hnm ha⟩
  · intro z hz
    rw [List.mem_append] at hz
    rcases hz with hz | hz
    · exact h.lt z hz
    · simp at hz; omega
  · intro i hi
    unfold putB
    by_cases e : i = j
    · subst e; simp
    · rw [if_neg e, h.mark i hi]
      simp [e]
theorem map_get {zs : List Int} {Z : List Nat} (h : zs = Z.map (fun z : Nat => (z : Int))) {t : Nat} (ht : t < zs.length) : zs[t] = (Z.getD t 0 : Int) := by
  subst h
  simp at ht
  simp [ht]
theorem mx_step {Z : List Nat} {m x : Nat} (h : Z.getD m 0 = x) : Value.int .i64 (if mx Z m < x then (x : Int) else (mx Z m : Int)) = Value.int .i64 (mx Z (m + 1) : Nat) := by
  rw [mx, h]
  split <;> (congr 1; omega)
theorem Tz.heap {w w' : World} (h : Tz w) (e : w'.heap = w.heap) : Tz w' := by
  have hk : ∀ p, w'.cell? p = w.cell? p := fun p => by simp only [World.cell?, e]
  exact ⟨(hk _).trans h.c0, (hk _).trans h.c1, (hk _).trans h.c3, (hk _).trans h.c7, by rw [e]; exact h.lt⟩
section
variable {P : Program} {ops : Array Oper} {Q : Exit → Act → World → Prop} {md : Region.Mode} {S : World → Prop}
theorem held_val {i : Nat} {oi : Oper} (v : Value) (d : Nat) {fuel : Nat} {listed : Array Bool} {a : Act} {w : World} (hi : ops[i]? = some oi) (hd : oi.dst = some d) (hs : Region.noSelect ops = true) (hf : Region.free md ops listed i = true) (hr : (Region.ready md ops listed).contains i = true)
    (hw : Region.wanted oi (yielded ops a.tmps) = true) (hQ : ∀ c a w, Q (.panic c) (a.put oi.dst v) w → Q (.panic c) a w) (hS : S w) (hy : ∀ w, S w → (execOp a.eval oi).run P w = .ok (.value v) w) (h : wpAnyH P md ops Q S fuel (listed.setIfInBounds i true) (a.put (some d) v) w) : wpAnyH P md ops Q S (fuel + 1) listed a w :=
  wpAnyH_take hi hs hf hr hQ (.inl ⟨hw, hy⟩) hS (hd ▸ h)
theorem held_call {i : Nat} {oi : Oper} (d : Nat) (f : FuncId) (args : Array Value) {fuel : Nat} {listed : Array Bool} {a : Act} {w : World} (hi : ops[i]? = some oi) (hd : oi.dst = some d) (hr : Region.ready md ops listed = [i])
    (hw : Region.wanted oi (yielded ops a.tmps) = true) (hrun : (execOp a.eval oi).run P w = .ok (.enter f args) w) {Post : Ending → World → Prop} (hc : Calls P f args w Post)
    (h : ∀ e w', Post e w' → ∃ v, e = .returned v ∧ S w' ∧ wpAnyH P md ops Q S fuel (listed.setIfInBounds i true) (a.put (some d) v) w') : wpAnyH P md ops Q S (fuel + 1) listed a w := by
  refine wpAnyH_all hr (by simp) fun j hj => ?_
  have : j = i := by simpa using hj
  subst this
  unfold Go.wpOp
  simp only [hi, hw, if_true, Oper.wp, hrun, Oper.upon_enter]
  refine .inl (hc.mono fun e w' hp => ?_)
  obtain ⟨v, rfl, h2, h3⟩ := h e w' hp
  exact ⟨h2, hd ▸ h3⟩
theorem held_run {i : Nat} {oi : Oper} (d : Nat) (v : Value) {fuel : Nat} {listed : Array Bool} {a : Act} {w : World} (w1 : World) (hi : ops[i]? = some oi) (hd : oi.dst = some d) (hr : Region.ready md ops listed = [i])
    (hw : Region.wanted oi (yielded ops a.tmps) = true) (hrun : (execOp a.eval oi).run P w = .ok (.value v) w1) (hS : S w1)
    (h : wpAnyH P md ops Q S fuel (listed.setIfInBounds i true) (a.put (some d) v) w1) : wpAnyH P md ops Q S (fuel + 1) listed a w := by
  refine wpAnyH_all hr (by simp) fun j hj => ?_
  have : j = i := by simpa using hj
  subst this
  unfold Go.wpOp
  simp only [hi, hw, if_true, Oper.wp, hrun, Oper.upon_value]
  exact .inl ⟨hS, hd ▸ h⟩
end
theorem exec_append {w : World} {o : Oper} {a : Act} (s x : Operand) (ho : o.op = .call { callee := .builtin .append, args := #[s, x], argTypes := #[30, 30] })
    (base : Nat) {ao : Option Addr} {cap n : Nat} {E : List (Int × Int)} {ao' : Option Addr} {cap' m : Nat} {F : List (Int × Int)}
    (hs : a.eval s = .slice ao n cap) (hx : a.eval x = .slice ao' m cap') (hown : OwnE w base ao cap E) (hrd : RdE w ao' cap' F) (hn : E.length = n) (hm : F.length = m)
    (hbytes : (n + m) * 16 ≤ 140737488355328) (hbase : base ≤ w.heap.size) :
    ∃ ao2 cap2 w', (execOp a.eval o).run Tryd.prog w = .ok (.value (.slice ao2 (n + m) cap2)) w' ∧ OwnE w' base ao2 cap2 (E ++ F) ∧ Below base w w' := by
  subst hn hm
  obtain ⟨ao2, cap2, w', hr, h2, h3⟩ := run_append_rdE base o.type hown hrd hbytes hbase
  refine ⟨ao2, cap2, w', ?_, h2, h3⟩
  unfold execOp
  simp only [ho, resolve, invoke, builtin, Sem.run_bind, Sem.run_pure, Result.andThen_ok, List.map_toArray, List.map_cons, List.map_nil, hs, hx, hr]
theorem held_append {ops : Array Oper} {Q : Exit → Act → World → Prop} {md : Region.Mode} {S : World → Prop} {i : Nat} {oi : Oper} (d : Nat) (s x : Operand) {fuel : Nat} {listed : Array Bool} {a : Act} {w : World} (hi : ops[i]? = some oi) (hd : oi.dst = some d) (hr : Region.ready md ops listed = [i])
    (hw : Region.wanted oi (yielded ops a.tmps) = true) (ho : oi.op = .call { callee := .builtin .append, args := #[s, x], argTypes := #[30, 30] })
    (base : Nat) {ao : Option Addr} {cap n : Nat} {E : List (Int × Int)} {ao' : Option Addr} {cap' m : Nat} {F : List (Int × Int)}
    (hs : a.eval s = .slice ao n cap) (hx : a.eval x = .slice ao' m cap') (hown : OwnE w base ao cap E) (hrd : RdE w ao' cap' F) (hn : E.length = n) (hm : F.length = m)
    (hbytes : (n + m) * 16 ≤ 140737488355328) (hbase : base ≤ w.heap.size)
    (h : ∀ ao2 cap2 w', OwnE w' base ao2 cap2 (E ++ F) → Below base w w' → S w' ∧ wpAnyH Tryd.prog md ops Q S fuel (listed.setIfInBounds i true) (a.put (some d) (.slice ao2 (n + m) cap2)) w') : wpAnyH Tryd.prog md ops Q S (fuel + 1) listed a w := by
  obtain ⟨ao2, cap2, w', hr2, h2, h3⟩ := exec_append (w := w) (o := oi) (a := a) s x ho base hs hx hown hrd hn hm hbytes hbase
  obtain ⟨h4, h5⟩ := h ao2 cap2 w' h2 h3
  exact held_run d _ w' hi hd hr hw hr2 h4 h5
theorem _root_.Go.Proofs.YteofipheoipeoaaDoor.RdE.head {w : World} {ao : Option Addr} {cap : Nat} {E : List (Int × Int)} (h : RdE w ao cap E) (k : Nat) (hk : k ≤ E.length) : RdE w ao cap (E.take k) := by
  refine ⟨by have := h.le; simp; omega, h.mx, h.nil, fun hx => ?_⟩
  obtain ⟨b, off, e, hlt, hc⟩ := h.cell (by intro e; subst e; simp at hx)
  refine ⟨b, off, e, hlt, fun t ht => ?_⟩
  simp at ht
  have := hc t (by omega)
  simpa using this
theorem _root_.Go.Proofs.YteofipheoipeoaaDoor.RdE.tail {w : World} {ao : Option Addr} {cap : Nat} {E : List (Int × Int)} (h : RdE w ao cap E) (i : Nat) (hi : i ≤ E.length) : RdE w (if cap = i then ao else ao.map (fun x => x.add (i * 2))) (cap - i) (E.drop i) := by
  have hle := h.le
  have hmx := h.mx
  refine ⟨by simp; omega, by omega, fun hn => ?_, fun hx => ?_⟩
  · split at hn
    · omega
    · have := h.nil (by simpa using hn); omega
  · have hij : i < E.length := by
      rcases Nat.lt_or_ge i E.length with h | h
      · exact h
      · exact absurd (List.eq_nil_of_length_eq_zero (by simp; omega)) hx
    obtain ⟨b, off, e, hlt, hc⟩ := h.cell (by intro e; subst e; simp at hij)
    refine ⟨b, off + i * 2, ?_, hlt, fun t ht => ?_⟩
    · rw [if_neg (by omega), e]
      simp [Addr.add_lit]
    · simp at ht
      have := hc (i + t) (by omega)
      rw [show off + (i + t) * 2 = off + i * 2 + t * 2 by omega] at this
      simpa using this

set_option maxHeartbeats 12800000 in
theorem walk (a0 : Option Addr) (c0 n0 : Nat) (z0 : List Int) (a1 : Int) (w : World) (r0 : RdI w .i64 a0 c0 z0) (l0 : z0.length = n0) (b0 : ∀ z ∈ z0, (Lit.int .i64 z).wf = true) (s0 : n0 * 8 ≤ 140737488351232) (wf1 : (Lit.int .i64 a1).wf = true) (H : Tz w) : Calls Tryd.prog 7 #[.slice a0 n0 c0, .int .i64 a1] w fun e w' => e = .returned (.bool true) ∧ Below w.heap.size w w' := by
  have hal := alive_any w H
  clear b0
  by_cases hlo : n0 < 1
  · go_enter Tryd.func7, Tryd.ntmps7
    go_wp2_with (go_at_call 10; refine hal.mono ?_; rintro e w1 ⟨rfl, hb1⟩)
    go_ret
    exact ⟨rfl, hb1⟩
  by_cases hbig : 4 < n0
  · go_enter Tryd.func7, Tryd.ntmps7
    go_wp2_with (go_at_call 10; refine hal.mono ?_; rintro e w1 ⟨rfl, hb1⟩)
    go_ret
    exact ⟨rfl, hb1⟩
  have HL0 : Hid (z0.length = n0) := l0
  clear l0
  go_enter Tryd.func7, Tryd.ntmps7
  go_wp2_with (go_at_call 10; refine hal.mono ?_; rintro e w1 ⟨rfl, hb1⟩; have hs1 := hb1.size)
  go_loopw [31] (fun i wr => ∃ (s : Nat) (F : Nat → Bool) (Z : List Nat), i = .int .i64 s ∧ s ≤ n0 ∧ B4 wr w1.heap.size F ∧ Hid (Part z0 s Z F) ∧ Below w1.heap.size w1 wr) (fun i _ => n0 - (intOf i).toNat)
  case atStart => exact ⟨0, fun _ => false, [], rfl, by omega, ⟨heap_alloc_new w1 _⟩, Part.none z0, by go_grown⟩
  case round =>
    obtain ⟨s, F, Z, rfl, hs, hG, HP, hbel⟩ := hrel
    rename World => wr
    have hbw := hb1.trans (hbel.mono hs1)
    have hGs := hG.lt
    by_cases hls : s < n0
    · have hsl : s < z0.length := by have := HL0.out; omega
      obtain ⟨b, off, rfl, hbl, hcs⟩ := (r0.below hbw).at hsl
      have k0 := hcs s hsl
      clear hcs
      have he : z0[s]? = some z0[s] := List.getElem?_eq_getElem hsl
      generalize z0[s] = x at *
      have HE : Hid (z0[s]? = some x) := he
      clear he
      have e6 : decide ((s : Int) < (n0 : Int)) = true := by simp; omega
      by_cases h1 : x < 0
      · go_wp2
        go_ret
        exact ⟨rfl, hbw⟩
      by_cases h2 : 3 < x
      · go_wp2
        go_ret
        exact ⟨rfl, hbw⟩
      obtain ⟨j, rfl⟩ : ∃ j : Nat, x = j := ⟨x.toNat, by omega⟩
      have hj : j < 4 := by omega
      have g0 := hG.cell j hj
      have f0 := hG.fz j
      cases hF : F j
      · rw [hF] at g0
        have HF : Hid (F j = false) := hF
        clear hF
        go_wp2
        go_roundw
        case rel => exact ⟨s + 1, putB F j true, Z ++ [j], by go_num, by omega, hG.put j true hj, HP.out.next hj HE.out HF.out, below_set hbel (Nat.le_refl _) _⟩
        case measure => simp [intOf]; omega
      · rw [hF] at g0
        clear hF
        go_wp2
        go_ret
        exact ⟨rfl, hbw⟩
    · obtain rfl : s = n0 := by omega
      have e6 : decide ((s : Int) < (s : Int)) = false := by simp
      have hP := HP.out
      have hz : z0 = Z.map (fun z : Nat => (z : Int)) := by have := hP.eq; rwa [List.take_of_length_le (by have := HL0.out; omega)] at this
      have hZl : Z.length = s := by have := HL0.out; rw [hz] at this; simpa using this
      have hR := ring_of Z (by omega) (by omega) hP.lt hP.nd
      have HR : Hid (Ring Z ∧ Z.length = s ∧ z0 = Z.map (fun z : Nat => (z : Int)) ∧ ∀ j, j < 4 → F j = Z.contains j) := ⟨hR, hZl, hz, hP.mark⟩
      clear hR hZl hz hP HP
      obtain ⟨wA, hwA⟩ : ∃ x, x = wr := ⟨_, rfl⟩
      subst hwA
      go_wp2
      go_loopw [8, 9, 52] (fun v mo i wr => ∃ (t : Nat) (ao : Option Addr) (m cap : Nat), t ≤ s ∧ i = .int .i64 t ∧ mo = .int .i64 (mx Z t : Nat) ∧ v = .slice ao m cap ∧ m = t ∧ Hid (OwnE wr wA.heap.size ao cap (rg Z t)) ∧ Below wA.heap.size wA wr) (fun _ _ i _ => s - (intOf i).toNat)
      case atStart => exact ⟨0, _, 0, 0, by omega, rfl, rfl, rfl, rfl, OwnE.fresh wA wA.heap.size (Nat.le_refl _), by go_grown⟩
      case round =>
        obtain ⟨t, ao, m, cap, ht, rfl, rfl, rfl, rfl, HO, hbA⟩ := hrel
        rename World => wi
        by_cases hlt : m < s
        · have hbI := hbw.trans (hbA.mono hbw.size)
          have hsl : m < z0.length := by have := HL0.out; omega
          obtain ⟨b, off, rfl, hbl, hcs⟩ := (r0.below hbI).at hsl
          have k0 := hcs m hsl
          have k1 := hcs 0 (by omega)
          rw [map_get HR.out.2.2.1] at k0 k1
          simp only [Nat.add_zero] at k1
          have e6 : decide ((m : Int) < (s : Int)) = true := by simp; omega
          by_cases hlast : m + 1 < s
          · have k2 := hcs (m + 1) (by have := HL0.out; omega)
            rw [map_get HR.out.2.2.1] at k2
            have k3 := k2
            rw [← Nat.add_assoc] at k3
            have HX : Hid (nx Z m = Z.getD (m + 1) 0) := by
              have := HR.out.2.1
              exact if_pos (by omega)
            clear hcs
            generalize hx : Z.getD m 0 = x at *
            generalize hy : Z.getD (m + 1) 0 = y at *
            generalize Z.getD 0 0 = y0 at *
            have HZ : Hid (Z.getD m 0 = x) := hx
            clear hx hy
            go_wp2_with (at_builtin; refine wpList_append_rdE _ rfl _ _ rfl wA.heap.size rfl rfl (HO.out.alloc _) (RdE.built _ #[.int .i64 (x : Int), .int .i64 (y : Int)] [((x : Int), (y : Int))] rfl (by simp [maxLen]) 1 rfl) (rg_len Z m) rfl (by omega) (by have := hbA.size; simp; omega) ?_; intro ao2 cap2 w3 ho3 hb3)
            refine ⟨⟨m + 1, ao2, m + 1, cap2, by omega, rfl, mx_step HZ.out, rfl, rfl, ?_, hbA.trans (((Below.refl _ _).alloc hbA.size _).trans hb3)⟩, by simp [intOf]; omega⟩
            have h8 : rg Z (m + 1) = rg Z m ++ [((x : Int), (y : Int))] := by rw [rg, HZ.out, HX.out]
            rw [h8]
            exact ho3
          · have HX : Hid (nx Z m = Z.getD 0 0) := by
              have := HR.out.2.1
              exact if_neg (by omega)
            clear hcs
            generalize hx : Z.getD m 0 = x at *
            generalize Z.getD 0 0 = y at *
            have HZ : Hid (Z.getD m 0 = x) := hx
            clear hx
            go_wp2_with (at_builtin; refine wpList_append_rdE _ rfl _ _ rfl wA.heap.size rfl rfl (HO.out.alloc _) (RdE.built _ #[.int .i64 (x : Int), .int .i64 (y : Int)] [((x : Int), (y : Int))] rfl (by simp [maxLen]) 1 rfl) (rg_len Z m) rfl (by omega) (by have := hbA.size; simp; omega) ?_; intro ao2 cap2 w3 ho3 hb3)
            refine ⟨⟨m + 1, ao2, m + 1, cap2, by omega, rfl, mx_step HZ.out, rfl, rfl, ?_, hbA.trans (((Below.refl _ _).alloc hbA.size _).trans hb3)⟩, by simp [intOf]; omega⟩
            have h8 : rg Z (m + 1) = rg Z m ++ [((x : Int), (y : Int))] := by rw [rg, HZ.out, HX.out]
            rw [h8]
            exact ho3
        · obtain rfl : m = s := by omega
          have hbI := hbw.trans (hbA.mono hbw.size)
          have hTI := H.on hbI
          have hRg := HO.out.rd
          have hvi := victim_any wi ao m cap (rg Z m) hRg (rg_len Z m) hTI
          have h0 : vcI (rg Z m) = (mx Z m : Nat) ∧ vcB (rg Z m) = true := by
            have h1 := HR.out.1.vi
            have h2 := HR.out.1.vb
            rw [HR.out.2.1] at h1 h2
            exact ⟨h1, h2⟩
          rw [h0.1, h0.2] at hvi
          clear h0
          have hGi := hG.below hbA
          generalize hq : mx Z m = q at *
          clear hq
          go_wp2_with (go_at_call 9; refine hvi.mono ?_; rintro e w2 ⟨rfl, hb2⟩; have hG2 := hGi.below hb2; have hR2 := hRg.below hb2; have hT2 := hTI.on hb2)
          go_loopw [15] (fun i wr => ∃ c : Nat, i = .int .i64 c ∧ c ≤ 4 ∧ Below w2.heap.size w2 wr) (fun i _ => 4 - (intOf i).toNat)
          case atStart => exact ⟨0, rfl, by omega, Below.refl _ _⟩
          case round =>
            obtain ⟨c, rfl, hc4, hb3⟩ := hrel
            rename World => wj
            by_cases hlc : c < 4
            · have e7 : decide ((c : Int) < 4) = true := by simp; omega
              have hcy := cycle_any wj.drew ao m cap (rg Z m) (RdE.heap (hR2.below hb3) rfl) (rg_len Z m) (Tz.heap (hT2.on hb3) rfl) (c : Int)
              have h0 : cyB (rg Z m) (c : Int) = F c := by
                have h1 := HR.out.1.cy c hlc
                rw [HR.out.2.1] at h1
                rw [cy_nat hlc, h1, HR.out.2.2.2 c hlc]
              rw [h0] at hcy
              clear h0
              have g0 := (hG2.below hb3).cell c hlc
              have hl0 := (hG2.below hb3).lt
              generalize F c = fc at *
              go_upto_region 30 with fail
              go_region_held (fun W => W.cell? ⟨w1.heap.size, c, none⟩ = some (.bool fc))
                (first | exact g0 | exact hk5 | fail)
                ((go_at_call 12; refine hcy.mono ?_; rintro e w5 ⟨rfl, hb5⟩; have hk5 : w5.cell? ⟨w1.heap.size, c, none⟩ = some (.bool fc) := (hb5.cell (p := ⟨w1.heap.size, c, none⟩) hl0).trans g0))
              all_goals go_wp2
              all_goals exact ⟨⟨c + 1, rfl, by omega, below_step hb3 ⟨hb5.os, hb5.tape, hb5.output, hb5.size, hb5.block⟩⟩, by simp [intOf]; omega⟩
            · obtain rfl : c = 4 := by omega
              have e7 : decide (((4 : Nat) : Int) < 4) = false := by simp
              have hbJ := below_step (below_step hbI hb2) hb3
              by_cases hm0 : a1 < 0
              · go_wp2
                go_ret
                exact ⟨rfl, hbJ⟩
              by_cases hm1 : (m : Int) ≤ a1
              · go_wp2
                go_ret
                exact ⟨rfl, hbJ⟩
              obtain ⟨k, rfl⟩ : ∃ k : Nat, a1 = k := ⟨a1.toNat, by omega⟩
              have hkm : k < m := by omega
              have hRj := hR2.below hb3
              obtain ⟨bq, oq, rfl, _, _, _⟩ := hRj.at (t := 0) (by rw [rg_len]; omega)
              have hRh := hRj.head k (by rw [rg_len]; omega)
              have hRt := hRj.tail (k + 1) (by rw [rg_len]; omega)
              have hkl : ((rg Z m).take k).length = k := by rw [List.length_take, rg_len]; omega
              have htl : ((rg Z m).drop (k + 1)).length = m - (k + 1) := by rw [List.length_drop, rg_len]
              have HKL : Hid (((rg Z m).take k).length = k ∧ ((rg Z m).drop (k + 1)).length = m - (k + 1)) := ⟨hkl, htl⟩
              clear hkl htl
              have hcut : vcB (cut (rg Z m) k) = false := by
                have h1 := HR.out.1.cut k (by rw [HR.out.2.1]; exact hkm)
                rwa [HR.out.2.1] at h1
              have HC : Hid (vcB (cut (rg Z m) k) = false) := hcut
              clear hcut
              have hle := hRj.le
              rw [rg_len] at hle
              have HKL2 : Hid (([] ++ (rg Z m).take k).length = k) := HKL.out.1
              have hk3 : ([] ++ (rg Z m).take k ++ (rg Z m).drop (k + 1)).length = k + (m - (k + 1)) := by
                rw [List.length_append, HKL.out.2]
                exact congrArg (· + (m - (k + 1))) HKL2.out
              have HKL3 : Hid (([] ++ (rg Z m).take k ++ (rg Z m).drop (k + 1)).length = k + (m - (k + 1))) := hk3
              clear hk3
              have HC2 : Hid (vcB ([] ++ (rg Z m).take k ++ (rg Z m).drop (k + 1)) = false) := HC.out
              have hwk : IntKind.i64.wrap ((k : Int) + 1) = (k : Int) + 1 := by have : k < 4 := (by omega); match k, this with | 0, _ | 1, _ | 2, _ | 3, _ => rfl
              have hcaps : cap = k + 1 ∨ cap ≠ k + 1 := Decidable.em _
              rcases hcaps with hcap | hcap
              · obtain rfl : m = k + 1 := by omega
                rw [if_pos hcap] at hRt
                subst hcap
                rw [Nat.sub_self] at hRt
                have hB1 : Below wj.heap.size wj (wj.alloc (.cells #[] 29)).drew := by go_grown
                have hbD : Below wj.heap.size wj wj.drew := ⟨rfl, rfl, rfl, Nat.le_refl _, fun _ _ => rfl⟩
                go_upto_region 34 with fail
                refine wp_region_held (S := fun W => Below wj.heap.size wj W) (by kernel_rfl) ?_
                show wpAnyH _ _ _ _ _ _ _ _ wj.drew
                refine held_val (i := 1) ?_ 113 rfl rfl (by kernel_rfl) (by kernel_rfl) (by kernel_rfl) (by rfl) (fun _ _ _ h => h) hbD ?_ ?_
                rotate_left
                · (intro w hSw; go_simp; first | done | with_reducible rfl)
                simp only [Act.put, List.setIfInBounds_toArray, List.set_cons_zero, List.set_cons_succ]
                refine held_val (i := 2) ?_ 114 rfl rfl (by kernel_rfl) (by kernel_rfl) (by kernel_rfl) (by rfl) (fun _ _ _ h => h) hbD ?_ ?_
                rotate_left
                · (intro w hSw; go_simp; first | done | with_reducible rfl)
                simp only [Act.put, List.setIfInBounds_toArray, List.set_cons_zero, List.set_cons_succ]
                refine held_val (i := 3) (.slice (some ⟨bq, oq, none⟩) k (k + 1)) 115 rfl rfl (by kernel_rfl) (by kernel_rfl) (by kernel_rfl) (by rfl) (fun _ _ _ h => h) hbD (fun w hSw => by (go_simp; first | done | (intro h; exfalso; omega) | (intro h; exfalso; have := h (by omega); omega))) ?_
                simp only [Act.put, List.setIfInBounds_toArray, List.set_cons_zero, List.set_cons_succ]
                refine held_val (i := 5) ?_ 117 rfl rfl (by kernel_rfl) (by kernel_rfl) (by kernel_rfl) (by rfl) (fun _ _ _ h => h) hbD ?_ ?_
                rotate_left
                · (intro w hSw; go_simp; first | done | with_reducible rfl)
                simp only [Act.put, List.setIfInBounds_toArray, List.set_cons_zero, List.set_cons_succ]
                refine held_val (i := 6) ?_ 118 rfl rfl (by kernel_rfl) (by kernel_rfl) (by kernel_rfl) (by rfl) (fun _ _ _ h => h) hbD ?_ ?_
                rotate_left
                · (intro w hSw; go_simp; first | done | with_reducible rfl)
                simp only [Act.put, List.setIfInBounds_toArray, List.set_cons_zero, List.set_cons_succ]
                refine held_val (i := 7) (.int .i64 ((k + 1 : Nat) : Int)) 119 rfl rfl (by kernel_rfl) (by kernel_rfl) (by kernel_rfl) (by rfl) (fun _ _ _ h => h) hbD (fun w hSw => by (go_simp; first | done | (intro h; exfalso; omega) | (intro h; exfalso; have := h (by omega); omega))) ?_
                simp only [Act.put, List.setIfInBounds_toArray, List.set_cons_zero, List.set_cons_succ]
                refine held_val (i := 8) (.slice (some ⟨bq, oq, none⟩) 0 0) 120 rfl rfl (by kernel_rfl) (by kernel_rfl) (by kernel_rfl) (by rfl) (fun _ _ _ h => h) hbD (fun w hSw => by (go_simp; first | done | (intro h; exfalso; omega) | (intro h; exfalso; have := h (by omega); omega))) ?_
                simp only [Act.put, List.setIfInBounds_toArray, List.set_cons_zero, List.set_cons_succ]
                refine held_run (i := 0) 112 (.slice (some ⟨wj.heap.size, 0, none⟩) 0 0) (wj.alloc (.cells #[] 29)).drew rfl rfl (by kernel_rfl) (by rfl) (by go_simp) hB1 ?_
                simp only [Act.put, List.setIfInBounds_toArray, List.set_cons_zero, List.set_cons_succ]
                have ht0 : ((rg Z (k + 1)).drop (k + 1)).length = 0 := by have := HKL.out.2; omega
                have HT0 : Hid (((rg Z (k + 1)).drop (k + 1)).length = 0) := ht0
                clear ht0
                refine held_append (i := 4) (n := 0) (m := k) (E := []) 116 (.tmp 112) (.tmp 115) rfl rfl (by kernel_rfl) (by rfl) rfl wj.heap.size rfl rfl (show OwnE (wj.alloc (.cells #[] 29)).drew wj.heap.size _ _ [] from OwnE.fresh wj _ (Nat.le_refl _)) (show RdE (wj.alloc (.cells #[] 29)).drew _ _ _ from RdE.heap (hRh.alloc _) rfl) rfl HKL.out.1 (by omega) (by simp) ?_
                intro ao3 cap3 w3 ho3 hb4
                have hB3 := hB1.trans hb4
                refine ⟨hB3, ?_⟩
                simp only [Act.put, List.setIfInBounds_toArray, List.set_cons_zero, List.set_cons_succ]
                refine held_append (i := 9) (n := 0 + k) (m := 0) (E := [] ++ (rg Z (k + 1)).take k) (F := (rg Z (k + 1)).drop (k + 1)) 121 (.tmp 116) (.tmp 120) rfl rfl (by kernel_rfl) (by rfl) rfl wj.heap.size rfl rfl ho3 (hRt.below hB3) (by have := HKL.out.1; simpa using this) HT0.out (by omega) hB3.size ?_
                intro ao4 cap4 w4 ho4 hb6
                have hB4 := hB3.trans hb6
                refine ⟨hB4, ?_⟩
                simp only [Act.put, List.setIfInBounds_toArray, List.set_cons_zero, List.set_cons_succ]
                have hT4 := hT2.on (below_step hb3 hB4)
                have hk3 : ([] ++ (rg Z (k + 1)).take k ++ (rg Z (k + 1)).drop (k + 1)).length = 0 + k + (0) := by
                  have h1 := HKL.out.1
                  have h2 := HT0.out
                  rw [List.length_append, h2, List.nil_append, h1, Nat.zero_add]
                have hvj := victim_any w4 ao4 (0 + k + (0)) cap4 ([] ++ (rg Z (k + 1)).take k ++ (rg Z (k + 1)).drop (k + 1)) ho4.rd hk3 hT4
                rw [show vcB ([] ++ (rg Z (k + 1)).take k ++ (rg Z (k + 1)).drop (k + 1)) = false from HC.out] at hvj
                clear hk3
                refine held_call (i := 10) 122 9 #[.slice ao4 (0 + k + (0)) cap4] rfl rfl (by kernel_rfl) (by rfl) (by simp [go_sem]) hvj ?_
                rintro e w7 ⟨rfl, hb7⟩
                have hB7 := below_step hB4 hb7
                refine ⟨_, rfl, hB7, ?_⟩
                simp only [Act.put, List.setIfInBounds_toArray, List.set_cons_zero, List.set_cons_succ]
                refine held_val (i := 11) ?_ 111 rfl rfl (by kernel_rfl) (by kernel_rfl) (by kernel_rfl) (by rfl) (fun _ _ _ h => h) hB7 ?_ ?_
                rotate_left
                · (intro w hSw; go_simp; first | done | with_reducible rfl)
                simp only [Act.put, List.setIfInBounds_toArray, List.set_cons_zero, List.set_cons_succ]
                refine held_val (i := 12) ?_ 123 rfl rfl (by kernel_rfl) (by kernel_rfl) (by kernel_rfl) (by rfl) (fun _ _ _ h => h) hB7 ?_ ?_
                rotate_left
                · (intro w hSw; go_simp; first | done | with_reducible rfl)
                simp only [Act.put, List.setIfInBounds_toArray, List.set_cons_zero, List.set_cons_succ]
                refine held_val (i := 13) ?_ 124 rfl rfl (by kernel_rfl) (by kernel_rfl) (by kernel_rfl) (by rfl) (fun _ _ _ h => h) hB7 ?_ ?_
                rotate_left
                · (intro w hSw; go_simp; first | done | with_reducible rfl)
                simp only [Act.put, List.setIfInBounds_toArray, List.set_cons_zero, List.set_cons_succ]
                refine held_val (i := 14) ?_ 16 rfl rfl (by kernel_rfl) (by kernel_rfl) (by kernel_rfl) (by rfl) (fun _ _ _ h => h) hB7 ?_ ?_
                rotate_left
                · (intro w hSw; go_simp; first | done | with_reducible rfl)
                simp only [Act.put, List.setIfInBounds_toArray, List.set_cons_zero, List.set_cons_succ]
                refine held_val (i := 15) ?_ 17 rfl rfl (by kernel_rfl) (by kernel_rfl) (by kernel_rfl) (by rfl) (fun _ _ _ h => h) hB7 ?_ ?_
                rotate_left
                · (intro w hSw; go_simp; first | done | with_reducible rfl)
                simp only [Act.put, List.setIfInBounds_toArray, List.set_cons_zero, List.set_cons_succ]
                refine wpAnyH_done (by kernel_rfl) ?_ _
                go_wp2
                go_ret
                exact ⟨rfl, below_step hbJ hB7⟩
              · rw [if_neg hcap] at hRt
                simp only [Option.map_some, Addr.add_lit] at hRt
                have hB1 : Below wj.heap.size wj (wj.alloc (.cells #[] 29)).drew := by go_grown
                have hbD : Below wj.heap.size wj wj.drew := ⟨rfl, rfl, rfl, Nat.le_refl _, fun _ _ => rfl⟩
                go_upto_region 34 with fail
                refine wp_region_held (S := fun W => Below wj.heap.size wj W) (by kernel_rfl) ?_
                show wpAnyH _ _ _ _ _ _ _ _ wj.drew
                refine held_val (i := 1) ?_ 113 rfl rfl (by kernel_rfl) (by kernel_rfl) (by kernel_rfl) (by rfl) (fun _ _ _ h => h) hbD ?_ ?_
                rotate_left
                · (intro w hSw; go_simp; first | done | with_reducible rfl)
                simp only [Act.put, List.setIfInBounds_toArray, List.set_cons_zero, List.set_cons_succ]
                refine held_val (i := 2) ?_ 114 rfl rfl (by kernel_rfl) (by kernel_rfl) (by kernel_rfl) (by rfl) (fun _ _ _ h => h) hbD ?_ ?_
                rotate_left
                · (intro w hSw; go_simp; first | done | with_reducible rfl)
                simp only [Act.put, List.setIfInBounds_toArray, List.set_cons_zero, List.set_cons_succ]
                refine held_val (i := 3) (.slice (some ⟨bq, oq, none⟩) k (cap)) 115 rfl rfl (by kernel_rfl) (by kernel_rfl) (by kernel_rfl) (by rfl) (fun _ _ _ h => h) hbD (fun w hSw => by (go_simp; first | done | (intro h; exfalso; omega) | (intro h; exfalso; have := h (by omega); omega))) ?_
                simp only [Act.put, List.setIfInBounds_toArray, List.set_cons_zero, List.set_cons_succ]
                refine held_val (i := 5) ?_ 117 rfl rfl (by kernel_rfl) (by kernel_rfl) (by kernel_rfl) (by rfl) (fun _ _ _ h => h) hbD ?_ ?_
                rotate_left
                · (intro w hSw; go_simp; first | done | with_reducible rfl)
                simp only [Act.put, List.setIfInBounds_toArray, List.set_cons_zero, List.set_cons_succ]
                refine held_val (i := 6) ?_ 118 rfl rfl (by kernel_rfl) (by kernel_rfl) (by kernel_rfl) (by rfl) (fun _ _ _ h => h) hbD ?_ ?_
                rotate_left
                · (intro w hSw; go_simp; first | done | with_reducible rfl)
                simp only [Act.put, List.setIfInBounds_toArray, List.set_cons_zero, List.set_cons_succ]
                refine held_val (i := 7) (.int .i64 ((k + 1 : Nat) : Int)) 119 rfl rfl (by kernel_rfl) (by kernel_rfl) (by kernel_rfl) (by rfl) (fun _ _ _ h => h) hbD (fun w hSw => by (go_simp; first | done | (intro h; exfalso; omega) | (intro h; exfalso; have := h (by omega); omega))) ?_
                simp only [Act.put, List.setIfInBounds_toArray, List.set_cons_zero, List.set_cons_succ]
                refine held_val (i := 8) (.slice (some ⟨bq, oq + (k + 1) * 2, none⟩) (m - (k + 1)) (cap - (k + 1))) 120 rfl rfl (by kernel_rfl) (by kernel_rfl) (by kernel_rfl) (by rfl) (fun _ _ _ h => h) hbD (fun w hSw => by (go_simp; first | done | (intro h; exfalso; omega) | (intro h; exfalso; have := h (by omega); omega))) ?_
                simp only [Act.put, List.setIfInBounds_toArray, List.set_cons_zero, List.set_cons_succ]
                refine held_run (i := 0) 112 (.slice (some ⟨wj.heap.size, 0, none⟩) 0 0) (wj.alloc (.cells #[] 29)).drew rfl rfl (by kernel_rfl) (by rfl) (by go_simp) hB1 ?_
                simp only [Act.put, List.setIfInBounds_toArray, List.set_cons_zero, List.set_cons_succ]
                refine held_append (i := 4) (n := 0) (m := k) (E := []) 116 (.tmp 112) (.tmp 115) rfl rfl (by kernel_rfl) (by rfl) rfl wj.heap.size rfl rfl (show OwnE (wj.alloc (.cells #[] 29)).drew wj.heap.size _ _ [] from OwnE.fresh wj _ (Nat.le_refl _)) (show RdE (wj.alloc (.cells #[] 29)).drew _ _ _ from RdE.heap (hRh.alloc _) rfl) rfl HKL.out.1 (by omega) (by simp) ?_
                intro ao3 cap3 w3 ho3 hb4
                have hB3 := hB1.trans hb4
                refine ⟨hB3, ?_⟩
                simp only [Act.put, List.setIfInBounds_toArray, List.set_cons_zero, List.set_cons_succ]
                refine held_append (i := 9) (n := 0 + k) (m := m - (k + 1)) (E := [] ++ (rg Z m).take k) (F := (rg Z m).drop (k + 1)) 121 (.tmp 116) (.tmp 120) rfl rfl (by kernel_rfl) (by rfl) rfl wj.heap.size rfl rfl ho3 (hRt.below hB3) (by have := HKL.out.1; simpa using this) HKL.out.2 (by omega) hB3.size ?_
                intro ao4 cap4 w4 ho4 hb6
                have hB4 := hB3.trans hb6
                refine ⟨hB4, ?_⟩
                simp only [Act.put, List.setIfInBounds_toArray, List.set_cons_zero, List.set_cons_succ]
                have hT4 := hT2.on (below_step hb3 hB4)
                have hk3 : ([] ++ (rg Z m).take k ++ (rg Z m).drop (k + 1)).length = 0 + k + (m - (k + 1)) := by
                  have h1 := HKL.out.1
                  have h2 := HKL.out.2
                  rw [List.length_append, h2, List.nil_append, h1, Nat.zero_add]
                have hvj := victim_any w4 ao4 (0 + k + (m - (k + 1))) cap4 ([] ++ (rg Z m).take k ++ (rg Z m).drop (k + 1)) ho4.rd hk3 hT4
                rw [show vcB ([] ++ (rg Z m).take k ++ (rg Z m).drop (k + 1)) = false from HC.out] at hvj
                clear hk3
                refine held_call (i := 10) 122 9 #[.slice ao4 (0 + k + (m - (k + 1))) cap4] rfl rfl (by kernel_rfl) (by rfl) (by simp [go_sem]) hvj ?_
                rintro e w7 ⟨rfl, hb7⟩
                have hB7 := below_step hB4 hb7
                refine ⟨_, rfl, hB7, ?_⟩
                simp only [Act.put, List.setIfInBounds_toArray, List.set_cons_zero, List.set_cons_succ]
                refine held_val (i := 11) ?_ 111 rfl rfl (by kernel_rfl) (by kernel_rfl) (by kernel_rfl) (by rfl) (fun _ _ _ h => h) hB7 ?_ ?_
                rotate_left
                · (intro w hSw; go_simp; first | done | with_reducible rfl)
                simp only [Act.put, List.setIfInBounds_toArray, List.set_cons_zero, List.set_cons_succ]
                refine held_val (i := 12) ?_ 123 rfl rfl (by kernel_rfl) (by kernel_rfl) (by kernel_rfl) (by rfl) (fun _ _ _ h => h) hB7 ?_ ?_
                rotate_left
                · (intro w hSw; go_simp; first | done | with_reducible rfl)
                simp only [Act.put, List.setIfInBounds_toArray, List.set_cons_zero, List.set_cons_succ]
                refine held_val (i := 13) ?_ 124 rfl rfl (by kernel_rfl) (by kernel_rfl) (by kernel_rfl) (by rfl) (fun _ _ _ h => h) hB7 ?_ ?_
                rotate_left
                · (intro w hSw; go_simp; first | done | with_reducible rfl)
                simp only [Act.put, List.setIfInBounds_toArray, List.set_cons_zero, List.set_cons_succ]
                refine held_val (i := 14) ?_ 16 rfl rfl (by kernel_rfl) (by kernel_rfl) (by kernel_rfl) (by rfl) (fun _ _ _ h => h) hB7 ?_ ?_
                rotate_left
                · (intro w hSw; go_simp; first | done | with_reducible rfl)
                simp only [Act.put, List.setIfInBounds_toArray, List.set_cons_zero, List.set_cons_succ]
                refine held_val (i := 15) ?_ 17 rfl rfl (by kernel_rfl) (by kernel_rfl) (by kernel_rfl) (by rfl) (fun _ _ _ h => h) hB7 ?_ ?_
                rotate_left
                · (intro w hSw; go_simp; first | done | with_reducible rfl)
                simp only [Act.put, List.setIfInBounds_toArray, List.set_cons_zero, List.set_cons_succ]
                refine wpAnyH_done (by kernel_rfl) ?_ _
                go_wp2
                go_ret
                exact ⟨rfl, below_step hbJ hB7⟩

theorem reads (os : Os) {H : Type} (enc : TypeId × Value → H) : ∃ places, DataW.whole enc Tryd.prog ((laidWorld os).forCall (fun _ _ => 0) ⟨#[], #[.slice none 0 0, .int .i64 0], []⟩).memory Tryd.f7.params.toList Rows.waitsRingsSpec.vars false (#[.slice none 0 0, .int .i64 0] : Array Value).toList 8 = some ([.nil, .lit (.int .i64 0)], [], places) :=
  ⟨[], by kernel_rfl⟩

set_option maxRecDepth 100000 in
theorem lifted (os : Os) (started : os.Started) (H : Type) (enc : TypeId × Value → H) (F : Stop.Interp) :
    ReturnsInHanded {} Tryd.checked os 7 .any ((OpenSpec.ofChange Rows.waitsRingsSpec).preRow enc Tryd.prog Tryd.f7 Rows.waitsRingsRow.domain false Rows.waitsRingsRow.laid) (((OpenSpec.ofChange Rows.waitsRingsSpec).at F).post enc Tryd.prog Tryd.f7 false true false false) := by
  obtain ⟨places, hx⟩ := reads os enc
  refine returnsInHanded_of_row (C := Tryd.checked) (s := OpenSpec.ofChange Rows.waitsRingsSpec) own started (by kernel_rfl) Tryd.func7
    (witness_row_at (enc := enc) (C := Tryd.checked) false (laidWorld os) #[.slice none 0 0, .int .i64 0] rfl (by kernel_rfl) (by kernel_rfl) (by kernel_rfl)
      (OpenSpec.preRow_of_cond 8 hx (by kernel_rfl) (fun k hk => by cases hk) (by kernel_rfl) (laid_met os _))) ?_
  intro W base args ds gs before hval0 hW _ _ hsz0 hL _ _
  have HT : Tz W := tz_of_laid hL
  have hval : ∀ (j : Nat) t v, Tryd.f7.params[j]? = some t → args[j]? = some v → Value.okWide Tryd.prog W .any base t v := hval0
  have hsz : (DataW.weightsEach Tryd.prog (Tryd.f7.params.toList ++ Rows.waitsRingsSpec.plain.varTypes Tryd.prog) (ds ++ gs)).all (· ≤ reachBytes) = true := hsz0
  have hW' := hW
  obtain ⟨p, q, hA0, hV, rfl, hfz, hnd⟩ := hW
  have hA : DataW.TrodAll enc Tryd.prog W 0 (fun _ => true) true Tryd.f7.params.toList args.toList ds p := hA0
  rw [Tryd.params7] at hA hval hsz
  obtain ⟨v0, vs0, d0, ds0, p0, q0, hargs, rfl, rfl, h0, r0⟩ := trodAll_cons hA
  obtain ⟨v1, vs1, d1, ds1, p1, q1, rfl, rfl, rfl, h1, r1⟩ := trodAll_cons r0
  obtain ⟨rfl, rfl, rfl⟩ := trodAll_nil r1
  obtain rfl : args = #[v0, v1] := by cases args; simp_all
  obtain ⟨rfl, rfl⟩ := trodVars_none hV
  obtain ⟨a0, n0, c0, rfl⟩ := okWide_slice Tryd.underlying25 (hval 0 25 v0 rfl rfl)
  have k0 := h0
  have lt0 : ∀ x ∈ p0, x.block < W.heap.size := by obtain ⟨m, hm⟩ := k0; exact DataW.trod_lt m _ _ _ hm
  obtain ⟨z0, r0', l0, b0, s0⟩ : ∃ zs, RdI W .i64 a0 c0 zs ∧ zs.length = n0 ∧ (∀ z ∈ zs, (Lit.int .i64 z).wf = true) ∧ n0 * 8 ≤ 140737488351232 := by
    obtain ⟨fuel, hf⟩ := h0
    rcases open_ints Tryd.underlying25 Tryd.underlying3 (by kernel_rfl) hf with ⟨hcs, _⟩ | ⟨x, l, c, zs, hcs, _, hl, hm, hz, hx, hcell, hwz⟩
    · simp [Value.cells] at hcs
      obtain ⟨rfl, rfl, rfl⟩ := hcs
      exact ⟨[], RdI.empty W .i64, rfl, by simp, by omega⟩
    · simp [Value.cells] at hcs
      obtain ⟨rfl, rfl, rfl⟩ := hcs
      have hd : d0 = .slice (lits .i64 (zs.take n0)) (lits .i64 (zs.drop n0)) := (Prod.mk.inj hx).1
      have hs := sized_slice hsz (j := 0) (t := 25) (e := 3) rfl (by rw [hd]; rfl) Tryd.underlying25
      have hz2 : zs.length = c0 := by simpa using hz
      rw [bytes3] at hs
      simp only [lits, List.length_map, List.length_take, List.length_drop, reachBytes] at hs
      exact ⟨zs.take n0, rdI_of_row hl hm hz2 hcell, by simp; omega, fun z h => hwz z (List.mem_of_mem_take h), by omega⟩
  obtain ⟨a1, rfl, rfl, rfl, w1⟩ := open_int Tryd.underlying3 (hval 1 3 v1 rfl rfl) h1
  clear hA0 hval0 hsz0
  refine (walk a0 c0 n0 z0 a1 W r0' l0 b0 s0 w1 HT).mono fun e W' ⟨he, bel⟩ => ?_
  subst he
  exact ⟨_, rfl, _, _, _, [], _, [], hW', trodAll_mk1 (shut_bool Tryd.underlying4 _), (trodAll_cons_mk (Below.trod laidOut (by kernel_rfl) (of_decide_eq_true (by kernel_rfl)) k0 bel lt0) (trodAll_cons_mk (shut_int Tryd.underlying3 w1) trodAll_mk0)), rfl, bel.frame _, fun h => by cases h⟩

theorem said : Rows.WaitsRingsSaid :=
  OpenClaim.holds_of_cond 7 Tryd.f7 rfl rfl rfl rfl rfl rfl rfl ⟨rfl, rfl, rfl, rfl, rfl⟩ rfl rfl rfl rfl rfl (by kernel_rfl) Tryd.func7 (by kernel_rfl)
    (of_decide_eq_true (by kernel_rfl)) (by unfold Func.isWrapper; first | (rw [if_pos (by decide +kernel)]; kernel_rfl) | (rw [if_neg (by decide +kernel)]; exact ⟨rfl, rfl⟩))
    (fun os started H enc _ F => by rw [OpenClaim.pre_eq_preRow]; exact lifted os started H enc F)

theorem plain (f : FuncId) (fn : Func) (hf : Tryd.pinned.checked.prog.funcNamed "cloakroom/cloakroomlaw13.WaitsRings" = some f) (hfn : Tryd.pinned.checked.prog.funcs[f]? = some fn) :
    false = Tryd.pinned.checked.prog.looks [] ∧ ∀ (j : Nat) t, fn.params[j]? = some t → Tryd.pinned.checked.prog.wantsStandIn t = false := by
  obtain rfl : f = 7 := Option.some.inj ((show Tryd.prog.funcNamed "cloakroom/cloakroomlaw13.WaitsRings" = some 7 by kernel_rfl).symm.trans hf) |>.symm
  obtain rfl : fn = Tryd.f7 := (Option.some.inj (Tryd.func7.symm.trans hfn)).symm
  refine ⟨by kernel_rfl, fun j t ht => ?_⟩
  rw [Tryd.params7] at ht
  have hm : t = 25 ∨ t = 3 := by
    have := Array.mem_of_getElem? ht
    simpa using this
  rcases hm with rfl | rfl
  · exact (show Tryd.prog.wantsStandIn 25 = false by kernel_rfl)
  · exact (show Tryd.prog.wantsStandIn 3 = false by kernel_rfl)

theorem proved : Rows.WaitsRingsCardSaid :=
  Claim7.holds_tied_plain_at .later [] _ _ _ _ said (fun _ h => by cases h) (by kernel_rfl) (fun _ h => by cases h) waitsRings_row_tie rfl ⟨rfl, rfl⟩ (by kernel_rfl) rfl plain (by kernel_rfl)
#print axioms proved
end Go.Proofs.YteofipheoipeoaaDoor.waitsRings
