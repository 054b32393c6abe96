/- What the document's reading needs: strings of bytes that differ, a store into one cell, how its reading may end. No walk. -/
import Derived.Test.YtemldmjpanmdbaaGreatDoorB8
import Derived.Test.YtemldmjpanmdbaaGreatDoorA7
import Derived.Test.YtemldmjpanmdbaaGreatDoorB6
namespace Go.Proofs.YtemldmjpanmdbaaGreatDoor
open Go.RowKit
set_option linter.unusedVariables false

theorem str_inj {xs ys : List Nat} (hx : ∀ b ∈ xs, b < 256) (hy : ∀ b ∈ ys, b < 256) (h : strOfNums (ci xs) = strOfNums (ci ys)) : xs = ys := by
  have h1 := congrArg (fun s : ByteArray => s.data.toList) h
  simp only [strOfNums, ci, List.map_map] at h1
  have h2 := congrArg (fun l : List UInt8 => l.map UInt8.toNat) h1
  simp only [List.map_map] at h2
  have e : ∀ l : List Nat, (∀ b ∈ l, b < 256) → l.map (UInt8.toNat ∘ ((fun n : Int => UInt8.ofNat n.toNat) ∘ fun b : Nat => (b : Int))) = l := by
    intro l hl
    conv => rhs; rw [← List.map_id l]
    apply List.map_congr_left
    intro b hb
    have := hl b hb
    simp
    omega
  rwa [e xs hx, e ys hy] at h2

theorem str_ne {xs ys : List Nat} (hx : ∀ b ∈ xs, b < 256) (hy : ∀ b ∈ ys, b < 256) (h : xs ≠ ys) : ((strOfNums (ci xs)).toList == (strOfNums (ci ys)).toList) = false := by
  apply Bool.eq_false_iff.2
  intro e
  have e2 := eq_of_beq e
  rw [ByteArray.toList_eq, ByteArray.toList_eq] at e2
  exact h (str_inj hx hy (ByteArray.ext (Array.toList_inj.1 e2)))

/-- Some numbers as bytes. -/
def nb (zs : List Int) : List Nat := zs.map Int.toNat

theorem nb_length (zs : List Int) : (nb zs).length = zs.length := by simp [nb]

theorem ci_nb {zs : List Int} (h : ∀ z ∈ zs, 0 ≤ z ∧ z < 256) : ci (nb zs) = zs := by
  simp only [ci, nb, List.map_map]
  conv => rhs; rw [← List.map_id zs]
  apply List.map_congr_left
  intro z hz
  have := h z hz
  simp
  omega

theorem nb_bytes {zs : List Int} (h : ∀ z ∈ zs, 0 ≤ z ∧ z < 256) : ∀ b ∈ nb zs, b < 256 := by
  intro b hb
  obtain ⟨z, hz, rfl⟩ := List.mem_map.1 hb
  have := h z hz
  omega

theorem wp_store_cell {P : Program} {op : Oper} {a : Act} {w : World} {K : Act → World → Prop} {Q : Exit → Act → World → Prop} (ty : TypeId) (x y : Operand) (ho : op.op = .store ty x y)
    (b j : Nat) (v : Value) (hx : a.eval x = .pointer (some ⟨b, j, none⟩)) (hy : a.eval y = v) (hc : ∃ u, w.cell? ⟨b, j, none⟩ = some u) (hf : w.frozen? ⟨b, j, none⟩ = false)
    (h1 : v.oneCell' = true) (hv : v.cells = #[v]) (hi : (P.info? ty).map (·.size) = some 1) (h : K (a.put op.dst undef) (w.setCell ⟨b, j, none⟩ v)) : op.wp P a w K Q := by
  obtain ⟨u, hc⟩ := hc
  cases hq : P.info? ty with
  | none => simp [hq] at hi
  | some i =>
    have hs : i.size = 1 := by simpa [hq] using hi
    have hr : (storeVar ty ⟨b, j, none⟩ v).run P w = .ok () (w.setCell ⟨b, j, none⟩ v) := by
      simp [storeVar, sizeOf, typeInfo, hq, hv, hs, storeCells, run_store P w _ v .plain h1, hc, hf, Addr.add]
    unfold Oper.wp execOp
    simp only [ho, hx, hy, Instr.storeAt, Instr.sureAddr, Sem.run_bind, Sem.run_pure, Result.andThen_ok, hr]
    exact h

theorem str_neI {xs ys : List Int} (hx : ∀ z ∈ xs, 0 ≤ z ∧ z < 256) (hy : ∀ z ∈ ys, 0 ≤ z ∧ z < 256) (h : xs ≠ ys) : ((strOfNums xs).toList == (strOfNums ys).toList) = false := by
  have e := str_ne (nb_bytes hx) (nb_bytes hy) (fun e => h (by rw [← ci_nb hx, ← ci_nb hy, e]))
  rwa [ci_nb hx, ci_nb hy] at e

theorem strI {w : World} {ao : Option Addr} {cap n : Nat} {zs : List Int} (h : RdI w .u8 ao cap zs) (hn : zs.length = n) : (convert 29 9 (.slice ao n cap)).run Tryz.prog w = .ok (.string (strOfNums zs)) w :=
  run_string_rd (P := Tryz.prog) 29 9 5 Tryz.underlying29 Tryz.underlying5 Tryz.underlying9 h hn


theorem st1_words {zs : List Int} {s : Sg} {r : List Int} (hb : ∀ z ∈ zs, 0 ≤ z ∧ z < 256) (h : st1 zs = some (s, r)) : wordB s.v ∧ (0 ≤ s.m ∧ s.m ≤ 65535) ∧ ∀ z ∈ r, 0 ≤ z ∧ z < 256 := by
  obtain ⟨h1, h2, h3, h4⟩ := st1_some h
  refine ⟨(val1_some (fun z hz => hb z (List.mem_of_mem_drop hz)) h3).2, ?_, fun z hz => hb z (by rw [h1] at hz; exact List.mem_of_mem_drop hz)⟩
  rw [h4]
  simp only
  omega
theorem takeS1_words : ∀ (k : Nat) {zs : List Int} {ss : List Sg} {r : List Int}, (∀ z ∈ zs, 0 ≤ z ∧ z < 256) → takeS st1 k zs = some (ss, r) → (∀ s ∈ ss, wordB s.v) ∧ (∀ s ∈ ss, 0 ≤ s.m ∧ s.m ≤ 65535) ∧ ∀ z ∈ r, 0 ≤ z ∧ z < 256
  | 0, zs, ss, r, hb, h => by
    simp only [takeS, Option.some.injEq, Prod.mk.injEq] at h
    obtain ⟨rfl, rfl⟩ := h
    exact ⟨by simp, by simp, hb⟩
  | k + 1, zs, ss, r, hb, h => by
    simp only [takeS] at h
    cases h1 : takeS st1 k zs with
    | none => rw [h1] at h; cases h
    | some q =>
      obtain ⟨ss0, r0⟩ := q
      rw [h1] at h
      simp only at h
      cases h2 : st1 r0 with
      | none => rw [h2] at h; cases h
      | some q =>
        obtain ⟨s, t⟩ := q
        rw [h2] at h
        simp only [Option.some.injEq, Prod.mk.injEq] at h
        obtain ⟨rfl, rfl⟩ := h
        obtain ⟨e1, e2, e3⟩ := takeS1_words k hb h1
        obtain ⟨g1, g2, g3⟩ := st1_words e3 h2
        refine ⟨fun x hx => ?_, fun x hx => ?_, g3⟩
        · rcases List.mem_append.1 hx with hx | hx
          · exact e1 x hx
          · simp only [List.mem_singleton] at hx; subst hx; exact g1
        · rcases List.mem_append.1 hx with hx | hx
          · exact e2 x hx
          · simp only [List.mem_singleton] at hx; subst hx; exact g2
/-- A step's bytes are there, or not. -/
theorem st1_short {r : List Int} (h : r.length < 27) : st1 r = none := by unfold st1; rw [if_neg (by omega)]
theorem st1_none {r : List Int} (h : val1 (r.drop 27) = none) : st1 r = none := by unfold st1; rw [h]; split <;> rfl
theorem st1_is {r t : List Int} {v : Nat × Nat} (h27 : 27 ≤ r.length) (h : val1 (r.drop 27) = some (v, t)) : st1 r = some (⟨at3 r 0, at3 r 1, at3 r 2, at3 r 3 - 1, at3 r 4 - 1, at3 r 5 % 65536, at3 r 6, at3 r 7, at3 r 8, v⟩, t) := by
  unfold st1; rw [if_pos h27, h]
theorem takeS1_step {k : Nat} {ys r t : List Int} {ss : List Sg} {s : Sg} (h : takeS st1 k ys = some (ss, r)) (h2 : st1 r = some (s, t)) : takeS st1 (k + 1) ys = some (ss ++ [s], t) := by
  simp only [takeS, h, h2]
theorem takeS1_stop {k m : Nat} {ys r : List Int} {ss : List Sg} (h : takeS st1 k ys = some (ss, r)) (h2 : st1 r = none) (hm : k < m) : takeS st1 m ys = none := by
  refine takeS_more (k := k + 1) ?_ m (by omega)
  simp only [takeS, h, h2]

theorem RdI.keepB {w w' : World} {B : Nat} {k : IntKind} {ao : Option Addr} {cap : Nat} {zs : List Int} (h : RdI w k ao cap zs) (hb : Below B w w') (hl : ∀ a, ao = some a → a.block < B) : RdI w' k ao cap zs := by
  refine ⟨RdS.le h, RdS.mx h, RdS.nil h, fun hx => ?_⟩
  obtain ⟨b, off, h1, h2, h3⟩ := RdS.cell h hx
  exact ⟨b, off, h1, Nat.lt_of_lt_of_le h2 hb.size, fun t ht => (World.cell?_of_block (w := w) (a := ⟨b, off + t, none⟩) (hb.block b (hl _ h1))).trans (h3 t ht)⟩
theorem RdI.keepH {w w' : World} {k : IntKind} {ao : Option Addr} {cap : Nat} {zs : List Int} (h : RdI w k ao cap zs) (hs : w.heap.size ≤ w'.heap.size) (hb : ∀ a, ao = some a → a.block < w.heap.size → w'.heap[a.block]? = w.heap[a.block]?) : RdI w' k ao cap zs := by
  refine ⟨RdS.le h, RdS.mx h, RdS.nil h, fun hx => ?_⟩
  obtain ⟨b, off, h1, h2, h3⟩ := RdS.cell h hx
  exact ⟨b, off, h1, Nat.lt_of_lt_of_le h2 hs, fun t ht => (World.cell?_of_block (w := w) (a := ⟨b, off + t, none⟩) (show _ from hb ⟨b, off, none⟩ h1 h2)).trans (h3 t ht)⟩
/-- How the document's Read may end. -/
def ReadQ (zs : List Int) (w : World) (x : Ending) (w' : World) : Prop :=
  (match readD zs with
    | none => x = .returned (.tuple #[scZv, .int .i64 231])
    | some S => ∃ ao cap, x = .returned (.tuple #[scV S ao S.ss.length cap, .int .i64 0]) ∧ RdR stC w' ao cap S.ss) ∧ Below w.heap.size w w'

theorem refGet_six (ao : Option Addr) (cap n m : Nat) (zs : List Int) (n0 n1 n2 n3 n4 n5 : Int) (w : World) (hrd : RdI w .u8 ao cap zs) (hn : zs.length = n) (hb : ∀ z ∈ zs, 0 ≤ z ∧ z < 256) (h18 : 18 ≤ n) (hm : n - 18 = m) (hlen : n ≤ 140737488355328)
    (he : getN zs 6 = [n0, n1, n2, n3, n4, n5]) :
    Calls Tryz.prog 18 #[.slice ao n cap, .int .i64 6] w fun e w' => ∃ b1 f1 c1 a2 c2, e = .returned (.tuple #[.slice (some ⟨b1, f1, none⟩) 6 c1, .slice a2 m c2, .int .i64 0]) ∧ b1 < w'.heap.size ∧ w.heap.size ≤ b1 ∧ 6 ≤ c1 ∧
      (w'.cell? ⟨b1, f1, none⟩ = some (.int .i64 n0) ∧ w'.cell? ⟨b1, f1 + 1, none⟩ = some (.int .i64 n1) ∧ w'.cell? ⟨b1, f1 + 2, none⟩ = some (.int .i64 n2) ∧ w'.cell? ⟨b1, f1 + 3, none⟩ = some (.int .i64 n3) ∧ w'.cell? ⟨b1, f1 + 4, none⟩ = some (.int .i64 n4) ∧
        w'.cell? ⟨b1, f1 + 5, none⟩ = some (.int .i64 n5)) ∧ OwnI w' w.heap.size 5 .u8 a2 c2 (zs.drop 18) ∧ Below w.heap.size w w' := by
  subst hm
  refine (refGet_good ao cap n 6 zs w hrd hn hb (by omega) (by omega) hlen).mono ?_
  rintro e w' ⟨a1, c1, a2, c2, rfl, h1, h2, h3⟩
  rw [he] at h1
  have hle := h1.rd.le
  have hbk := h1.blk
  obtain ⟨b, f, rfl, hlt, hc⟩ := h1.rd.at (t := 0) (by simp)
  exact ⟨b, f, c1, a2, c2, rfl, hlt, (hbk _ rfl).1, by simpa using hle, ⟨hc 0 (by simp), hc 1 (by simp), hc 2 (by simp), hc 3 (by simp), hc 4 (by simp), hc 5 (by simp)⟩, h2, h3⟩

theorem refGet_nine (ao : Option Addr) (cap n m : Nat) (zs : List Int) (n0 n1 n2 n3 n4 n5 n6 n7 n8 : Int) (w : World) (hrd : RdI w .u8 ao cap zs) (hn : zs.length = n) (hb : ∀ z ∈ zs, 0 ≤ z ∧ z < 256) (h27 : 27 ≤ n) (hm : n - 27 = m) (hlen : n ≤ 140737488355328)
    (he : getN zs 9 = [n0, n1, n2, n3, n4, n5, n6, n7, n8]) :
    Calls Tryz.prog 18 #[.slice ao n cap, .int .i64 9] w fun e w' => ∃ b1 f1 c1 a2 c2, e = .returned (.tuple #[.slice (some ⟨b1, f1, none⟩) 9 c1, .slice a2 m c2, .int .i64 0]) ∧ b1 < w'.heap.size ∧ w.heap.size ≤ b1 ∧ 9 ≤ c1 ∧
      (w'.cell? ⟨b1, f1, none⟩ = some (.int .i64 n0) ∧ w'.cell? ⟨b1, f1 + 1, none⟩ = some (.int .i64 n1) ∧ w'.cell? ⟨b1, f1 + 2, none⟩ = some (.int .i64 n2) ∧ w'.cell? ⟨b1, f1 + 3, none⟩ = some (.int .i64 n3) ∧ w'.cell? ⟨b1, f1 + 4, none⟩ = some (.int .i64 n4) ∧
        w'.cell? ⟨b1, f1 + 5, none⟩ = some (.int .i64 n5) ∧ w'.cell? ⟨b1, f1 + 6, none⟩ = some (.int .i64 n6) ∧ w'.cell? ⟨b1, f1 + 7, none⟩ = some (.int .i64 n7) ∧ w'.cell? ⟨b1, f1 + 8, none⟩ = some (.int .i64 n8)) ∧
      OwnI w' w.heap.size 5 .u8 a2 c2 (zs.drop 27) ∧ Below w.heap.size w w' := by
  subst hm
  refine (refGet_good ao cap n 9 zs w hrd hn hb (by omega) (by omega) hlen).mono ?_
  rintro e w' ⟨a1, c1, a2, c2, rfl, h1, h2, h3⟩
  rw [he] at h1
  have hle := h1.rd.le
  have hbk := h1.blk
  obtain ⟨b, f, rfl, hlt, hc⟩ := h1.rd.at (t := 0) (by simp)
  exact ⟨b, f, c1, a2, c2, rfl, hlt, (hbk _ rfl).1, by simpa using hle, ⟨hc 0 (by simp), hc 1 (by simp), hc 2 (by simp), hc 3 (by simp), hc 4 (by simp), hc 5 (by simp), hc 6 (by simp), hc 7 (by simp), hc 8 (by simp)⟩, h2, h3⟩
end Go.Proofs.YtemldmjpanmdbaaGreatDoor
