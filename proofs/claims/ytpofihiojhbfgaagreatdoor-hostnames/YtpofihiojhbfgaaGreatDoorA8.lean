/- What first of package wal does, walked: with few bytes, and with a commit's. Commits that were found, in memory; what lastLSN and follows of package wal do, walked. What Scan of package wal does with the bytes of commits, walked. -/
import Derived.Test.YtpofihiojhbfgaaGreatDoorW6
import Derived.ScopeJumps
namespace Go.Proofs.YtpofihiojhbfgaaGreatDoor
open Go.RowKit
set_option linter.unusedVariables false
set_option maxRecDepth 8000

set_option maxHeartbeats 400000 in
theorem first_short (ao : Option Addr) (n cap : Nat) (w : World) (hn : n < 3) :
    Calls Tryz.prog 90 #[.slice ao n cap] w fun x w' => x = .returned (.tuple #[btV 0 0 0 0 none 0 0, .int .i64 0, .bool false]) ∧ Below w.heap.size w w' := by
  have hq := BtAt.new w 0 0 0 0 none 0 0
  have q0 := hq.c0
  have q1 := hq.c1
  have q2 := hq.c2
  have q3 := hq.c3
  have q4 := hq.c4
  clear hq
  go_enter Tryz.func90, Tryz.ntmps90
  go_wp2
  go_returns
  refine ⟨rfl, ?_⟩
  go_grown

theorem wb_head {w : World} {ao : Option Addr} {n cap : Nat} {b : Bt} {rest : List Nat} (h : Rd8 w ao n cap (wbN b ++ rest)) : RdI w .u8 ao cap (formsN [((17 + 22 * b.ps.length : Nat) : Int)] ++ []) := by
  have hl := wbN_length b
  have h1 := h.rd.head 3 (by rw [ci_length, List.length_append, hl]; omega)
  have e : (ci (wbN b ++ rest)).take 3 = formsN [((17 + 22 * b.ps.length : Nat) : Int)] ++ [] := by
    have l3 : (nb (formsN [((17 + 22 * b.ps.length : Nat) : Int)])).length = 3 := by rw [nb_length, formsN_length]; rfl
    rw [ci_take, wbN, List.append_assoc, List.take_append_of_le_length (Nat.le_of_eq l3.symm), List.take_of_length_le (Nat.le_of_eq l3), ci_nb (formsN_bd _), List.append_nil]
  rwa [e] at h1

theorem wb_body {w : World} {ao : Option Addr} {n cap : Nat} {b : Bt} {rest : List Nat} (h : Rd8 w ao n cap (wbN b ++ rest)) : Rd8 w (ao.map (fun x => x.add 3)) (17 + 22 * b.ps.length) (cap - 3) (sealN (bodyN b)) := by
  have hl := wbN_length b
  have hle := h.rd.le
  rw [ci_length, List.length_append, hl] at hle
  have h1 := h.rd.cut 3 (20 + 22 * b.ps.length) (by omega) (by rw [ci_length, List.length_append, hl]; omega)
  rw [if_neg (by omega)] at h1
  have e : ((ci (wbN b ++ rest)).drop 3).take (20 + 22 * b.ps.length - 3) = ci (sealN (bodyN b)) := by
    have l3 : (nb (formsN [((17 + 22 * b.ps.length : Nat) : Int)])).length = 3 := by rw [nb_length, formsN_length]; rfl
    have ls : (sealN (bodyN b)).length = 20 + 22 * b.ps.length - 3 := by rw [sealN_length, bodyN, nb_length, bodyZ_length]; omega
    rw [wbN, List.append_assoc, ci_append, ci_append, List.drop_append_of_le_length (by rw [ci_length, l3]; omega), List.drop_of_length_le (by rw [ci_length, l3]; omega), List.nil_append, ← ls, List.take_append_of_le_length (by rw [ci_length]; omega), List.take_of_length_le (by rw [ci_length]; omega)]
  rw [e] at h1
  refine ⟨h1, by rw [sealN_length, bodyN, nb_length, bodyZ_length]; omega, sealN_bytes (nb_bytes (bodyZ_bd _ _ _ _ _ _))⟩

theorem body_rd {w : World} {base : Nat} {ao : Option Addr} {m cap : Nat} {b : Bt} (h : Own8 w base ao m cap ((sealN (bodyN b)).take m)) (hm : m = 15 + 22 * b.ps.length) : RdI w .u8 ao cap (bodyZ b.lsn b.cl b.ep b.tx b.ps.length b.ps) := by
  have hl : (bodyN b).length = m := by rw [bodyN, nb_length, bodyZ_length, hm]
  have e := sealN_take (bodyN b)
  rw [sealN_length, hl, show m + 2 - 2 = m by omega] at e
  have h1 := h.own.rd
  rw [e, bodyN, ci_nb (bodyZ_bd _ _ _ _ _ _)] at h1
  exact h1

set_option maxHeartbeats 800000 in
theorem first_ok (b : Bt) (ao : Option Addr) (n cap : Nat) (rest : List Nat) (w : World) (hok : BtOk b) (h : Rd8 w ao n cap (wbN b ++ rest)) (hn : n ≤ 20000) :
    Calls Tryz.prog 90 #[.slice ao n cap] w fun x w' => ∃ ap, x = .returned (.tuple #[btV b.lsn b.cl b.ep b.tx ap b.ps.length b.ps.length, .int .i64 ((20 + 22 * b.ps.length : Nat) : Int), .bool true]) ∧ OwnP w' w.heap.size ap b.ps.length (b.ps.map PutG.can) ∧ Below w.heap.size w w' := by
  have hlen := h.len
  rw [List.length_append, wbN_length] at hlen
  have hle := h.rd.le
  rw [ci_length, h.len] at hle
  have hm24 := hok.ps.le
  have H1 := wb_head (h.alloc btZ)
  have H2 := wb_body (h.alloc btZ)
  have hz : BtAt (w.alloc btZ) w.heap.size 0 0 0 0 none 0 0 := BtAt.new w 0 0 0 0 none 0 0
  have HK : Hid (∀ W ao' cap', RdI W .u8 ao' cap' (bodyZ b.lsn b.cl b.ep b.tx b.ps.length b.ps) → Calls Tryz.prog 130 #[.slice ao' (15 + 22 * b.ps.length) cap'] W fun x w' => ∃ ap, x = .returned (.tuple #[btV b.lsn b.cl b.ep b.tx ap b.ps.length b.ps.length, .bool true]) ∧ OwnP w' W.heap.size ap b.ps.length (b.ps.map PutG.can) ∧ Below W.heap.size W w') := fun W ao' cap' hr => batchOf_ok b ao' cap' _ W hok hr rfl
  have HR : Hid (∀ (W : World) (base : Nat) (ao' : Option Addr) (m cap' : Nat), Own8 W base ao' m cap' ((sealN (bodyN b)).take m) → m = 15 + 22 * b.ps.length → RdI W .u8 ao' cap' (bodyZ b.lsn b.cl b.ep b.tx b.ps.length b.ps)) := fun W base ao' m cap' h1 h2 => body_rd h1 h2
  have HO : Hid (okN (sealN (bodyN b))) := sealN_ok _
  generalize b.ps.length = m at *
  generalize (b.lsn : Int) = l at *
  generalize (b.cl : Int) = c at *
  generalize (b.ep : Int) = e at *
  generalize (b.tx : Int) = t at *
  generalize sealN (bodyN b) = fs at *
  have HL : Hid ((20 + 22 * m) + rest.length = n) := hlen
  clear h hok
  have hge : 20 + 22 * m ≤ n := by omega
  clear hlen
  have hst := fun (ad : Addr) (re im : Nat) (W : World) => run_store Tryz.prog W ad (.complex .f64 re im) .plain rfl
  go_enter Tryz.func90, Tryz.ntmps90
  go_wp2_with (first
    | (go_at_call 130; refine (HK.out _ _ _ (HR.out _ _ _ _ _ ho3 rfl)).mono ?_; rintro x w4 ⟨ap, rfl, hp4, hb4⟩; have hz4 := ((hz.below hb1).below hb3).below hb4; have hz5 := hz4.below (below_box w4 (btO l c e t ap m m)); have x0 := hz5.c0; have x1 := hz5.c1; have x2 := hz5.c2; have x3 := hz5.c3; have x4 := hz5.c4; have y0 := hz5.fz 0; have y1 := hz5.fz 1; have y2 := hz5.fz 2; have y3 := hz5.fz 3; have y4 := hz5.fz 4)
    | (go_at_call 129; refine (open_ok _ (15 + 22 * m) (17 + 22 * m) _ fs _ (H2.below hb1) (by omega) (by omega) HO.out).mono ?_; rintro x w3 ⟨ao3, cap3, rfl, ho3, hb3⟩)
    | (go_at_call 82; refine (get_forms _ _ 3 1 0 [((17 + 22 * m : Nat) : Int)] [] _ H1 rfl rfl rfl ?_ (by simp) (by omega) (by omega)).mono ?_; (intro z hz; simp only [List.mem_cons, List.not_mem_nil, or_false] at hz; omega); rintro x w1 ⟨a1, c1, a2, c2, rfl, ho1, -, hb1⟩; obtain ⟨b1, f1, rfl, hlt1, hc⟩ := ho1.rd.at (t := 0) (by simp); have p0 := hc 0 (by simp); simp only [List.getElem_cons_zero, Nat.add_zero] at p0; clear hc)
    | (fail))
  refine bodyPost_ret (by simp [results, Tryz.results90, go_sem, x0, x1, x2, x3, x4]; try rfl) rfl ?_
  have hB4 : Below w.heap.size w w4 := below_step (below_step (below_alloc (hb1.mono (by simp))) hb3) hb4
  have hB3 : Below w.heap.size w w3 := below_step (below_alloc (hb1.mono (by simp))) hb3
  have hlt3 : w.heap.size < w3.heap.size := by have h1 := hb1.size; have h2 := hb3.size; simp at h1; omega
  have hp5 := hp4.below (below_box w4 (btO l c e t ap m m))
  refine ⟨ap, ?_, (((((hp5.other _ _ hlt3).other _ _ hlt3).other _ _ hlt3).other _ _ hlt3).other _ _ hlt3).mono hB3.size, (((((hB4.alloc hB4.size _).setCell (Nat.le_refl _) _).setCell (Nat.le_refl _) _).setCell (Nat.le_refl _) _).setCell (Nat.le_refl _) _).setCell (Nat.le_refl _) _⟩
  rw [show ((20 + 22 * m : Nat) : Int) = 3 + (17 + 22 * (m : Int)) by omega]

end Go.Proofs.YtpofihiojhbfgaaGreatDoor

namespace Go.Proofs.YtpofihiojhbfgaaGreatDoor
open Go.RowKit
set_option linter.unusedVariables false
set_option maxRecDepth 8000

def btC (b : Bt) (ap : Option Addr) : List Value := [.int .i64 (b.lsn : Int), .int .i64 (b.cl : Int), .int .i64 (b.ep : Int), .int .i64 (b.tx : Int), .slice ap b.ps.length b.ps.length]

def rowC (R : List (Bt × Option Addr)) : List Value := R.flatMap fun r => btC r.1 r.2

theorem rowC_get (R : List (Bt × Option Addr)) : ∀ i (h : i < R.length) j, j < 5 → (rowC R)[i * 5 + j]? = (btC R[i].1 R[i].2)[j]? := by
  induction R with
  | nil => intro i h; simp at h
  | cons r s ih =>
    intro i h j hj
    have e : rowC (r :: s) = btC r.1 r.2 ++ rowC s := rfl
    have l5 : (btC r.1 r.2).length = 5 := rfl
    rw [e]
    cases i with
    | zero => rw [Nat.zero_mul, Nat.zero_add, List.getElem?_append_left (by omega)]; rfl
    | succ i =>
      rw [List.getElem?_append_right (by omega), l5, show (i + 1) * 5 + j - 5 = i * 5 + j by omega]
      simpa using ih i (by simpa using h) j hj

theorem rowC_one (R : List (Bt × Option Addr)) : ∀ u ∈ rowC R, u.oneCell' = true := by
  intro u hu
  obtain ⟨r, _, h⟩ := List.mem_flatMap.1 hu
  simp only [btC, List.mem_cons, List.not_mem_nil, or_false] at h
  rcases h with rfl | rfl | rfl | rfl | rfl
  all_goals rfl

def Fnd (w : World) (base : Nat) (v : Value) (L : List Bt) : Prop := ∃ R : List (Bt × Option Addr), R.map (·.1) = L ∧ (∀ r ∈ R, OwnP w base r.2 r.1.ps.length (r.1.ps.map PutG.can)) ∧ w.ownsRow base 83 5 v L.length (rowC R)

theorem Fnd.nil (w : World) (base : Nat) : Fnd w base (.slice none 0 0) [] := ⟨[], rfl, by simp, World.ownsRow_nil w base 83 5⟩

theorem Fnd.below {w w' : World} {base : Nat} {v : Value} {L : List Bt} (h : Fnd w base v L) (hb : Below w.heap.size w w') : Fnd w' base v L := by
  obtain ⟨R, h1, hp, h2, h3⟩ := h
  refine ⟨R, h1, fun r hr => (hp r hr).below hb, h2, ?_⟩
  rcases h3 with h3 | ⟨g, cp, cur, hv, hg2, hh, r⟩
  · exact .inl h3
  · exact .inr ⟨g, cp, cur, hv, hg2, by rw [hb.block g (Array.getElem?_eq_some_iff.1 hh).1]; exact hh, r⟩

theorem Fnd.mono {w : World} {base base' : Nat} {v : Value} {L : List Bt} (h : Fnd w base v L) (hb : base' ≤ base) : Fnd w base' v L := by
  obtain ⟨R, h1, hp, h2, h3⟩ := h
  refine ⟨R, h1, fun r hr => (hp r hr).mono hb, h2, ?_⟩
  rcases h3 with h3 | ⟨g, cp, cur, hv, hg2, hh, r⟩
  · exact .inl h3
  · exact .inr ⟨g, cp, cur, hv, by omega, hh, r⟩

theorem Fnd.shape {w : World} {base : Nat} {v : Value} {L : List Bt} (h : Fnd w base v L) : ∃ ao cap, v = .slice ao L.length cap ∧ (∀ a, ao = some a → base ≤ a.block ∧ a.block < w.heap.size) := by
  obtain ⟨R, h1, -, h2, h3⟩ := h
  rcases h3 with ⟨hv, hn⟩ | ⟨g, cp, cur, hv, hg2, hh, r⟩
  · exact ⟨none, 0, by rw [hn]; exact hv, fun a h => by cases h⟩
  · refine ⟨_, _, hv, fun a ha => ?_⟩
    cases ha
    exact ⟨hg2, (Array.getElem?_eq_some_iff.1 hh).1⟩

theorem Fnd.at {w : World} {base : Nat} {v : Value} {L : List Bt} (h : Fnd w base v L) (i : Nat) (hi : i < L.length) : ∃ g cap ap, v = .slice (some ⟨g, 0, none⟩) L.length cap ∧ g < w.heap.size ∧ base ≤ g ∧
    w.cell? ⟨g, i * 5, none⟩ = some (.int .i64 (L[i].lsn : Int)) ∧ w.cell? ⟨g, i * 5 + 1, none⟩ = some (.int .i64 (L[i].cl : Int)) ∧ w.cell? ⟨g, i * 5 + 2, none⟩ = some (.int .i64 (L[i].ep : Int)) ∧ w.cell? ⟨g, i * 5 + 3, none⟩ = some (.int .i64 (L[i].tx : Int)) ∧ w.cell? ⟨g, i * 5 + 4, none⟩ = some (.slice ap L[i].ps.length L[i].ps.length) ∧ OwnP w base ap L[i].ps.length (L[i].ps.map PutG.can) := by
  obtain ⟨R, rfl, hp, hR⟩ := h
  have h3 := hR.2
  simp only [List.length_map] at hi
  rcases h3 with ⟨hv, hn⟩ | ⟨g, cp, cur, hv, hg2, hh, r⟩
  · simp at hn; subst hn; simp at hi
  · subst hv
    refine ⟨g, cp, R[i].2, rfl, (Array.getElem?_eq_some_iff.1 hh).1, hg2, ?_⟩
    have hc := fun j (hj : j < 5) => (World.ownsRow.cellAt hR (i * 5 + j) (by simp; omega)).trans (rowC_get R i hi j hj)
    simp only [List.getElem_map]
    exact ⟨hc 0 (by omega), hc 1 (by omega), hc 2 (by omega), hc 3 (by omega), hc 4 (by omega), hp _ (List.getElem_mem _)⟩

def lastL (L : List Bt) : Nat := (L.getLast?.map Bt.lsn).getD 0

theorem lastLSN_any (v : Value) (L : List Bt) (base : Nat) (w : World) (h : Fnd w base v L) (hl : L.length ≤ 20000) :
    Calls Tryz.prog 53 #[v] w fun x w' => x = .returned (.int .i64 (lastL L : Int)) ∧ w' = w := by
  by_cases h0 : L = []
  · subst h0
    obtain ⟨ao, cap, rfl, _⟩ := h.shape
    go_enter Tryz.func53, Tryz.ntmps53
    go_wp2
    go_ret
    exact ⟨rfl, rfl⟩
  · obtain ⟨m, hm⟩ : ∃ m, L.length = m + 1 := ⟨L.length - 1, by have := List.length_pos_iff.2 h0; omega⟩
    obtain ⟨g, cap, ap, rfl, hlt, -, q0, -⟩ := h.at m (by omega)
    have e : lastL L = L[m].lsn := by
      rw [lastL, List.getLast?_eq_getElem?, show L.length - 1 = m by omega, List.getElem?_eq_getElem (by omega)]
      rfl
    have HE : Hid (lastL L = L[m].lsn) := e
    clear e
    generalize L[m].lsn = z at *
    rw [hm]
    have hm2 : m + 1 ≤ 20000 := by omega
    clear hm h hl
    have hs : ((m : Int) + 1) - 1 = (m : Int) := by omega
    go_enter Tryz.func53, Tryz.ntmps53
    go_wp2
    go_ret
    exact ⟨by rw [HE.out]; rfl, rfl⟩

set_option maxHeartbeats 400000 in
theorem follows_ok (v : Value) (L : List Bt) (base : Nat) (b : Bt) (ap : Option Addr) (n cap : Nat) (w : World) (h : Fnd w base v L) (hl : L.length ≤ 20000) (hok : BtOk b) (hf : L = [] ∨ b.lsn = lastL L + 1) :
    Calls Tryz.prog 91 #[v, btV b.lsn b.cl b.ep b.tx ap n cap] w fun x w' => x = .returned (.bool true) ∧ Below w.heap.size w w' := by
  obtain ⟨l, c, e, t, ps⟩ := b
  obtain ⟨⟨k1, k2⟩, k3, ⟨k4, k5⟩, ⟨k6, k7⟩, kp⟩ := hok
  simp only at k1 k2 k3 k4 k5 k6 k7 kp hf ⊢
  clear kp
  by_cases h0 : L = []
  · subst h0
    obtain ⟨ao, cap, rfl, _⟩ := h.shape
    go_enter Tryz.func91, Tryz.ntmps91
    go_wp2
    go_ret
    exact ⟨rfl, below_box _ _⟩
  · have hfe : (l : Int) = lastL L + 1 := by
      rcases hf with h | h
      · exact absurd h h0
      · omega
    have HS := fun (W : World) (hb : Below w.heap.size w W) => lastLSN_any v L base W (h.below hb) hl
    have HH : Hid (∀ W : World, Below w.heap.size w W → Calls Tryz.prog 53 #[v] W fun x w' => x = .returned (.int .i64 (lastL L : Int)) ∧ w' = W) := HS
    have hp : 0 < L.length := List.length_pos_iff.2 h0
    obtain ⟨ao, cc, rfl, _⟩ := h.shape
    generalize lastL L = z at *
    generalize L.length = m at *
    clear HS h hf h0
    have hne : ((m : Int) == 0) = false := by simp; omega
    have heq : ((l : Int) == (z : Int) + 1) = true := by simp; omega
    have hzb : (z : Int) ≤ 16777215 := by omega
    clear hfe
    go_enter Tryz.func91, Tryz.ntmps91
    go_wp2_with (first
      | (go_at_call 55; refine (isMark_no _ _ _ _ _ _ _ _ ⟨by omega, by omega⟩ (by omega)).mono ?_; rintro x w1 ⟨rfl, hb⟩; have hq := (BtAt.new w l c e t ap n cap).below hb; have q0 := hq.c0; clear hq; have HB : Hid (Below w.heap.size w w1) := below_alloc (hb.mono (by simp)))
      | (fail))
    go_quiet (first
      | (go_at_call 53; refine (HH.out _ ?_).mono ?_; (exact ⟨HB.out.os, HB.out.tape, HB.out.output, HB.out.size, HB.out.block⟩); rintro x w' ⟨rfl, hw⟩; subst w'; exact ⟨rfl, _, rfl⟩))
    go_wp2
    go_ret
    exact ⟨rfl, ⟨HB.out.os, HB.out.tape, HB.out.output, HB.out.size, HB.out.block⟩⟩

end Go.Proofs.YtpofihiojhbfgaaGreatDoor

namespace Go.Proofs.YtpofihiojhbfgaaGreatDoor
open Go.RowKit
set_option linter.unusedVariables false
set_option maxRecDepth 8000

def Chain (L : List Bt) : Prop := ∀ i p q, L[i]? = some p → L[i + 1]? = some q → q.lsn = p.lsn + 1

def rowN (L : List Bt) : List Nat := L.flatMap wbN

theorem rowN_snoc (L : List Bt) (k : Nat) (h : k < L.length) : rowN (L.take (k + 1)) = rowN (L.take k) ++ wbN L[k] := by
  rw [List.take_succ_eq_append_getElem h, rowN, List.flatMap_append]
  simp [rowN]

theorem rowN_split (L : List Bt) (k : Nat) : rowN L = rowN (L.take k) ++ rowN (L.drop k) := by
  rw [rowN, rowN, rowN, ← List.flatMap_append, List.take_append_drop]

theorem rowN_drop (L : List Bt) (k : Nat) (h : k < L.length) : rowN (L.drop k) = wbN L[k] ++ rowN (L.drop (k + 1)) := by
  rw [List.drop_eq_getElem_cons h]
  rfl

theorem rowN_bytes (L : List Bt) : ∀ x ∈ rowN L, x < 256 := by
  intro x hx
  obtain ⟨b, _, h⟩ := List.mem_flatMap.1 hx
  exact wbN_bytes b x h

theorem row_at {w : World} {ao : Option Addr} {n cap : Nat} {L : List Bt} (h : Rd8 w ao n cap (rowN L)) (k p : Nat) (hk : k < L.length) (hp : (rowN (L.take k)).length = p) : Rd8 w (if cap = p then ao else ao.map (fun x => x.add p)) (n - p) (cap - p) (wbN L[k] ++ rowN (L.drop (k + 1))) := by
  have hs := rowN_split L k
  have hl := h.len
  rw [hs, List.length_append, hp] at hl
  have h1 := h.rd.tail p (by rw [ci_length, h.len]; omega)
  have e : (ci (rowN L)).drop p = ci (wbN L[k] ++ rowN (L.drop (k + 1))) := by
    rw [hs, ci_append, List.drop_append_of_le_length (by rw [ci_length]; omega), List.drop_of_length_le (by rw [ci_length]; omega), List.nil_append, rowN_drop L k hk]
  rw [e] at h1
  refine ⟨h1, by rw [← rowN_drop L k hk]; omega, ?_⟩
  intro x hx
  rw [← rowN_drop L k hk] at hx
  exact rowN_bytes _ x hx

theorem take_chain (L : List Bt) (hc : Chain L) (k : Nat) (hk : k < L.length) : L.take k = [] ∨ L[k].lsn = lastL (L.take k) + 1 := by
  cases k with
  | zero => exact .inl rfl
  | succ k =>
    refine .inr ?_
    have e : lastL (L.take (k + 1)) = L[k].lsn := by
      have e1 : (L.take (k + 1)).length - 1 = k := by rw [List.length_take]; omega
      rw [lastL, List.getLast?_eq_getElem?, e1, List.getElem?_take_of_lt (by omega), List.getElem?_eq_getElem (by omega)]
      rfl
    rw [e]
    exact hc k L[k] L[k + 1] (List.getElem?_eq_getElem _) (List.getElem?_eq_getElem _)

theorem info31 : (Tryz.prog.info? 83).map (fun i => (i.zero, i.size, i.bytes)) = some (some (.agg #[.int .i64 0, .int .i64 0, .int .i64 0, .int .i64 0, .slice none 0 0]), 5, 56) := by kernel_rfl

theorem wpList_append_fnd (w : World) {ops : Array Oper} {rest : List Oper} {o : Oper} {a : Act} {Q : Exit → Act → World → Prop} (hgd : o.guard = none) (s x : Operand)
    (ho : o.op = .call { callee := .builtin .append, args := #[s, x], argTypes := #[80, 80] })
    (base : Nat) (v : Value) (L : List Bt) (b : Bt) (ap : Option Addr) (W : World) (hw : w = W.alloc (btO b.lsn b.cl b.ep b.tx ap b.ps.length b.ps.length)) (hs : a.eval s = v) (hx : a.eval x = .slice (some ⟨W.heap.size, 0, none⟩) 1 1) (hF : Fnd w base v L) (hP : OwnP w base ap b.ps.length (b.ps.map PutG.can)) (hl : L.length ≤ 20000) (hb : base ≤ w.heap.size)
    (h : ∀ v' w', Fnd w' base v' (L ++ [b]) → Below base w w' → wpList Tryz.prog ops Q rest (a.put o.dst v') w') : wpList Tryz.prog ops Q (o :: rest) a w := by
  obtain ⟨i, hi, hz, hsz, hby⟩ := info_parts info31
  obtain ⟨ao, cap, hv, hblk⟩ := hF.shape
  obtain ⟨R, hR, hps, hown⟩ := hF
  have hB := BtAt.new W b.lsn b.cl b.ep b.tx ap b.ps.length b.ps.length
  refine wpList_append_own (P := Tryz.prog) w hgd s x 80 ho base 83 i _ 5 56 Tryz.underlying80 hi hz hsz hby rfl (by omega) v L.length (rowC R) hs hown ⟨W.heap.size, 0, none⟩ 1 1 (btC b ap) hx rfl ?_ ?_ (by unfold maxLen; omega) (by omega) hb ?_
  · intro j u hj
    subst hw
    rw [Addr.add_lit, Nat.zero_add]
    match j, hj with
    | 0, hj => cases hj; exact hB.c0
    | 1, hj => cases hj; exact hB.c1
    | 2, hj => cases hj; exact hB.c2
    | 3, hj => cases hj; exact hB.c3
    | 4, hj => cases hj; exact hB.c4
    | (j + 5), hj => simp [btC] at hj
  · have := rowC_one [(b, ap)]
    simpa [rowC] using this
  · intro v' w' h1 h2 _
    have hkp : ∀ g, base ≤ g → g < w.heap.size → PTag w g → w'.heap[g]? = w.heap[g]? := by
      intro g _ hg2 ⟨cs, hcs⟩
      refine h2.block g hg2 fun e2 => ?_
      rcases hown.2 with ⟨hv2, _⟩ | ⟨g', cp', cur', kv, _, kh, _⟩
      · rw [hv2] at e2; simp [Value.ownBlock] at e2
      · rw [kv] at e2
        simp [Value.ownBlock] at e2
        subst e2
        rw [hcs] at kh
        simp only [Option.some.injEq, Obj.cells.injEq] at kh
        exact absurd kh.2.1 (by decide)
    refine h v' w' ⟨R ++ [(b, ap)], by simp [hR], fun r hr => ?_, ?_⟩ ?_
    · rcases List.mem_append.1 hr with hr | hr
      · exact (hps r hr).keep hkp h2.size
      · simp only [List.mem_cons, List.not_mem_nil, or_false] at hr
        subst hr
        exact hP.keep hkp h2.size
    · have e : rowC (R ++ [(b, ap)]) = rowC R ++ btC b ap := by simp [rowC, List.flatMap_append]
      rw [e, List.length_append]
      exact h1
    · rw [hv] at h2
      exact grown_below h2 (fun y hy => (hblk y hy).1) hb

theorem wp_scope_label {P : Program} {a : Act} {w : World} {Q : Exit → Act → World → Prop} {c rest : Code} (l : Nat) (J : Act → World → Prop) (μ : Act → World → Nat) (hf : findLabel c l = some (Code.skip.seq rest))
    (first : (∀ a w, J a w → rest.wp P (Exit.jump l J Q) a w) → c.wp P (Exit.jump l J Q) a w)
    (pass : ∀ a w, J a w → rest.wp P (Exit.jump l (fun a' w' => J a' w' ∧ μ a' w' < μ a w) Q) a w) : (Code.scope c).wp P Q a w := by
  refine wp_scope_jumps l J μ hf (first fun a w h => wp_mono (pass a w h) ?_) fun a w h => wp_seq (wp_skip (pass a w h))
  intro e a w hq
  cases e with
  | goto l' => exact ⟨hq.1, hq.2.1⟩
  | _ => exact hq

set_option maxRecDepth 1000000 in
set_option maxHeartbeats 1600000 in
theorem scan_ok (L : List Bt) (ao : Option Addr) (n cap : Nat) (w : World) (h : Rd8 w ao n cap (rowN L)) (hok : ∀ b ∈ L, BtOk b) (hch : Chain L) (hn : n ≤ 20000) :
    Calls Tryz.prog 50 #[.slice ao n cap] w fun x w' => ∃ v, x = .returned (.tuple #[v, .int .i64 (n : Int)]) ∧ Fnd w' w.heap.size v L ∧ Below w.heap.size w w' := by
  have hle := h.rd.le
  rw [ci_length, h.len] at hle
  have HR : Hid (Rd8 w ao n cap (rowN L)) := h
  have HOK : Hid (∀ b ∈ L, BtOk b) := hok
  have HC : Hid (Chain L) := hch
  have HLL : Hid (L.length ≤ 20000) := by
    have h1 := h.len
    have h2 : L.length ≤ (rowN L).length := by
      clear h HR hok hch hn hle h1 HOK HC
      induction L with
      | nil => simp
      | cons b r ih =>
        have e : rowN (b :: r) = wbN b ++ rowN r := rfl
        rw [e, List.length_append, wbN_length, List.length_cons]
        omega
    show L.length ≤ 20000
    omega
  clear h hok hch
  go_enter Tryz.func50, Tryz.ntmps50
  go_wp2
  obtain ⟨J, hJ⟩ : ∃ J : Act → World → Prop, ∀ a' w', J a' w' ↔ ∃ (k : Nat) (z : Int) (v : Value) (u1 u2 u3 u6 u7 u8 u9 u10 u11 u12 u13 u14 u15 u16 u17 u18 u19 u20 u21 u22 u23 u24 u25 u26 u27 u28 u29 u30 u31 u32 u33 : Value), k ≤ L.length ∧ z = ((rowN (L.take k)).length : Int) ∧ a' = { tmps := #[.slice ao n cap, u1, u2, u3, v, .int .i64 z, u6, u7, u8, u9, u10, u11, u12, u13, u14, u15, u16, u17, u18, u19, u20, u21, u22, u23, u24, u25, u26, u27, u28, u29, u30, u31, u32, u33], defers := [] } ∧ Fnd w' w.heap.size v (L.take k) ∧ Below w.heap.size w w' := ⟨_, fun _ _ => Iff.rfl⟩
  have HJ : Hid _ := hJ
  clear hJ
  refine wp_scope_label 0 J (fun a' _ => n - (intOf (a'.tmps.getD 5 undef)).toNat) rfl ?_ ?_
  · intro hpass
    go_wp2
    go_step3
    rename_i hK
    exact hK _ _ <| hpass _ _ <| (HJ.out _ _).2 ⟨0, 0, .slice none 0 0, _, _, _, _, _, _, _, _, _, _, _, _, _, _, _, _, _, _, _, _, _, _, _, _, _, _, _, _, _, _, _, Nat.zero_le _, rfl, rfl, Fnd.nil w w.heap.size, Below.refl _ _⟩
  · intro a' w' hJa
    obtain ⟨k, z, v, u1, u2, u3, u6, u7, u8, u9, u10, u11, u12, u13, u14, u15, u16, u17, u18, u19, u20, u21, u22, u23, u24, u25, u26, u27, u28, u29, u30, u31, u32, u33, hk, rfl, rfl, hF, hbel⟩ := (HJ.out _ _).1 hJa
    clear hJa
    have hlp := rowN_split L k
    have hln := HR.out.len
    rw [hlp, List.length_append] at hln
    obtain ⟨p, hp⟩ : ∃ p, (rowN (L.take k)).length = p := ⟨_, rfl⟩
    rw [hp] at hln ⊢
    by_cases hlt : k < L.length
    · have hx := row_at (HR.out.below hbel) k p hlt hp
      have hw1 := wbN_length L[k]
      have hsn := rowN_snoc L k hlt
      have hfo := take_chain L HC.out k hlt
      have hbk := HOK.out L[k] (List.getElem_mem _)
      rw [rowN_drop L k hlt, List.length_append, hw1] at hln
      have HT : Hid (L.take (k + 1) = L.take k ++ [L[k]]) := List.take_succ_eq_append_getElem hlt
      have HN : Hid (((rowN (L.take (k + 1))).length : Int) = (p : Int) + (20 + 22 * (L[k].ps.length : Int))) := by
        show ((rowN (L.take (k + 1))).length : Int) = _
        rw [hsn, List.length_append, hp, hw1]; omega
      have hpn : p + (20 + 22 * L[k].ps.length) ≤ n := by omega
      rw [if_neg (by omega)] at hx
      generalize L[k] = b at *
      have HX : Hid (Rd8 w' (ao.map (fun x => x.add p)) (n - p) (cap - p) (wbN b ++ rowN (L.drop (k + 1)))) := hx
      have HF : Hid (L.take k = [] ∨ b.lsn = lastL (L.take k) + 1) := hfo
      have HB : Hid (BtOk b) := hbk
      have HTL : Hid ((L.take k).length ≤ 20000) := by
        have := HLL.out
        show (L.take k).length ≤ 20000
        rw [List.length_take]; omega
      clear hx hfo hbk hsn hlp hln hw1
      go_wp2_with (first
        | (at_builtin; refine wpList_append_fnd _ rfl _ _ rfl w.heap.size v (L.take k) b ap _ rfl rfl rfl hF4 hP4 HTL.out ?_ ?_; (have := hB3.size; simp; omega); intro v4 w4 hF5 hb4)
        | (go_at_call 91; refine (follows_ok v (L.take k) w.heap.size b ap _ _ _ (hF2.below (below_box _ _)) HTL.out HB.out HF.out).mono ?_; rintro x w3 ⟨rfl, hb3⟩; have hq := (BtAt.new w2 b.lsn b.cl b.ep b.tx ap b.ps.length b.ps.length).below hb3; have q0 := hq.c0; have q1 := hq.c1; have q2 := hq.c2; have q3 := hq.c3; have q4 := hq.c4; clear hq; have hB3 : Below w.heap.size w w3 := below_step hB2 (below_alloc (hb3.mono (by simp))); have hF4 := ((hF2.below (below_box w2 (btO b.lsn b.cl b.ep b.tx ap b.ps.length b.ps.length))).below hb3).below (below_box w3 (btO b.lsn b.cl b.ep b.tx ap b.ps.length b.ps.length)); have hP4 := ((hP2.below (below_box w2 (btO b.lsn b.cl b.ep b.tx ap b.ps.length b.ps.length))).below hb3).below (below_box w3 (btO b.lsn b.cl b.ep b.tx ap b.ps.length b.ps.length)))
        | (go_at_call 90; refine (first_ok b _ _ _ _ _ HB.out HX.out (by omega)).mono ?_; rintro x w2 ⟨ap, rfl, hP2a, hb2⟩; have hP2 := hP2a.mono hbel.size; clear hP2a; have hB2 : Below w.heap.size w w2 := below_step hbel hb2; have hF2 := hF.below hb2)
        | (fail))
      go_step3
      refine ⟨rfl, (HJ.out _ _).2 ⟨k + 1, _, v4, _, _, _, _, _, _, _, _, _, _, _, _, _, _, _, _, _, _, _, _, _, _, _, _, _, _, _, _, _, _, _, by omega, HN.out.symm, rfl, by rw [HT.out]; exact hF5, (hB3.alloc hB3.size _).trans hb4⟩, ?_⟩
      simp [intOf]; omega
    · have hkl : k = L.length := by omega
      subst hkl
      rw [List.drop_of_length_le (Nat.le_refl _)] at hln
      have hpn : p = n := by simpa [rowN] using hln
      subst hpn
      rw [List.take_of_length_le (Nat.le_refl _)] at hF
      clear hlp hln hp
      go_wp2_with (first
        | (go_at_call 90; refine (first_short _ _ _ _ (by omega)).mono ?_; rintro x w2 ⟨rfl, hb2⟩)
        | (fail))
      all_goals (
        simp only [Exit.jump]
        go_returns
        exact ⟨v, rfl, (hF.below hb2).below (below_box _ _), (below_step hbel hb2).alloc (below_step hbel hb2).size _⟩)

end Go.Proofs.YtpofihiojhbfgaaGreatDoor
