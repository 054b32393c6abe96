/- What first of package wal does, walked: with few bytes, and with a commit's. -/
import Derived.Test.YthckdfggnmoaeaaW6
namespace Go.Proofs.Ythckdfggnmoaeaa
open Go.RowKit
set_option linter.unusedVariables false

set_option maxHeartbeats 400000 in
theorem first_short (ao : Option Addr) (n cap : Nat) (w : World) (hn : n < 3) :
    Calls Try.prog 47 #[.slice ao n cap] w fun x w' => x = .returned (.tuple #[btV 0 0 0 0 none 0 0, .int .i64 0, .bool false]) ∧ Below w.heap.size w w' := by
  have hq := BtAt.new w 0 0 0 0 none 0 0
  have q0 := hq.c0
  have q1 := hq.c1
  have q2 := hq.c2
  have q3 := hq.c3
  have q4 := hq.c4
  clear hq
  go_enter Try.func47, Try.ntmps47
  go_wp2
  go_returns
  refine ⟨rfl, ?_⟩
  go_grown

theorem wb_head {w : World} {ao : Option Addr} {n cap : Nat} {b : Bt} {rest : List Nat} (h : Rd8 w ao n cap (wbN b ++ rest)) : RdI w .u8 ao cap (formsN [((17 + 22 * b.ps.length : Nat) : Int)] ++ []) := by
  have hl := wbN_length b
  have h1 := h.rd.head 3 (by rw [ci_length, List.length_append, hl]; omega)
  have e : (ci (wbN b ++ rest)).take 3 = formsN [((17 + 22 * b.ps.length : Nat) : Int)] ++ [] := by
    have l3 : (nb (formsN [((17 + 22 * b.ps.length : Nat) : Int)])).length = 3 := by rw [nb_length, formsN_length]; rfl
    rw [ci_take, wbN, List.append_assoc, List.take_append_of_le_length (Nat.le_of_eq l3.symm), List.take_of_length_le (Nat.le_of_eq l3), ci_nb (formsN_bd _), List.append_nil]
  rwa [e] at h1

theorem wb_body {w : World} {ao : Option Addr} {n cap : Nat} {b : Bt} {rest : List Nat} (h : Rd8 w ao n cap (wbN b ++ rest)) : Rd8 w (ao.map (fun x => x.add 3)) (17 + 22 * b.ps.length) (cap - 3) (sealN (bodyN b)) := by
  have hl := wbN_length b
  have hle := h.rd.le
  rw [ci_length, List.length_append, hl] at hle
  have h1 := h.rd.cut 3 (20 + 22 * b.ps.length) (by omega) (by rw [ci_length, List.length_append, hl]; omega)
  rw [if_neg (by omega)] at h1
  have e : ((ci (wbN b ++ rest)).drop 3).take (20 + 22 * b.ps.length - 3) = ci (sealN (bodyN b)) := by
    have l3 : (nb (formsN [((17 + 22 * b.ps.length : Nat) : Int)])).length = 3 := by rw [nb_length, formsN_length]; rfl
    have ls : (sealN (bodyN b)).length = 20 + 22 * b.ps.length - 3 := by rw [sealN_length, bodyN, nb_length, bodyZ_length]; omega
    rw [wbN, List.append_assoc, ci_append, ci_append, List.drop_append_of_le_length (by rw [ci_length, l3]; omega), List.drop_of_length_le (by rw [ci_length, l3]; omega), List.nil_append, ← ls, List.take_append_of_le_length (by rw [ci_length]; omega), List.take_of_length_le (by rw [ci_length]; omega)]
  rw [e] at h1
  refine ⟨h1, by rw [sealN_length, bodyN, nb_length, bodyZ_length]; omega, sealN_bytes (nb_bytes (bodyZ_bd _ _ _ _ _ _))⟩

theorem body_rd {w : World} {base : Nat} {ao : Option Addr} {m cap : Nat} {b : Bt} (h : Own8 w base ao m cap ((sealN (bodyN b)).take m)) (hm : m = 15 + 22 * b.ps.length) : RdI w .u8 ao cap (bodyZ b.lsn b.cl b.ep b.tx b.ps.length b.ps) := by
  have hl : (bodyN b).length = m := by rw [bodyN, nb_length, bodyZ_length, hm]
  have e := sealN_take (bodyN b)
  rw [sealN_length, hl, show m + 2 - 2 = m by omega] at e
  have h1 := h.own.rd
  rw [e, bodyN, ci_nb (bodyZ_bd _ _ _ _ _ _)] at h1
  exact h1

set_option maxHeartbeats 800000 in
theorem first_ok (b : Bt) (ao : Option Addr) (n cap : Nat) (rest : List Nat) (w : World) (hok : BtOk b) (h : Rd8 w ao n cap (wbN b ++ rest)) (hn : n ≤ 20000) :
    Calls Try.prog 47 #[.slice ao n cap] w fun x w' => ∃ ap, x = .returned (.tuple #[btV b.lsn b.cl b.ep b.tx ap b.ps.length b.ps.length, .int .i64 ((20 + 22 * b.ps.length : Nat) : Int), .bool true]) ∧ OwnP w' w.heap.size ap b.ps.length (b.ps.map PutG.can) ∧ Below w.heap.size w w' := by
  have hlen := h.len
  rw [List.length_append, wbN_length] at hlen
  have hle := h.rd.le
  rw [ci_length, h.len] at hle
  have hm24 := hok.ps.le
  have H1 := wb_head (h.alloc btZ)
  have H2 := wb_body (h.alloc btZ)
  have hz : BtAt (w.alloc btZ) w.heap.size 0 0 0 0 none 0 0 := BtAt.new w 0 0 0 0 none 0 0
  have HK : Hid (∀ W ao' cap', RdI W .u8 ao' cap' (bodyZ b.lsn b.cl b.ep b.tx b.ps.length b.ps) → Calls Try.prog 64 #[.slice ao' (15 + 22 * b.ps.length) cap'] W fun x w' => ∃ ap, x = .returned (.tuple #[btV b.lsn b.cl b.ep b.tx ap b.ps.length b.ps.length, .bool true]) ∧ OwnP w' W.heap.size ap b.ps.length (b.ps.map PutG.can) ∧ Below W.heap.size W w') := fun W ao' cap' hr => batchOf_ok b ao' cap' _ W hok hr rfl
  have HR : Hid (∀ (W : World) (base : Nat) (ao' : Option Addr) (m cap' : Nat), Own8 W base ao' m cap' ((sealN (bodyN b)).take m) → m = 15 + 22 * b.ps.length → RdI W .u8 ao' cap' (bodyZ b.lsn b.cl b.ep b.tx b.ps.length b.ps)) := fun W base ao' m cap' h1 h2 => body_rd h1 h2
  have HO : Hid (okN (sealN (bodyN b))) := sealN_ok _
  generalize b.ps.length = m at *
  generalize (b.lsn : Int) = l at *
  generalize (b.cl : Int) = c at *
  generalize (b.ep : Int) = e at *
  generalize (b.tx : Int) = t at *
  generalize sealN (bodyN b) = fs at *
  have HL : Hid ((20 + 22 * m) + rest.length = n) := hlen
  clear h hok
  have hge : 20 + 22 * m ≤ n := by omega
  clear hlen
  have hst := fun (ad : Addr) (re im : Nat) (W : World) => run_store Try.prog W ad (.complex .f64 re im) .plain rfl
  go_enter Try.func47, Try.ntmps47
  go_wp2_with (first
    | (go_at_call 64; refine (HK.out _ _ _ (HR.out _ _ _ _ _ ho3 rfl)).mono ?_; rintro x w4 ⟨ap, rfl, hp4, hb4⟩; have hz4 := ((hz.below hb1).below hb3).below hb4; have hz5 := hz4.below (below_box w4 (btO l c e t ap m m)); have x0 := hz5.c0; have x1 := hz5.c1; have x2 := hz5.c2; have x3 := hz5.c3; have x4 := hz5.c4; have y0 := hz5.fz 0; have y1 := hz5.fz 1; have y2 := hz5.fz 2; have y3 := hz5.fz 3; have y4 := hz5.fz 4)
    | (go_at_call 63; refine (open_ok _ (15 + 22 * m) (17 + 22 * m) _ fs _ (H2.below hb1) (by omega) (by omega) HO.out).mono ?_; rintro x w3 ⟨ao3, cap3, rfl, ho3, hb3⟩)
    | (go_at_call 62; refine (get_forms _ _ 3 1 0 [((17 + 22 * m : Nat) : Int)] [] _ H1 rfl rfl rfl ?_ (by simp) (by omega) (by omega)).mono ?_; (intro z hz; simp only [List.mem_cons, List.not_mem_nil, or_false] at hz; omega); rintro x w1 ⟨a1, c1, a2, c2, rfl, ho1, -, hb1⟩; obtain ⟨b1, f1, rfl, hlt1, hc⟩ := ho1.rd.at (t := 0) (by simp); have p0 := hc 0 (by simp); simp only [List.getElem_cons_zero, Nat.add_zero] at p0; clear hc)
    | (fail))
  refine bodyPost_ret (by simp [results, Try.results47, go_sem, x0, x1, x2, x3, x4]; try rfl) rfl ?_
  have hB4 : Below w.heap.size w w4 := below_step (below_step (below_alloc (hb1.mono (by simp))) hb3) hb4
  have hB3 : Below w.heap.size w w3 := below_step (below_alloc (hb1.mono (by simp))) hb3
  have hlt3 : w.heap.size < w3.heap.size := by have h1 := hb1.size; have h2 := hb3.size; simp at h1; omega
  have hp5 := hp4.below (below_box w4 (btO l c e t ap m m))
  refine ⟨ap, ?_, (((((hp5.other _ _ hlt3).other _ _ hlt3).other _ _ hlt3).other _ _ hlt3).other _ _ hlt3).mono hB3.size, (((((hB4.alloc hB4.size _).setCell (Nat.le_refl _) _).setCell (Nat.le_refl _) _).setCell (Nat.le_refl _) _).setCell (Nat.le_refl _) _).setCell (Nat.le_refl _) _⟩
  rw [show ((20 + 22 * m : Nat) : Int) = 3 + (17 + 22 * (m : Int)) by omega]

end Go.Proofs.Ythckdfggnmoaeaa
