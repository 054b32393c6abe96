/- For every sequence of bytes: what the program's Read answers is what the document's answer is, message and error: the law's function returns true, and the bytes read as they did. Conditions: none. -/
import Derived.Test.YtgeoeaadeemmcaaRows
import Derived.Test.YtgeoeaadeemmcaaMath
import Derived.Test.YtgeoeaadeemmcaaLeaf
import Derived.Test.YtgeoeaadeemmcaaWalks
import Derived.Test.YtgeoeaadeemmcaaSl
import Derived.Test.YtgeoeaadeemmcaaPkm
import Derived.Test.YtgeoeaadeemmcaaPk1
import Derived.Test.YtgeoeaadeemmcaaPk2
import Derived.Test.YtgeoeaadeemmcaaPk3
import Derived.Test.YtgeoeaadeemmcaaPk4
import Derived.Test.YtgeoeaadeemmcaaPk6
import Derived.Test.YtgeoeaadeemmcaaCm
import Derived.Test.YtgeoeaadeemmcaaCr1
import Derived.Test.YtgeoeaadeemmcaaCr2
import Derived.Test.YtgeoeaadeemmcaaCr3
import Derived.Test.YtgeoeaadeemmcaaPg3
import Derived.Test.YtgeoeaadeemmcaaPg4
import Derived.Test.YtgeoeaadeemmcaaW1
import Derived.Test.YtgeoeaadeemmcaaW2
import Derived.Test.YtgeoeaadeemmcaaM1
import Derived.Test.YtgeoeaadeemmcaaM2
import Derived.Test.YtgeoeaadeemmcaaM3
import Derived.Test.YtgeoeaadeemmcaaM4
import Derived.Test.YtgeoeaadeemmcaaSd
import Derived.Test.YtgeoeaadeemmcaaAp
import Derived.Test.YtgeoeaadeemmcaaMz
import Derived.Test.YtgeoeaadeemmcaaPr1
import Derived.Test.YtgeoeaadeemmcaaN1
import Derived.Test.YtgeoeaadeemmcaaM7
import Derived.Test.YtgeoeaadeemmcaaM5
import Derived.Test.YtgeoeaadeemmcaaNk
import Derived.Test.YtgeoeaadeemmcaaNrA
import Derived.Test.YtgeoeaadeemmcaaNrB
import Derived.Test.YtgeoeaadeemmcaaM8
import Derived.Test.YtgeoeaadeemmcaaNx
import Derived.Test.YtgeoeaadeemmcaaN2
import Derived.Test.YtgeoeaadeemmcaaN3
import Derived.Test.YtgeoeaadeemmcaaPa
import Derived.Test.YtgeoeaadeemmcaaPb
import Derived.Test.YtgeoeaadeemmcaaPc
import Derived.Test.YtgeoeaadeemmcaaCr4
import Derived.Test.YtgeoeaadeemmcaaCr5
import Derived.Test.YtgeoeaadeemmcaaCr7
import Derived.Test.YtgeoeaadeemmcaaRf1
import Derived.Test.YtgeoeaadeemmcaaRf2
import Derived.Test.YtgeoeaadeemmcaaQa
import Derived.Test.YtgeoeaadeemmcaaM6
import Derived.Test.YtgeoeaadeemmcaaN8
import Derived.Test.YtgeoeaadeemmcaaMa
import Derived.Test.YtgeoeaadeemmcaaM9
import Derived.Test.YtgeoeaadeemmcaaNy
import Derived.Test.YtgeoeaadeemmcaaNz
import Derived.Test.YtgeoeaadeemmcaaNw
import Derived.Test.YtgeoeaadeemmcaaN9
import Derived.Test.YtgeoeaadeemmcaaN0
import Derived.Test.YtgeoeaadeemmcaaMball
import Derived.WalkKit
import Derived.ProofKit
import Derived.OpenShut
import Derived.ShutString
import Derived.ChangeOld
import Derived.SizedLaws
import Derived.Below
import Derived.Deep.QuietTactic
import Derived.BigQuiet
import Derived.Deep.RegionWith
import Derived.Deep.RegionHeld
import Derived.Deep.RegionHeldLaw
import Derived.RegionTactic
namespace Go.Proofs.Ytgeoeaadeemmcaa
open Go.RowKit
set_option linter.unusedVariables false

theorem refRight_any (M : Mg) (ao : Option Addr) (nn cap : Nat) (w : World) (h : RdP w ao nn cap M.ps) (hnn : nn ≤ 1000) (hw : Wd M) :
    Calls Try.prog 53 #[msV M ao nn cap] w fun x w' => x = .returned (.bool (rightB M)) ∧ Below w.heap.size w w' := by
  obtain ⟨k, p, o, t, c, n, wr, ps, v0, v1, v2, v3⟩ := M
  have hv : ∀ x ∈ [v0, v1, v2, v3], wordB x := by
    intro x hx
    simp only [List.mem_cons, List.not_mem_nil, or_false] at hx
    rcases hx with rfl | rfl | rfl | rfl
    · exact hw.v0
    · exact hw.v1
    · exact hw.v2
    · exact hw.v3
  by_cases hout : k < 0 ∨ 8 < k ∨ p < 0 ∨ 5 < p ∨ o < 0 ∨ 3 < o ∨ t < 0 ∨ 16777215 < t ∨ n < 0 ∨ 15 < n
  · exact refRight_out k p o t c n wr ps v0 v1 v2 v3 ao nn cap w hout
  have hN : Nb k p o t n := by constructor <;> omega
  have hl : nn ≤ 140737488355328 := by omega
  have hk : k = 0 ∨ k = 1 ∨ k = 2 ∨ k = 3 ∨ k = 4 ∨ k = 5 ∨ k = 6 ∨ k = 7 ∨ k = 8 := by omega
  by_cases h0 : nn = 0
  · subst nn
    rcases hk with rfl | rfl | rfl | rfl | rfl | rfl | rfl | rfl | rfl
    · exact refRight_01z 0 (.inl rfl) p o t c n wr ps v0 v1 v2 v3 ao cap w h hN hv
    · exact refRight_01z 1 (.inr rfl) p o t c n wr ps v0 v1 v2 v3 ao cap w h hN hv
    · exact refRight_2 p o t c n wr ps v0 v1 v2 v3 ao 0 cap w h hl hN hv
    · exact refRight_3z p o t c n wr ps v0 v1 v2 v3 ao cap w h hN hv
    · exact refRight_46z 4 (.inl rfl) p o t c n wr ps v0 v1 v2 v3 ao cap w h hN hv
    · exact refRight_5z p o t c n wr ps v0 v1 v2 v3 ao cap w h hN hv
    · exact refRight_46z 6 (.inr rfl) p o t c n wr ps v0 v1 v2 v3 ao cap w h hN hv
    · exact refRight_7z p o t c n wr ps v0 v1 v2 v3 ao cap w h hN hv
    · exact refRight_8z p o t c n wr ps v0 v1 v2 v3 ao cap w h hN hv
  · rcases hk with rfl | rfl | rfl | rfl | rfl | rfl | rfl | rfl | rfl
    · exact refRight_01n 0 (.inl rfl) p o t c n wr ps v0 v1 v2 v3 ao nn cap w h hl h0 hN hv
    · exact refRight_01n 1 (.inr rfl) p o t c n wr ps v0 v1 v2 v3 ao nn cap w h hl h0 hN hv
    · exact refRight_2 p o t c n wr ps v0 v1 v2 v3 ao nn cap w h hl hN hv
    · exact refRight_3n p o t c n wr ps v0 v1 v2 v3 ao nn cap w h hl h0 hN hv
    · exact refRight_46n 4 (.inl rfl) p o t c n wr ps v0 v1 v2 v3 ao nn cap w h hl h0 hN hv
    · exact refRight_5n p o t c n wr ps v0 v1 v2 v3 ao nn cap w h hl h0 hN hv
    · exact refRight_46n 6 (.inr rfl) p o t c n wr ps v0 v1 v2 v3 ao nn cap w h hl h0 hN hv
    · exact refRight_7n p o t c n wr ps v0 v1 v2 v3 ao nn cap w h hl h0 hN hv
    · exact refRight_8n p o t c n wr ps v0 v1 v2 v3 ao nn cap w h hl h0 hN hv

end Go.Proofs.Ytgeoeaadeemmcaa

namespace Go.Proofs.Ytgeoeaadeemmcaa
open Go.RowKit

/-- The same where the step is guarded. -/
theorem step_append_rdG {P : Program} (w : World) {ops : Array Oper} {o : Oper} {a : Act} {K : Act → World → Prop} {Q : Exit → Act → World → Prop} {E : Prop} (hw : Region.wanted o (yielded ops a.tmps) = true) (s x : Operand) (t : TypeId)
    (ho : o.op = .call { callee := .builtin .append, args := #[s, x], argTypes := #[t, t] })
    (base : Nat) (e : TypeId) (k : IntKind) (z : Value) (bytes : Nat) (ht : P.underlying t = some (.slice e))
    (hinfo : (P.info? e).map (fun i => (i.zero, i.size, i.bytes)) = some (some z, 1, bytes)) (hzs : z.cells.size = 1)
    {ao : Option Addr} {cap n : Nat} {xs : List Int} {ao' : Option Addr} {cap' m : Nat} {ys : List Int}
    (hs : a.eval s = .slice ao n cap) (hx : a.eval x = .slice ao' m cap') (hown : OwnI w base e k ao cap xs) (hrd : RdI w k ao' cap' ys) (hn : xs.length = n) (hm : ys.length = m)
    (hbytes : (n + m) * bytes ≤ 140737488355328) (h63 : n + m ≤ maxLen) (hbase : base ≤ w.heap.size)
    (h : ∀ ao2 cap2 w', OwnI w' base e k ao2 cap2 (xs ++ ys) → Below base w w' → K (a.put o.dst (.slice ao2 (n + m) cap2)) w') :
    if Region.wanted o (yielded ops a.tmps) = true then Oper.wp P o a w K Q else E := by
  rw [if_pos hw]
  subst hn hm
  obtain ⟨ao2, cap2, w', hr, h2, h3⟩ := run_append_rd (P := P) base t o.type e z bytes ht hinfo hzs hown hrd (ints_one _ _) (by simpa using hbytes) (by simpa using h63) hbase
  simp only [List.length_map] at hr
  unfold Oper.wp execOp
  simp only [ho, resolve, invoke, builtin, Sem.run_bind, Sem.run_pure, Result.andThen_ok, List.map_toArray, List.map_cons, List.map_nil, hs, hx, hr]
  exact h ao2 cap2 w' (by unfold OwnI; rw [List.map_append]; exact h2) h3

/-- An empty slice that was just built behind another thing. -/
theorem OwnI.fresh2 (w : World) (o : Obj) (base : Nat) (e : TypeId) (k : IntKind) (hb : base ≤ w.heap.size + 1) : OwnI ((w.alloc o).alloc (.cells #[] e)) base e k (some ⟨w.heap.size + 1, 0, none⟩) 0 [] := by
  have h := OwnI.fresh (w.alloc o) base e k (by simpa using hb)
  rwa [show (w.alloc o).heap.size = w.heap.size + 1 by simp] at h

end Go.Proofs.Ytgeoeaadeemmcaa

namespace Go.Proofs.Ytgeoeaadeemmcaa
open Go.RowKit
set_option linter.unusedVariables false

set_option maxHeartbeats 4000000 in
theorem refSamePuts_eq (a1 a2 : Option Addr) (n c1 c2 : Nat) (ps : List PutG) (w : World) (h1 : RdP w a1 n c1 ps) (h2 : RdP w a2 n c2 ps) (hw : ∀ p ∈ ps, wordB p.c) (hn : n ≤ 140737488355328) :
    Calls Try.prog 30 #[.slice a1 n c1, .slice a2 n c2] w fun x w' => x = .returned (.bool true) ∧ Below w.heap.size w w' := by
  have H1 : Hid (RdP w a1 n c1 ps) := h1
  have H2 : Hid (RdP w a2 n c2 ps) := h2
  have HW : Hid (∀ p ∈ ps, wordB p.c) := hw
  clear h1 h2 hw
  go_enter Try.func30, Try.ntmps30
  go_wp2
  go_loopw [13] (fun i wr => ∃ (k j : Nat), k ≤ n ∧ i = .int .i64 k ∧ wr = w.drewN j) (fun i _ => n - (intOf i).toNat)
  case atStart => exact ⟨0, 0, Nat.zero_le _, rfl, rfl⟩
  case round =>
    obtain ⟨k, j, hk, rfl, rfl⟩ := hrel
    by_cases hlt : k < n
    · have hkl : k < ps.length := by rw [H1.out.len]; exact hlt
      have u := HW.out _ (List.getElem_mem hkl)
      obtain ⟨b1, o1, e1, hb1, p0, p1, p2⟩ := H1.out.cell k hkl
      obtain ⟨b2, o2, e2, hb2, r0, r1, r2⟩ := H2.out.cell k hkl
      generalize ps[k] = p at p0 p1 p2 r0 r1 r2 u
      clear H1 H2
      subst e1 e2
      go_wp2
      go_quiet ((first
        | (go_at_call 55; refine (refSame_any _ _ u u _).mono ?_; rw [sameB_self]; rintro x w0 ⟨rfl, hw⟩; subst w0; exact ⟨rfl, _, rfl⟩)))
      go_wp2
      go_roundw
      case rel => exact ⟨k + 1, _, by omega, by go_num, rfl⟩
      case measure => simp [intOf]; omega
    · go_wp2
      go_ret
      have hB := Below.refl w.heap.size w
      exact ⟨rfl, ⟨hB.os, hB.tape, hB.output, hB.size, hB.block⟩⟩

set_option maxHeartbeats 4000000 in
set_option maxRecDepth 100000 in
theorem refSame_eq (M : Mg) (a1 a2 : Option Addr) (n c1 c2 : Nat) (w : World) (h1 : RdP w a1 n c1 M.ps) (h2 : RdP w a2 n c2 M.ps) (hw : Wd M) (hn : n ≤ 140737488355328) :
    Calls Try.prog 10 #[msV M a1 n c1, msV M a2 n c2] w fun x w' => x = .returned (.bool true) ∧ Below w.heap.size w w' := by
  obtain ⟨k, p, o, t, c, nn, wr, ps, v0, v1, v2, v3⟩ := M
  have HV : Hid (∀ x ∈ [v0, v1, v2, v3], wordB x) := words4 hw.v0 hw.v1 hw.v2 hw.v3
  have HW : Hid (∀ p ∈ ps, wordB p.c) := hw.ps
  have H1 : Hid (RdP w a1 n c1 ps) := h1
  have H2 : Hid (RdP w a2 n c2 ps) := h2
  have HT : Hid _ := MgAt.two w ⟨k, p, o, t, c, nn, wr, ps, v0, v1, v2, v3⟩ ⟨k, p, o, t, c, nn, wr, ps, v0, v1, v2, v3⟩ a1 a2 n n c1 c2
  clear hw h1 h2
  go_enter Try.func10, Try.ntmps10
  go_wp2_with (first
    | (go_at_call 29; refine (refValues_any v0 v1 v2 v3 v0 v1 v2 v3 HV.out HV.out _).mono ?_; rw [allSame_self]; rintro x w1 ⟨rfl, hb1⟩; have hB1 : Below w.heap.size w w1 := (below2 w _ _).trans (hb1.mono (by simp; omega)); have t1 := (HT.out.1.below hb1).c7; have t2 := (HT.out.2.below hb1).c7; clear hb1)
    | (go_at_call 30; refine (refSamePuts_eq a1 a2 n c1 c2 ps _ (H1.out.below hB1) (H2.out.below hB1) HW.out hn).mono ?_; rintro x w2 ⟨rfl, hb2⟩; have hB2 : Below w.heap.size w w2 := below_step hB1 hb2; clear hb2)
    | (fail))
  go_ret
  exact ⟨rfl, hB2⟩

end Go.Proofs.Ytgeoeaadeemmcaa

namespace Go.Proofs.Ytgeoeaadeemmcaa
open Go.RowKit
set_option linter.unusedVariables false

theorem fin_some {M N : Mg} {r : List Int} (h : fin M r = some N) : N = M ∧ rightB M = true := by
  unfold fin at h
  split at h
  · rename_i hh
    cases h
    exact ⟨rfl, hh.2⟩
  · cases h

theorem parse_some_wd {zs : List Int} {M : Mg} (hb : ∀ z ∈ zs, 0 ≤ z ∧ z < 256) (h : parse zs = some M) : Wd M ∧ M.ps.length ≤ 24 := by
  have hbd : ∀ z ∈ zs.drop 24, 0 ≤ z ∧ z < 256 := fun z hz => hb z (List.mem_of_mem_drop hz)
  have z0 : wordB z2 := ⟨by decide, by decide⟩
  have key : Wd M ∧ rightB M = true := by
    unfold parse at h
    split at h
    · cases h
    · split at h
      · cases h
      · split at h
        · cases h
        · split at h
          · cases h
          · rename_i ps r hT
            obtain ⟨p1, p2, p3, p4⟩ := takeP_some _ hbd hT
            split at h
            · split at h
              · cases h
              · rename_i v s hV
                obtain ⟨q1, q2, q3, q4⟩ := takeV_some 4 p4 hV
                obtain ⟨a, b, c, d, rfl⟩ := list4 q2
                obtain ⟨rfl, hr⟩ := fin_some h
                exact ⟨⟨p3, q3 a (by simp), q3 b (by simp), q3 c (by simp), q3 d (by simp)⟩, hr⟩
            · obtain ⟨rfl, hr⟩ := fin_some h
              exact ⟨⟨p3, z0, z0, z0, z0⟩, hr⟩
  exact ⟨key.1, (putsB_mem (bd_of_right key.2).ps).1⟩

theorem parse_out {zs : List Int} (hb : ∀ z ∈ zs, 0 ≤ z ∧ z < 256) : Wd (outM (parse zs)) ∧ (outM (parse zs)).ps.length ≤ 24 := by
  cases h : parse zs with
  | none => exact ⟨wd_Z, Nat.zero_le _⟩
  | some M => exact parse_some_wd hb h

theorem readR_to {zs : List Int} {w : World} {x : Ending} {w' : World} {M : Mg} {E : Int} {L : Nat} (h : ReadR zs w x w') (hM : outM (parse zs) = M) (hE : outE (parse zs) = E) (hL : M.ps.length = L) :
    ∃ a c, x = .returned (.tuple #[msV M a L c, .int .i64 E]) ∧ RdP w' a L c M.ps ∧ Below w.heap.size w w' := by
  obtain ⟨a, n, c, hx, hr, hb⟩ := h
  rw [hM] at hx hr
  rw [hE] at hx
  obtain rfl : L = n := hL.symm.trans hr.len
  exact ⟨a, c, hx, hr, hb⟩

set_option maxHeartbeats 8000000 in
set_option maxRecDepth 100000 in
theorem reads_any (ao : Option Addr) (cap n : Nat) (zs : List Int) (w : World) (HRd : ∀ (W : World) (a : Option Addr) (c : Nat), RdI W .u8 a c zs → Calls Try.prog 9 #[.slice a n c] W (ReadR zs W)) (h : RdI w .u8 ao cap zs) (hn : zs.length = n) (hb : ∀ z ∈ zs, 0 ≤ z ∧ z < 256) (hlen : n ≤ 140737488351232) :
    Calls Try.prog 4 #[.slice ao n cap] w fun x w' => x = .returned (.bool true) ∧ Below w.heap.size w w' := by
  have hst := fun (ad : Addr) (re im : Nat) (W : World) => run_store Try.prog W ad (.complex .f64 re im) .plain rfl
  obtain ⟨hw, hl24⟩ := parse_out hb
  have HR : Hid (RdI w .u8 ao cap zs) := h
  have HB : Hid (∀ z ∈ zs, 0 ≤ z ∧ z < 256) := hb
  have HRD : Hid _ := HRd
  obtain ⟨M, hM⟩ : ∃ M, outM (parse zs) = M := ⟨_, rfl⟩
  obtain ⟨E, hE⟩ : ∃ E, outE (parse zs) = E := ⟨_, rfl⟩
  rw [hM] at hw hl24
  obtain ⟨L, hL⟩ : ∃ L, M.ps.length = L := ⟨_, rfl⟩
  rw [hL] at hl24
  have HM : Hid (outM (parse zs) = M) := hM
  have HE : Hid (outE (parse zs) = E) := hE
  have HL : Hid (M.ps.length = L) := hL
  have HWd : Hid (Wd M) := hw
  clear hM hE hL hw h hb HRd
  go_enter Try.func4, Try.ntmps4
  go_wp2_with (first
    | (go_at_call 10; refine (refSame_eq M a2 a3 L c2 c3 _ HP4.out HQ4.out HWd.out (by omega)).mono ?_; rintro x w5 ⟨rfl, hb5⟩; have HW5 : Hid (Below w.heap.size w w5) := below_step HW4.out hb5; clear hb5)
    | (go_at_call 7; refine (alive_any _).mono ?_; rintro x w4 ⟨rfl, hb4⟩; have HW4 : Hid (Below w.heap.size w w4) := below_step HW3.out hb4; have HP4 : Hid (RdP w4 a2 L c2 M.ps) := HP3.out.below hb4; have HQ4 : Hid (RdP w4 a3 L c3 M.ps) := HQ3.out.below hb4; have t1 := HM3.out.below hb4; have t2 := HN3.out.below hb4; have q0 : w4.cell? ⟨w2.heap.size, 0, none⟩ = some (.int .i64 M.k) := t1.c0; have q1 : w4.cell? ⟨w2.heap.size, 1, none⟩ = some (.int .i64 M.p) := t1.c1; have q2 : w4.cell? ⟨w2.heap.size, 2, none⟩ = some (.int .i64 M.o) := t1.c2; have q3 : w4.cell? ⟨w2.heap.size, 3, none⟩ = some (.int .i64 M.t) := t1.c3; have q4 : w4.cell? ⟨w2.heap.size, 4, none⟩ = some (.int .i64 M.c) := t1.c4; have q5 : w4.cell? ⟨w2.heap.size, 5, none⟩ = some (.int .i64 M.n) := t1.c5; have q6 : w4.cell? ⟨w2.heap.size, 6, none⟩ = some (.bool M.wr) := t1.c6; have q7 : w4.cell? ⟨w2.heap.size, 7, none⟩ = some (.slice a2 L c2) := t1.c7; have q8 : w4.cell? ⟨w2.heap.size, 8, none⟩ = some (.complex .f64 M.v0.1 M.v0.2) := t1.c8; have q9 : w4.cell? ⟨w2.heap.size, 9, none⟩ = some (.complex .f64 M.v1.1 M.v1.2) := t1.c9; have q10 : w4.cell? ⟨w2.heap.size, 10, none⟩ = some (.complex .f64 M.v2.1 M.v2.2) := t1.cA; have q11 : w4.cell? ⟨w2.heap.size, 11, none⟩ = some (.complex .f64 M.v3.1 M.v3.2) := t1.cB; have r0 : w4.cell? ⟨w3.heap.size, 0, none⟩ = some (.int .i64 M.k) := t2.c0; have r1 : w4.cell? ⟨w3.heap.size, 1, none⟩ = some (.int .i64 M.p) := t2.c1; have r2 : w4.cell? ⟨w3.heap.size, 2, none⟩ = some (.int .i64 M.o) := t2.c2; have r3 : w4.cell? ⟨w3.heap.size, 3, none⟩ = some (.int .i64 M.t) := t2.c3; have r4 : w4.cell? ⟨w3.heap.size, 4, none⟩ = some (.int .i64 M.c) := t2.c4; have r5 : w4.cell? ⟨w3.heap.size, 5, none⟩ = some (.int .i64 M.n) := t2.c5; have r6 : w4.cell? ⟨w3.heap.size, 6, none⟩ = some (.bool M.wr) := t2.c6; have r7 : w4.cell? ⟨w3.heap.size, 7, none⟩ = some (.slice a3 L c3) := t2.c7; have r8 : w4.cell? ⟨w3.heap.size, 8, none⟩ = some (.complex .f64 M.v0.1 M.v0.2) := t2.c8; have r9 : w4.cell? ⟨w3.heap.size, 9, none⟩ = some (.complex .f64 M.v1.1 M.v1.2) := t2.c9; have r10 : w4.cell? ⟨w3.heap.size, 10, none⟩ = some (.complex .f64 M.v2.1 M.v2.2) := t2.cA; have r11 : w4.cell? ⟨w3.heap.size, 11, none⟩ = some (.complex .f64 M.v3.1 M.v3.2) := t2.cB; clear t1 t2 hb4)
    | (go_at_call 9; refine (HRD.out _ _ _ (HR.out.below HW2.out)).mono ?_; intro x w3 hx3; obtain ⟨a3, c3, rfl, hp3, hb3⟩ := readR_to hx3 HM.out HE.out HL.out; have hbx := below_step hb3 (below_box w3 (msO M a3 L c3)); have HW3 : Hid (Below w.heap.size w (w3.alloc (msO M a3 L c3))) := below_step HW2.out hbx; have HP3 : Hid (RdP (w3.alloc (msO M a3 L c3)) a2 L c2 M.ps) := HP2.out.below hbx; have HQ3 : Hid (RdP (w3.alloc (msO M a3 L c3)) a3 L c3 M.ps) := hp3.below (below_box _ _); have HM3 : Hid (MgAt (w3.alloc (msO M a3 L c3)) w2.heap.size M a2 L c2) := HM2.out.below hbx; have HN3 : Hid (MgAt (w3.alloc (msO M a3 L c3)) w3.heap.size M a3 L c3) := MgAt.new w3 M a3 L c3; clear hbx hb3 hp3 hx3)
    | (go_at_call 8; refine (read_any a1 c1 n zs _ hf1 hn HB.out (by omega)).mono ?_; intro x w2 hx2; obtain ⟨a2, c2, rfl, hp2, hb2⟩ := readR_to hx2 HM.out HE.out HL.out; have hbx := below_step hb2 (below_box w2 (msO M a2 L c2)); have HW2 : Hid (Below w.heap.size w (w2.alloc (msO M a2 L c2))) := below_step HW1.out hbx; have HP2 : Hid (RdP (w2.alloc (msO M a2 L c2)) a2 L c2 M.ps) := hp2.below (below_box _ _); have HM2 : Hid (MgAt (w2.alloc (msO M a2 L c2)) w2.heap.size M a2 L c2) := MgAt.new w2 M a2 L c2; clear hbx hb2 hp2 hx2 hf1)
    | (at_builtin; refine wpList_append_rdI _ rfl (.tmp 8) (.tmp 9) 22 rfl w.heap.size 5 .u8 (.int .u8 0) 1 Try.underlying22 info5 rfl rfl rfl (OwnI.fresh w _ _ _ (Nat.le_refl _)) (HR.out.alloc _) rfl hn (by omega) (by unfold maxLen; omega) (by simp) ?_; intro a1 c1 w1 hf1' hb1; have HW1 : Hid (Below w.heap.size w w1) := below_alloc hb1; have hf1 : RdI w1 .u8 a1 c1 zs := (by simpa using hf1'.rd); clear hf1' hb1)
    | (fail))
  go_ret
  exact ⟨rfl, HW5.out⟩

end Go.Proofs.Ytgeoeaadeemmcaa

namespace Go.Proofs.Ytgeoeaadeemmcaa.msgReads
open Go.ChangeShapes Go.WideShapes Go.ChangeAt Go.RowKit
set_option linter.unusedVariables false

theorem own : ownKnob Try.prog.godebug = none := by kernel_rfl
theorem laidOut : laidOutB Try.prog = true := by kernel_rfl
theorem bytes5 : Try.prog.bytesOf 5 = 1 := by kernel_rfl

theorem bytes_of {zs : List Int} (b : ∀ z ∈ zs, (Lit.int .u8 z).wf = true) : ∀ z ∈ zs, 0 ≤ z ∧ z < 256 := by
  intro z hz
  have := b z hz
  simp [Lit.wf, IntKind.min, IntKind.max, IntKind.bits, IntKind.signed] at this
  omega

theorem refRead_any (ao : Option Addr) (cap n : Nat) (zs : List Int) (w : World) (hrd : RdI w .u8 ao cap zs) (hn : zs.length = n) (hb : ∀ z ∈ zs, 0 ≤ z ∧ z < 256) (hlen : n ≤ 140737488355328) :
    Calls Try.prog 9 #[.slice ao n cap] w (ReadR zs w) := by
  by_cases h24 : n < 24
  · have hp : parse zs = none := by rw [parse, if_pos (by omega)]
    exact (refRead_short ao cap n w h24).mono fun x w' hx => readR_none hp hx.1 hx.2
  by_cases h7 : nAt zs 7 ≤ 25
  · exact refRead_few ao cap n zs w (fun M a m c W h1 h2 h3 => refRight_any M a m c W h1 h2 h3) hrd hn hb (by omega) hlen h7
  · exact refRead_many ao cap n zs w (fun M a m c W h1 h2 h3 => refRight_any M a m c W h1 h2 h3) hrd hn hb (by omega) hlen (by omega)

theorem walk (a0 : Option Addr) (c0 n0 : Nat) (z0 : List Int) (w : World) (r0 : RdI w .u8 a0 c0 z0) (l0 : z0.length = n0) (b0 : ∀ z ∈ z0, (Lit.int .u8 z).wf = true) (s0 : n0 * 1 ≤ 140737488351232) :
    Calls Try.prog 4 #[.slice a0 n0 c0] w fun e w' => e = .returned (.bool true) ∧ Below w.heap.size w w' :=
  reads_any a0 c0 n0 z0 w (fun W a c h => refRead_any a c n0 z0 W h l0 (bytes_of b0) (by omega)) r0 l0 (bytes_of b0) (by omega)

set_option maxRecDepth 100000 in
theorem lifted (os : Os) (started : os.Started) (H : Type) (enc : TypeId × Value → H) :
    ReturnsInHanded {} Try.checked os 4 .any (Rows.msgReadsSpec.pre6 enc Try.prog Try.f4 Rows.msgReadsRow.domain false) (Rows.msgReadsSpec.post enc Try.prog Try.f4 false true false false) := by
  refine returnsInHanded_of_change_sized (C := Try.checked) own started (by kernel_rfl) Try.func4
    (ChangeSpec.witness6 (enc := enc) (C := Try.checked) false ⟨#[], #[.slice none 0 0], []⟩ 8 (by kernel_rfl) (by kernel_rfl) (by kernel_rfl) (by kernel_rfl)) ?_
  intro W base args ds gs before hval0 hW hcnd hsz0 _
  have hval : ∀ (j : Nat) t v, Try.f4.params[j]? = some t → args[j]? = some v → Value.okWide Try.prog W .any base t v := hval0
  have hsz : (DataW.weightsEach Try.prog (Try.f4.params.toList ++ Rows.msgReadsSpec.plain.varTypes Try.prog) (ds ++ gs)).all (· ≤ reachBytes) = true := hsz0
  have hW' := hW
  obtain ⟨p, q, hA0, hV, rfl, hfz, hnd⟩ := hW
  have hA : DataW.TrodAll enc Try.prog W 0 (fun _ => true) true Try.f4.params.toList args.toList ds p := hA0
  rw [Try.params4] at hA hval hsz
  obtain ⟨v0, vs0, d0, ds0, p0, q0, hargs, rfl, rfl, h0, r0⟩ := trodAll_cons hA
  obtain ⟨rfl, rfl, rfl⟩ := trodAll_nil r0
  obtain rfl : args = #[v0] := by cases args; simp_all
  obtain ⟨rfl, rfl⟩ := trodVars_none hV
  obtain ⟨a0, n0, c0, rfl⟩ := okWide_slice Try.underlying22 (hval 0 22 v0 rfl rfl)
  have k0 := h0
  have lt0 : ∀ x ∈ p0, x.block < W.heap.size := by obtain ⟨m, hm⟩ := k0; exact DataW.trod_lt m _ _ _ hm
  obtain ⟨z0, r0', l0, b0, s0⟩ : ∃ zs, RdI W .u8 a0 c0 zs ∧ zs.length = n0 ∧ (∀ z ∈ zs, (Lit.int .u8 z).wf = true) ∧ n0 * 1 ≤ 140737488351232 := by
    obtain ⟨fuel, hf⟩ := h0
    rcases open_ints Try.underlying22 Try.underlying5 (by kernel_rfl) hf with ⟨hcs, _⟩ | ⟨x, l, c, zs, hcs, _, hl, hm, hz, hx, hcell, hwz⟩
    · simp [Value.cells] at hcs
      obtain ⟨rfl, rfl, rfl⟩ := hcs
      exact ⟨[], RdI.empty W .u8, rfl, by simp, by omega⟩
    · simp [Value.cells] at hcs
      obtain ⟨rfl, rfl, rfl⟩ := hcs
      have hd : d0 = .slice (lits .u8 (zs.take n0)) (lits .u8 (zs.drop n0)) := (Prod.mk.inj hx).1
      have hs := sized_slice hsz (j := 0) (t := 22) (e := 5) rfl (by rw [hd]; rfl) Try.underlying22
      have hz2 : zs.length = c0 := by simpa using hz
      rw [bytes5] at hs
      simp only [lits, List.length_map, List.length_take, List.length_drop, reachBytes] at hs
      exact ⟨zs.take n0, rdI_of_row hl hm hz2 hcell, by simp; omega, fun z h => hwz z (List.mem_of_mem_take h), by omega⟩
  clear hA0 hval0
  refine (walk a0 c0 n0 z0 W r0' l0 b0 s0).mono fun e W' ⟨he, bel⟩ => ?_
  subst he
  exact ⟨_, rfl, _, _, _, [], _, [], hW', trodAll_mk1 (shut_bool Try.underlying4 _), (trodAll_cons_mk (Below.trod laidOut (by kernel_rfl) (of_decide_eq_true (by kernel_rfl)) k0 bel lt0) trodAll_mk0), rfl, bel.frame _, fun h => by cases h⟩

theorem over : Rows.msgReadsRow.holds Try.pinned (OpenSpec.ofChange Rows.msgReadsSpec) :=
  OpenClaim.holds_of_wide 4 Try.f4 rfl rfl rfl rfl rfl rfl rfl ⟨rfl, rfl, rfl, rfl, rfl⟩ rfl rfl rfl rfl rfl (by kernel_rfl) Try.func4 (by kernel_rfl)
    (of_decide_eq_true (by kernel_rfl)) (by unfold Func.isWrapper; first | (rw [if_pos (by decide +kernel)]; kernel_rfl) | (rw [if_neg (by decide +kernel)]; exact ⟨rfl, rfl⟩))
    (fun os started H enc _ => lifted os started H enc)

theorem proved : Rows.MsgReadsSaid := over
#print axioms proved
end Go.Proofs.Ytgeoeaadeemmcaa.msgReads
