/- serve and settle of package desk, walked. -/
import Derived.Test.YtllggjkhbecalaaDoorD6
namespace Go.Proofs.YtllggjkhbecalaaDoor
open Go.RowKit Go.Maps
set_option linter.unusedVariables false
set_option maxRecDepth 8000

theorem pass_mem (S : St) : ∀ (M : List Wt) (s s' : List Ck × List Sa) (x : Wt), pass S M s = (s', some x) → x ∈ M
  | [], s, s', x, h => by simp [pass] at h
  | y :: M, s, s', x, h => by
    unfold pass at h
    split at h
    · exact List.mem_cons_of_mem _ (pass_mem S M _ _ x h)
    · split at h
      · simp only [Prod.mk.injEq, Option.some.injEq] at h
        rw [h.2]
        exact List.mem_cons_self ..
      · exact List.mem_cons_of_mem _ (pass_mem S M _ _ x h)
theorem rm_len {L : List Wt} {c : Int} (h : hasB L c = true) : (rmL L c).length + 1 = L.length := by
  unfold hasB at h
  simp only [decide_eq_true_eq] at h
  unfold rmL
  rw [List.length_eraseIdx_of_lt h]
  omega
theorem pas_yes {S : St} (h : (pas S).2.2 = true) : (pas S).1.L.length + 1 = S.L.length := by
  unfold pas at h ⊢
  cases e : pass S S.L (S.K, []) with
  | mk s o =>
    rw [e] at h
    cases o with
    | none => cases h
    | some x =>
      have hm := pass_mem S _ _ _ _ e
      exact rm_len (hasB_true.2 ⟨x, hm, rfl⟩)
theorem pas_no {S : St} (h : (pas S).2.2 = false) : (pas S).1.L = S.L := by
  unfold pas at h ⊢
  cases e : pass S S.L (S.K, []) with
  | mk s o =>
    rw [e] at h
    cases o with
    | none => rfl
    | some x => cases h
theorem serv_yes {S : St} (h : (pas S).2.2 = true) : serv (S.L.length + 1) S = ((serv ((pas S).1.L.length + 1) (pas S).1).1, (pas S).2.1 ++ (serv ((pas S).1.L.length + 1) (pas S).1).2) := by
  rw [pas_yes h]
  conv => lhs; unfold serv
  rw [if_pos h]
theorem serv_no {S : St} (h : (pas S).2.2 = false) (n : Nat) : serv (n + 1) S = ((pas S).1, (pas S).2.1) := by
  unfold serv
  rw [if_neg (by rw [h]; simp)]

theorem edgL_from (S : St) : ∀ (M : List Wt) (e : Int × Int), e ∈ edgL S M → ∃ y ∈ M, e.1 = y.c
  | [], e, h => by simp [edgL] at h
  | y :: M, e, h => by
    unfold edgL at h
    rcases List.mem_append.1 h with h | h
    · unfold hEd at h
      obtain ⟨z, _, rfl⟩ := List.mem_map.1 h
      exact ⟨y, List.mem_cons_self .., rfl⟩
    · rcases List.mem_append.1 h with h | h
      · unfold aEd at h
        obtain ⟨z, _, rfl⟩ := List.mem_map.1 h
        exact ⟨y, List.mem_cons_self .., rfl⟩
      · obtain ⟨z, hz, e2⟩ := edgL_from S M e h
        exact ⟨z, List.mem_cons_of_mem _ hz, e2⟩
theorem vc_has {S : St} (h : Wai.vcB (edg S) = true) : hasB S.L (Wai.vcI (edg S)) = true := by
  have key : ∀ m : Nat, Wai.rB (edg S) m m = true → hasB S.L (m : Int) = true := by
    intro m hm
    obtain ⟨j, hj⟩ := Wai.r_first hm
    obtain ⟨_, _, hmem⟩ := (Wai.ad_iff _ _ _).1 hj
    obtain ⟨y, hy, e⟩ := edgL_from S S.L _ hmem
    exact hasB_true.2 ⟨y, hy, e.symm⟩
  unfold Wai.vcB at h
  unfold Wai.vcI
  cases h3 : Wai.rB (edg S) 3 3
  · cases h2 : Wai.rB (edg S) 2 2
    · cases h1 : Wai.rB (edg S) 1 1
      · cases h0 : Wai.rB (edg S) 0 0
        · rw [h3, h2, h1, h0] at h; cases h
        · exact key 0 h0
      · exact key 1 h1
    · exact key 2 h2
  · exact key 3 h3

theorem serv_le : ∀ (n : Nat) (S : St), (serv n S).1.L.length ≤ S.L.length
  | 0, S => Nat.le_refl _
  | n + 1, S => by
    cases h : (pas S).2.2
    · rw [serv_no h]
      show (pas S).1.L.length ≤ _
      rw [pas_no h]
      exact Nat.le_refl _
    · unfold serv
      rw [if_pos h]
      have h1 := serv_le n (pas S).1
      have h2 := pas_yes h
      show (serv n (pas S).1).1.L.length ≤ _
      omega
theorem brk_fuel : ∀ (m : Nat) (S : St) (n : Nat), S.L.length ≤ m → S.L.length + 1 ≤ n → brk n S = brk (S.L.length + 1) S
  | m, S, 0, hm, hn => absurd hn (by omega)
  | m, S, n + 1, hm, hn => by
    cases h : Wai.vcB (edg S)
    · unfold brk
      rw [if_neg (by rw [h]; simp), if_neg (by rw [h]; simp)]
    · have h1 := rm_len (vc_has h)
      have h2 : (outS S (Wai.vcI (edg S))).L.length + 1 = S.L.length := h1
      have h3 := serv_le ((outS S (Wai.vcI (edg S))).L.length + 1) (outS S (Wai.vcI (edg S)))
      match m with
      | 0 => omega
      | m + 1 =>
        have e1 := brk_fuel m (serv ((outS S (Wai.vcI (edg S))).L.length + 1) (outS S (Wai.vcI (edg S)))).1 n (by omega) (by omega)
        have e2 := brk_fuel m (serv ((outS S (Wai.vcI (edg S))).L.length + 1) (outS S (Wai.vcI (edg S)))).1 S.L.length (by omega) (by omega)
        conv => lhs; unfold brk
        conv => rhs; unfold brk
        rw [if_pos h, if_pos h, e1, e2]

/-- How many wait, read off the queue's block. -/
def lenQ (q : Nat) (w : World) : Nat := match w.cell? ⟨q, 0, none⟩ with | some (.slice _ n _) => n | _ => 0
theorem Dk.lenQ {B : Nat} {V : Nat → Prop} {W : World} {d g q : Nat} {S : St} {n : Nat} (h : Dk B V W d g q S n) : lenQ q W = S.L.length := by
  obtain ⟨C, ⟨ao, cap, b, hq⟩, _⟩ := h.qw
  unfold YtllggjkhbecalaaDoor.lenQ
  rw [hq.c0]

def msQ (q : Nat) (b : Value) (w : World) : Nat := match b with | .bool true => lenQ q w + 1 | _ => 0

set_option maxHeartbeats 6400000 in
theorem serve_any {B : Nat} {V : Nat → Prop} {w : World} {d g q : Nat} {S : St} {n : Nat} (H : Dk B V w d g q S n) (hV : ∀ k, V k → k < w.heap.size) (hn : n ≤ 700000) : Calls Tryd.prog 37 #[dp d] w fun e w' => ∃ a c, e = .returned (.slice a (serv (S.L.length + 1) S).2.length c) ∧ Dr B V w w' d g q (serv (S.L.length + 1) S).1 (n + 100) a c (serv (S.L.length + 1) S).2 ∧ (serv (S.L.length + 1) S).2.length ≤ 85 ∧ (serv (S.L.length + 1) S).1.L.length ≤ S.L.length := by
  have HD : Hid (Dk B V w d g q S n ∧ ∀ k, V k → k < w.heap.size) := ⟨H, hV⟩
  have hm4 : S.L.length ≤ 4 := H.len
  have HM : Hid (S.L.length ≤ 4) := hm4
  clear H hV
  go_enter Tryd.func37, Tryd.ntmps37
  go_wp2
  go_loopw [3, 4] (fun v b wr => ∃ (u : Bool) (a : Option Addr) (c l n' : Nat) (A : List Sa) (S' : St), b = .bool u ∧ v = .slice a l c ∧ Hid (A.length = l ∧ S'.L.length ≤ S.L.length ∧ l + 17 * (if u then S'.L.length + 1 else 0) ≤ 17 * (S.L.length + 1) ∧ n' + 20 * (if u then S'.L.length + 1 else 0) ≤ n + 20 * (S.L.length + 1) ∧ Dr B V w wr d g q S' n' a c A ∧ (u = true → serv (S.L.length + 1) S = ((serv (S'.L.length + 1) S').1, A ++ (serv (S'.L.length + 1) S').2)) ∧ (u = false → serv (S.L.length + 1) S = (S', A)))) (fun _ b wr => msQ q b wr)
  case atStart => exact ⟨true, none, 0, 0, n, [], S, rfl, rfl, ⟨rfl, Nat.le_refl _, by simp, by simp, HD.out.1.dr HD.out.2 (Below.refl _ _), fun _ => rfl, fun h => by cases h⟩⟩
  case round =>
    obtain ⟨u, a, c, l, n', A, S', rfl, rfl, HI⟩ := hrel
    rename World => wr
    cases u
    · have HF : Hid (serv (S.L.length + 1) S = (S', A)) := HI.out.2.2.2.2.2.2 rfl
      have HE : Hid (Dr B V w wr d g q S' (n + 100) a c A ∧ A.length = l ∧ l ≤ 85 ∧ S'.L.length ≤ S.L.length) := by
        have h1 := HI.out.2.2.1
        have h2 := HI.out.2.2.2.1
        have h4 := HM.out
        simp only [Bool.false_eq_true, if_false] at h1 h2
        exact ⟨HI.out.2.2.2.2.1.le (by omega), HI.out.1, by omega, HI.out.2.1⟩
      clear HI
      go_wp2
      go_ret
      refine ⟨a, c, ?_, ?_, ?_, ?_⟩
      · rw [HF.out, HE.out.2.1]; rfl
      · rw [HF.out]; exact HE.out.1
      · rw [HF.out, HE.out.2.1]; exact HE.out.2.2.1
      · rw [HF.out]; exact HE.out.2.2.2
    · have HL : Hid (A.length = l ∧ l ≤ 85 ∧ l + 17 * (S'.L.length + 1) ≤ 17 * (S.L.length + 1) ∧ n' + 20 * (S'.L.length + 1) ≤ n + 20 * (S.L.length + 1) ∧ S'.L.length ≤ S.L.length) := by
        have h1 := HI.out.2.2.1
        have h2 := HI.out.2.2.2.1
        have h4 := HM.out
        simp only [if_true] at h1 h2
        exact ⟨HI.out.1, by omega, h1, h2, HI.out.2.1⟩
      have hl85 : l ≤ 85 := HL.out.2.1
      have HC : Hid (Calls Tryd.prog 47 #[dp d] wr fun e w' => ∃ a3 c3 l3 u3, e = .returned (.tuple #[.slice a3 l3 c3, .bool u3]) ∧ Hid (Dr B V w w' d g q (pas S').1 (n' + 20) a c A ∧ RdR saC w' a3 c3 (pas S').2.1 ∧ (pas S').2.1.length = l3 ∧ (pas S').2.2 = u3) ∧ l3 ≤ 17) := by
        have hd := HI.out.2.2.2.2.1
        refine (serveOne_any hd.dk (hd.lt HD.out.2) (by have := HL.out; have := HM.out; omega)).mono ?_
        rintro e w' ⟨a3, c3, rfl, h3, h4⟩
        exact ⟨a3, c3, _, _, rfl, ⟨hd.step h3.dx, h3.own.rd, rfl, rfl⟩, h4⟩
      have HQ : Hid (lenQ q wr = S'.L.length) := HI.out.2.2.2.2.1.dk.lenQ
      have HS : Hid (serv (S.L.length + 1) S = ((serv (S'.L.length + 1) S').1, A ++ (serv (S'.L.length + 1) S').2)) := HI.out.2.2.2.2.2.1 rfl
      clear HI
      go_wp2_with (first
        | (go_at_call 47; refine HC.out.mono ?_; rintro e w5 ⟨a3, c3, l3, u3, rfl, HD5, hl3⟩)
        | (at_builtin; refine wpList_append_R saE _ rfl _ _ 24 rfl 34 _ 152 Tryd.underlying24 info34 rfl (L := A) (M := (pas S').2.1) (n := l) (m := l3) rfl rfl HD5.out.1.own HD5.out.2.1 HL.out.1 HD5.out.2.2.1 (by omega) (by unfold maxLen; omega) ?_; intro a2 c2 w8 ho8 hg8 hl8)
        | fail)
      have HD8 : Hid (Dr B V w w8 d g q (pas S').1 (n' + 20) a2 c2 (A ++ (pas S').2.1)) := HD5.out.1.app HD.out.2 (Below.refl _ _) hg8 ho8 hl8
      have HL8 : Hid ((A ++ (pas S').2.1).length = l + l3) := by show _ = _; rw [List.length_append, HL.out.1, HD5.out.2.2.1]
      clear ho8 hg8 hl8 HC
      go_roundw
      case rel =>
        refine ⟨u3, a2, c2, l + l3, n' + 20, _, (pas S').1, rfl, rfl, ⟨HL8.out, ?_, ?_, ?_, HD8.out, ?_, ?_⟩⟩
        · cases u3
          · rw [pas_no HD5.out.2.2.2]; exact HL.out.2.2.2.2
          · have := pas_yes HD5.out.2.2.2; have := HL.out; omega
        · cases u3
          · have := HL.out; simp only [Bool.false_eq_true, if_false]; omega
          · have := pas_yes HD5.out.2.2.2; have := HL.out; simp only [if_true]; omega
        · cases u3
          · have := HL.out; simp only [Bool.false_eq_true, if_false]; omega
          · have := pas_yes HD5.out.2.2.2; have := HL.out; simp only [if_true]; omega
        · rintro rfl
          rw [HS.out, serv_yes HD5.out.2.2.2]
          simp only [List.append_assoc]
        · rintro rfl
          rw [HS.out, serv_no HD5.out.2.2.2]
      case measure =>
        cases u3
        · show 0 < lenQ q wr + 1
          omega
        · have h1 := HD8.out.dk.lenQ
          have h2 := pas_yes HD5.out.2.2.2
          have h3 := HQ.out
          show lenQ q w8 + 1 < lenQ q wr + 1
          omega

set_option maxHeartbeats 12800000 in
theorem settle_any {B : Nat} {V : Nat → Prop} {w : World} {d g q : Nat} {S : St} {n : Nat} (H : Dk B V w d g q S n) (hV : ∀ k, V k → k < w.heap.size) (hn : n ≤ 600000) (hT : Wai.Tz w) (hB2 : 2 < B) : Calls Tryd.prog 19 #[dp d] w fun e w' => ∃ a c, e = .returned (.slice a (setl S).2.length c) ∧ Dr B V w w' d g q (setl S).1 (n + 600) a c (setl S).2 := by
  have HD : Hid (Dk B V w d g q S n ∧ (∀ k, V k → k < w.heap.size) ∧ Wai.Tz w ∧ 2 < B) := ⟨H, hV, hT, hB2⟩
  have hm4 : S.L.length ≤ 4 := H.len
  have HSv : Hid (Calls Tryd.prog 37 #[dp d] w fun e w' => ∃ a c l, e = .returned (.slice a l c) ∧ Hid (Dr B V w w' d g q (serv (S.L.length + 1) S).1 (n + 100) a c (serv (S.L.length + 1) S).2 ∧ (serv (S.L.length + 1) S).2.length = l ∧ l ≤ 85 ∧ (serv (S.L.length + 1) S).1.L.length ≤ S.L.length)) := by
    refine (serve_any H hV (by omega)).mono ?_
    rintro e w' ⟨a, c, rfl, h1, h2, h3⟩
    exact ⟨a, c, _, rfl, ⟨h1, rfl, h2, h3⟩⟩
  have HM : Hid (S.L.length ≤ 4) := hm4
  clear H hV hT
  go_enter Tryd.func19, Tryd.ntmps19
  go_wp2_with (first
    | (go_at_call 37; refine HSv.out.mono ?_; rintro e W0 ⟨a0, c0, l0, rfl, HW0⟩)
    | fail)
  clear HSv
  go_loopw [3] (fun v wr => ∃ (a : Option Addr) (c l n' : Nat) (A : List Sa) (S' : St), v = .slice a l c ∧ Hid (A.length = l ∧ S'.L.length ≤ 4 ∧ l + 90 * S'.L.length ≤ 450 ∧ n' + 100 * S'.L.length ≤ n + 500 ∧ Dr B V w wr d g q S' n' a c A ∧ setl S = ((brk (S'.L.length + 1) S').1, A ++ (brk (S'.L.length + 1) S').2))) (fun _ wr => lenQ q wr)
  case atStart => exact ⟨a0, c0, l0, n + 100, _, _, rfl, ⟨HW0.out.2.1, by have := HW0.out.2.2.2; have := HM.out; omega, by have := HW0.out.2.2; have := HM.out; omega, by have := HW0.out.2.2; have := HM.out; omega, HW0.out.1, rfl⟩⟩
  case round =>
    clear HW0
    obtain ⟨a, c, l, n', A, S', rfl, HI⟩ := hrel
    rename World => wr
    obtain ⟨v, hv⟩ : ∃ v, Wai.vcI (edg S') = v := ⟨_, rfl⟩
    obtain ⟨vb, hvb⟩ : ∃ vb, Wai.vcB (edg S') = vb := ⟨_, rfl⟩
    obtain ⟨el, hel⟩ : ∃ el, (edg S').length = el := ⟨_, rfl⟩
    have HC : Hid (Calls Tryd.prog 11 #[dp d] wr fun e w' => ∃ ae ce, e = .returned (.slice ae el ce) ∧ Hid (Calls Tryd.prog 38 #[.slice ae el ce] w' fun e w2 => e = .returned (.tuple #[.int .i64 v, .bool vb]) ∧ Hid (Below wr.heap.size wr w2))) := by
      refine (edges_any HI.out.2.2.2.2.1.dk).mono ?_
      rintro e w' ⟨ae, ce, rfl, h1, h2⟩
      refine ⟨ae, ce, by rw [hel], ?_⟩
      have htz : Wai.Tz w' := (HD.out.2.2.1.below HD.out.2.2.2 HI.out.2.2.2.2.1.bel).on h2
      refine (Wai.victim_any w' ae el ce (edg S') h1.rdE hel htz).mono ?_
      rw [hv, hvb]
      rintro e w2 ⟨rfl, h3⟩
      exact ⟨rfl, below_step h2 h3⟩
    have HV : Hid (Wai.vcI (edg S') = v ∧ Wai.vcB (edg S') = vb) := ⟨hv, hvb⟩
    clear hv hvb hel
    cases vb
    · have HF : Hid (setl S = (S', A)) := by
        have h := HI.out.2.2.2.2.2
        have hb : brk (S'.L.length + 1) S' = (S', []) := by
          unfold brk
          rw [if_neg (by rw [HV.out.2]; simp)]
        rw [hb, List.append_nil] at h
        exact h
      have HL : Hid (A.length = l) := HI.out.1
      have HE : Hid (∀ w6, Below wr.heap.size wr w6 → Dr B V w w6 d g q S' (n + 600) a c A) := fun w6 h => (HI.out.2.2.2.2.1.more HD.out.2.1 h).le (by have := HI.out.2.2.2.1; omega)
      clear HI
      go_wp2_with (first
        | (go_at_call 11; refine HC.out.mono ?_; rintro e w5 ⟨ae, ce, rfl, HC2⟩)
        | (go_at_call 38; refine HC2.out.mono ?_; rintro e w6 ⟨rfl, HB6⟩)
        | fail)
      go_ret
      refine ⟨a, c, ?_, ?_⟩
      · rw [HF.out, HL.out]; rfl
      · rw [HF.out]; exact HE.out w6 HB6.out
    · have HHas : Hid (hasB S'.L v = true) := by have := vc_has HV.out.2; rw [HV.out.1] at this; exact this
      have HS : Hid (setl S = ((brk (outS S' v).L.length.succ (serv ((outS S' v).L.length + 1) (outS S' v)).1).1, A ++ (faiA v :: ((serv ((outS S' v).L.length + 1) (outS S' v)).2 ++ (brk (outS S' v).L.length.succ (serv ((outS S' v).L.length + 1) (outS S' v)).1).2)))) := by
        have h := HI.out.2.2.2.2.2
        have hb : brk (S'.L.length + 1) S' = ((brk S'.L.length (serv ((outS S' v).L.length + 1) (outS S' v)).1).1, faiA v :: ((serv ((outS S' v).L.length + 1) (outS S' v)).2 ++ (brk S'.L.length (serv ((outS S' v).L.length + 1) (outS S' v)).1).2)) := by
          conv => lhs; unfold brk
          rw [if_pos HV.out.2, HV.out.1]
        have hlen : (outS S' v).L.length.succ = S'.L.length := rm_len HHas.out
        rw [hlen]
        rw [hb] at h
        exact h
      have HL : Hid (A.length = l ∧ l + 90 * S'.L.length ≤ 450 ∧ n' + 100 * S'.L.length ≤ n + 500 ∧ S'.L.length ≤ 4 ∧ 1 ≤ S'.L.length) := ⟨HI.out.1, HI.out.2.2.1, HI.out.2.2.2.1, HI.out.2.1, by have := rm_len HHas.out; omega⟩
      have hl450 : l ≤ 450 := by have := HL.out.2.1; omega
      have HD5 : Hid (∀ w6, Below wr.heap.size wr w6 → Dr B V w w6 d g q S' n' a c A ∧ w6.cell? ⟨d, 1, none⟩ = some (qp q)) := fun w6 h => ⟨HI.out.2.2.2.2.1.more HD.out.2.1 h, (HI.out.2.2.2.2.1.more HD.out.2.1 h).dk.c1⟩
      have HQ : Hid (lenQ q wr = S'.L.length) := HI.out.2.2.2.2.1.dk.lenQ
      clear HI
      go_upto_region 5 with (first
        | (go_at_call 11; refine HC.out.mono ?_; rintro e w5 ⟨ae, ce, rfl, HC2⟩)
        | (go_at_call 38; refine HC2.out.mono ?_; rintro e w6 ⟨rfl, HB6⟩)
        | fail)
      have HD6 : Hid (Dr B V w w6 d g q S' n' a c A) := (HD5.out w6 HB6.out).1
      have hc1 := (HD5.out w6 HB6.out).2
      have HR : Hid (Calls Tryd.prog 39 #[qp q, .int .i64 v] w6 fun e w' => (∃ u, e = .returned (.bool u)) ∧ Hid (Dr B V w w' d g q (outS S' v) n' a c A)) := by
        refine (removeK HD6.out.dk (HD6.out.lt HD.out.2.1) v).mono ?_
        rintro e w' ⟨rfl, h⟩
        exact ⟨⟨_, rfl⟩, HD6.out.step h⟩
      clear HC HC2 HB6 HD5 HD6
      go_upto_region 7 with (first
        | (go_at_call 39; refine HR.out.mono ?_; rintro e w7 ⟨⟨u7, rfl⟩, HD7⟩)
        | (at_builtin; refine wpList_append_R saE _ rfl _ _ 24 rfl 34 _ 152 Tryd.underlying24 info34 rfl (L := A) (M := [faiA v]) (n := l) (m := 1) rfl rfl ((HD7.out.more HD.out.2.1 ((Below.refl _ _).alloc (Nat.le_refl _) _)).own) (RdR.built saE w7 34 #[.int .i64 v, .int .i64 8, .int .i64 0, .int .i64 0, .int .i64 0, .int .i64 151, .int .i64 0, .bool false, .slice none 0 0, .complex .f64 0 0, .complex .f64 0 0, .complex .f64 0 0, .complex .f64 0 0] [faiA v] rfl 1 rfl (by unfold maxLen; omega)) HL.out.1 rfl (by omega) (by unfold maxLen; omega) ?_; intro a2 c2 w8 ho8 hg8 hl8)
        | fail)
      have HD8 : Hid (Dr B V w w8 d g q (outS S' v) n' a2 c2 (A ++ [faiA v])) := HD7.out.app HD.out.2.1 ((Below.refl _ _).alloc (Nat.le_refl _) _) hg8 ho8 hl8
      have HL8 : Hid ((A ++ [faiA v]).length = l + 1) := by show _ = _; rw [List.length_append, HL.out.1]; rfl
      have HSv : Hid (Calls Tryd.prog 37 #[dp d] w8 fun e w' => ∃ a3 c3 l3, e = .returned (.slice a3 l3 c3) ∧ Hid (Dr B V w w' d g q (serv ((outS S' v).L.length + 1) (outS S' v)).1 (n' + 100) a2 c2 (A ++ [faiA v]) ∧ RdR saC w' a3 c3 (serv ((outS S' v).L.length + 1) (outS S' v)).2 ∧ (serv ((outS S' v).L.length + 1) (outS S' v)).2.length = l3 ∧ (serv ((outS S' v).L.length + 1) (outS S' v)).1.L.length ≤ (outS S' v).L.length) ∧ l3 ≤ 85) := by
        refine (serve_any HD8.out.dk (HD8.out.lt HD.out.2.1) (by have := HL.out; omega)).mono ?_
        rintro e w' ⟨a3, c3, rfl, h1, h2, h3⟩
        exact ⟨a3, c3, _, rfl, ⟨HD8.out.step h1.dx, h1.own.rd, rfl, h3⟩, h2⟩
      clear hc1 HR HD7 ho8 hg8 hl8
      go_wp2_with (first
        | (go_at_call 37; refine HSv.out.mono ?_; rintro e w9 ⟨a3, c3, l3, rfl, HD9, hl3⟩)
        | (at_builtin; refine wpList_append_R saE _ rfl _ _ 24 rfl 34 _ 152 Tryd.underlying24 info34 rfl (L := A ++ [faiA v]) (M := (serv ((outS S' v).L.length + 1) (outS S' v)).2) (n := l + 1) (m := l3) rfl rfl HD9.out.1.own HD9.out.2.1 HL8.out HD9.out.2.2.1 (by omega) (by unfold maxLen; omega) ?_; intro a4 c4 wA hoA hgA hlA)
        | fail)
      have HDA : Hid (Dr B V w wA d g q (serv ((outS S' v).L.length + 1) (outS S' v)).1 (n' + 100) a4 c4 ((A ++ [faiA v]) ++ (serv ((outS S' v).L.length + 1) (outS S' v)).2)) := HD9.out.1.app HD.out.2.1 (Below.refl _ _) hgA hoA hlA
      have HLA : Hid (((A ++ [faiA v]) ++ (serv ((outS S' v).L.length + 1) (outS S' v)).2).length = l + 1 + l3) := by show _ = _; rw [List.length_append, HL8.out, HD9.out.2.2.1]
      clear hoA hgA hlA HSv
      have HLe : Hid ((serv ((outS S' v).L.length + 1) (outS S' v)).1.L.length + 1 ≤ S'.L.length) := by
        have h1 := HD9.out.2.2.2
        have h2 : (outS S' v).L.length + 1 = S'.L.length := rm_len HHas.out
        show _ ≤ _
        omega
      go_roundw
      case rel =>
        refine ⟨a4, c4, l + 1 + l3, n' + 100, _, _, rfl, ⟨HLA.out, ?_, ?_, ?_, HDA.out, ?_⟩⟩
        · have := HLe.out; have := HL.out; omega
        · have := HLe.out; have := HL.out; omega
        · have := HLe.out; have := HL.out; omega
        · rw [HS.out]
          have hlen : (outS S' v).L.length.succ = S'.L.length := rm_len HHas.out
          have hfu := brk_fuel _ (serv ((outS S' v).L.length + 1) (outS S' v)).1 (outS S' v).L.length.succ (Nat.le_refl _) (by have := HLe.out; omega)
          rw [hfu]
          simp only [List.append_assoc, List.cons_append, List.nil_append]
      case measure =>
        have h1 := HDA.out.dk.lenQ
        have h2 := HLe.out
        have h3 := HQ.out
        show lenQ q wA < lenQ q wr
        omega

end Go.Proofs.YtllggjkhbecalaaDoor
