/- The document's queue: its calls as values; Right, Waits, find, Called, Out of it, walked. -/
import Derived.Test.YtcjajckmcikhcaaQ8
import Derived.Test.YtcjajckmcikhcaaLq
namespace Go.Proofs.Ytcjajckmcikhcaa
open Go.RowKit Go.Maps
set_option linter.unusedVariables false

/-- A call of the document's queue. -/
structure Ck where
  k : Wt
  u : Bool
def ckC (y : Ck) : List Value := [.int .i64 y.k.c, .int .i64 y.k.p, .int .i64 y.k.o, .bool y.k.wr, .bool y.u]
abbrev ckO (y : Ck) : Obj := .cells #[.int .i64 y.k.c, .int .i64 y.k.p, .int .i64 y.k.o, .bool y.k.wr, .bool y.u] 75
theorem ckE : Enc ckC 5 := ⟨fun _ => rfl, fun x u hu => by simp only [ckC, List.mem_cons, List.not_mem_nil, or_false] at hu; rcases hu with rfl | rfl | rfl | rfl | rfl <;> rfl, by decide⟩
theorem info75 : (Try.prog.info? 75).map (fun i => (i.zero, i.size, i.bytes)) = some (some (.agg #[.int .i64 0, .int .i64 0, .int .i64 0, .bool false, .bool false]), 5, 32) := by kernel_rfl
abbrev rqV (a1 : Option Addr) (n1 c1 : Nat) (a2 : Option Addr) (n2 c2 : Nat) : Value := .agg #[.slice a1 n1 c1, .slice a2 n2 c2]
abbrev rqO (a1 : Option Addr) (n1 c1 : Nat) (a2 : Option Addr) (n2 c2 : Nat) : Obj := .cells #[.slice a1 n1 c1, .slice a2 n2 c2] 38

theorem ckIn (x : Ck) (w : World) (g o : Nat) (h : ∀ j u, (ckC x)[j]? = some u → w.cell? ⟨g, o + j, none⟩ = some u) : w.cell? ⟨g, o, none⟩ = some (.int .i64 x.k.c) ∧ w.cell? ⟨g, o + 1, none⟩ = some (.int .i64 x.k.p) ∧ w.cell? ⟨g, o + 2, none⟩ = some (.int .i64 x.k.o) ∧ w.cell? ⟨g, o + 3, none⟩ = some (.bool x.k.wr) ∧ w.cell? ⟨g, o + 4, none⟩ = some (.bool x.u) :=
  ⟨h 0 _ rfl, h 1 _ rfl, h 2 _ rfl, h 3 _ rfl, h 4 _ rfl⟩

def rtB (x : Wt) : Bool := cliB x.c && objB x.p x.o
theorem rtB_eq (x : Wt) : rtB x = decide (((0 ≤ x.c ∧ x.c ≤ 3) ∧ 0 ≤ x.p ∧ x.p ≤ 5) ∧ 0 ≤ x.o ∧ x.o ≤ 3) := by
  unfold rtB cliB objB
  rw [Bool.eq_iff_iff]
  simp only [Bool.and_eq_true, decide_eq_true_eq]
  omega

set_option maxHeartbeats 1600000 in
theorem right_any (x : Wt) (w : World) : Calls Try.prog 37 #[wtV x] w fun e w' => e = .returned (.bool (rtB x)) ∧ Below w.heap.size w w' := by
  have HE : Hid (rtB x = decide (((0 ≤ x.c ∧ x.c ≤ 3) ∧ 0 ≤ x.p ∧ x.p ≤ 5) ∧ 0 ≤ x.o ∧ x.o ≤ 3)) := rtB_eq x
  obtain ⟨xc, xp, xo, xw⟩ := x
  simp only at HE
  by_cases z0 : 0 ≤ xc
  · by_cases z1 : xc ≤ 3
    · by_cases z2 : 0 ≤ xp
      · by_cases z3 : xp ≤ 5
        · by_cases z4 : 0 ≤ xo
          · by_cases z5 : xo ≤ 3
            · go_enter Try.func37, Try.ntmps37
              go_wp2
              go_ret
              exact ⟨ret_bool (by rw [HE.out]; simp; omega), by go_grown⟩
            · go_enter Try.func37, Try.ntmps37
              go_wp2
              go_ret
              exact ⟨ret_bool (by rw [HE.out]; simp; omega), by go_grown⟩
          · go_enter Try.func37, Try.ntmps37
            go_wp2
            go_ret
            exact ⟨ret_bool (by rw [HE.out]; simp; omega), by go_grown⟩
        · go_enter Try.func37, Try.ntmps37
          go_wp2
          go_ret
          exact ⟨ret_bool (by rw [HE.out]; simp; omega), by go_grown⟩
      · go_enter Try.func37, Try.ntmps37
        go_wp2
        go_ret
        exact ⟨ret_bool (by rw [HE.out]; simp; omega), by go_grown⟩
    · go_enter Try.func37, Try.ntmps37
      go_wp2
      go_ret
      exact ⟨ret_bool (by rw [HE.out]; simp; omega), by go_grown⟩
  · go_enter Try.func37, Try.ntmps37
    go_wp2
    go_ret
    exact ⟨ret_bool (by rw [HE.out]; simp; omega), by go_grown⟩

set_option maxHeartbeats 800000 in
theorem waits_any (a1 : Option Addr) (n1 c1 : Nat) (a2 : Option Addr) (n2 c2 : Nat) (L : List Wt) (c : Int) (w : World) (hL : RdR wtC w a1 c1 L) (hn : L.length = n1) (hl : n1 ≤ 1000000) :
    Calls Try.prog 38 #[rqV a1 n1 c1 a2 n2 c2, .int .i64 c] w fun e w' => e = .returned (.bool (hasB L c)) ∧ Below w.heap.size w w' := by
  have HL : Hid (RdR wtC w a1 c1 L ∧ L.length = n1) := ⟨hL, hn⟩
  clear hL hn
  go_enter Try.func38, Try.ntmps38
  go_wp2
  go_loopw [10] (fun i wr => ∃ k : Nat, k ≤ n1 ∧ i = .int .i64 k ∧ Below w.heap.size w wr ∧ Hid (∀ t (h : t < L.length), t < k → L[t].c ≠ c)) (fun i _ => n1 - (intOf i).toNat)
  case atStart => exact ⟨0, Nat.zero_le _, rfl, by go_grown, fun _ _ h => absurd h (by omega)⟩
  case round =>
    obtain ⟨k, hk, rfl, hbel, HI⟩ := hrel
    rename World => wr
    by_cases hlt : k < n1
    · have hkl : k < L.length := by have := HL.out.2; omega
      obtain ⟨bk, off, rfl, -, hcc⟩ := (HL.out.1.below hbel).at wtE hkl
      obtain ⟨z0, z1, z2, z3⟩ := wtIn _ _ _ _ hcc
      have HQ : Hid ((L[k].c = c → hasB L c = true) ∧ (L[k].c ≠ c → ∀ t (h : t < L.length), t < k + 1 → L[t].c ≠ c)) := by
        refine ⟨fun h => hasB_true.2 ⟨L[k], List.getElem_mem _, h⟩, fun h t ht hk => ?_⟩
        by_cases e : t = k
        · subst e; exact h
        · exact HI.out t ht (by omega)
      clear hcc HI
      generalize L[k] = x at *
      have e0' : decide ((k : Int) < n1) = true := by simp; omega
      by_cases hx : x.c = c
      · have e1 : (x.c == c) = true := by simpa using hx
        have HX : Hid (hasB L c = true) := HQ.out.1 hx
        clear hx
        go_wp2
        go_ret
        exact ⟨ret_bool HX.out.symm, hbel.alloc hbel.size _⟩
      · have e1 : (x.c == c) = false := by simpa using hx
        have HX : Hid (∀ t (h : t < L.length), t < k + 1 → L[t].c ≠ c) := HQ.out.2 hx
        clear hx
        go_wp2
        go_roundw
        case rel => exact ⟨k + 1, by omega, by go_num, hbel.alloc hbel.size _, HX⟩
        case measure => simp [intOf]; omega
    · obtain rfl : k = n1 := by omega
      have e0' : decide ((k : Int) < k) = false := by simp
      go_wp2
      go_ret
      refine ⟨ret_bool (Eq.symm (hasB_false.2 ?_)), hbel⟩
      intro y hy
      obtain ⟨t, ht, rfl⟩ := List.mem_iff_getElem.1 hy
      exact HI.out t ht (by have := HL.out.2; omega)

def keB (a b : Wt) : Bool := a.c == b.c && (a.p == b.p && (a.o == b.o && a.wr == b.wr))
theorem keB_true {a b : Wt} : keB a b = true ↔ a = b := by
  unfold keB
  simp only [Bool.and_eq_true, beq_iff_eq]
  exact wt_eq
def fdN (K : List Ck) (k : Wt) : Nat := K.findIdx (fun y => keB y.k k)
def fdZ (K : List Ck) (k : Wt) : Int := if fdN K k < K.length then (fdN K k : Int) else -1

set_option maxHeartbeats 1600000 in
theorem find_any (a1 : Option Addr) (n1 c1 : Nat) (a2 : Option Addr) (n2 c2 : Nat) (K : List Ck) (q : Wt) (w : World) (hK : RdR ckC w a2 c2 K) (hn : K.length = n2) (hl : n2 ≤ 1000000) :
    Calls Try.prog 39 #[rqV a1 n1 c1 a2 n2 c2, .int .i64 q.c, .int .i64 q.p, .int .i64 q.o, .bool q.wr] w fun e w' => e = .returned (.int .i64 (fdZ K q)) ∧ Below w.heap.size w w' := by
  have HL : Hid (RdR ckC w a2 c2 K ∧ K.length = n2) := ⟨hK, hn⟩
  clear hK hn
  go_enter Try.func39, Try.ntmps39
  go_wp2
  go_loopw [16] (fun i wr => ∃ k : Nat, k ≤ n2 ∧ i = .int .i64 k ∧ Below w.heap.size w wr ∧ Hid (∀ t (h : t < K.length), t < k → keB K[t].k q = false)) (fun i _ => n2 - (intOf i).toNat)
  case atStart => exact ⟨0, Nat.zero_le _, rfl, by go_grown, fun _ _ h => absurd h (by omega)⟩
  case round =>
    obtain ⟨k, hk, rfl, hbel, HI⟩ := hrel
    rename World => wr
    by_cases hlt : k < n2
    · have hkl : k < K.length := by have := HL.out.2; omega
      obtain ⟨bk, off, rfl, -, hcc⟩ := (HL.out.1.below hbel).at ckE hkl
      obtain ⟨z0, z1, z2, z3, z4⟩ := ckIn _ _ _ _ hcc
      have HQ : Hid ((keB K[k].k q = true → fdZ K q = k) ∧ (keB K[k].k q = false → ∀ t (h : t < K.length), t < k + 1 → keB K[t].k q = false)) := by
        refine ⟨fun h => ?_, fun h t ht hk => ?_⟩
        · have e : fdN K q = k := by
            unfold fdN
            rw [List.findIdx_eq hkl]
            exact ⟨h, fun j hj => HI.out j (by omega) hj⟩
          unfold fdZ
          rw [e, if_pos hkl]
        · by_cases e : t = k
          · subst e; exact h
          · exact HI.out t ht (by omega)
      clear hcc HI
      generalize K[k] = y at *
      obtain ⟨⟨yc, yp, yo, yw⟩, yu⟩ := y
      obtain ⟨qc, qp', qo, qw⟩ := q
      simp only at z0 z1 z2 z3 z4
      have e0' : decide ((k : Int) < n2) = true := by simp; omega
      have HE : Hid (keB ⟨yc, yp, yo, yw⟩ ⟨qc, qp', qo, qw⟩ = (yc == qc && (yp == qp' && (yo == qo && yw == qw)))) := rfl
      have HB : Hid (Below w.heap.size w (wr.alloc (ckO ⟨⟨yc, yp, yo, yw⟩, yu⟩))) := hbel.alloc hbel.size _
      have HR : Hid (keB ⟨yc, yp, yo, yw⟩ ⟨qc, qp', qo, qw⟩ = false → ∀ t (h : t < K.length), t < k + 1 → keB K[t].k ⟨qc, qp', qo, qw⟩ = false) := HQ.out.2
      cases h1 : (yc == qc)
      · go_wp2
        go_roundw
        case rel => exact ⟨k + 1, by omega, by go_num, HB.out, HR.out (by rw [HE.out, h1]; rfl)⟩
        case measure => simp [intOf]; omega
      cases h2 : (yp == qp')
      · go_wp2
        go_roundw
        case rel => exact ⟨k + 1, by omega, by go_num, HB.out, HR.out (by rw [HE.out, h1, h2]; rfl)⟩
        case measure => simp [intOf]; omega
      cases h3 : (yo == qo)
      · go_wp2
        go_roundw
        case rel => exact ⟨k + 1, by omega, by go_num, HB.out, HR.out (by rw [HE.out, h1, h2, h3]; rfl)⟩
        case measure => simp [intOf]; omega
      cases h4 : (yw == qw)
      · go_wp2
        go_roundw
        case rel => exact ⟨k + 1, by omega, by go_num, HB.out, HR.out (by rw [HE.out, h1, h2, h3, h4]; rfl)⟩
        case measure => simp [intOf]; omega
      · have HF : Hid (fdZ K ⟨qc, qp', qo, qw⟩ = k) := HQ.out.1 (by rw [HE.out, h1, h2, h3, h4]; rfl)
        go_wp2
        go_ret
        exact ⟨ret_int HF.out.symm, HB.out⟩
    · obtain rfl : k = n2 := by omega
      have e0' : decide ((k : Int) < k) = false := by simp
      go_wp2
      go_ret
      refine ⟨ret_int (Eq.symm ?_), hbel⟩
      unfold fdZ
      rw [if_neg]
      intro h
      have h1 := List.findIdx_getElem (w := h)
      have h2 := HI.out (fdN K q) h (by have := HL.out.2; omega)
      unfold fdN at h1 h2
      rw [h2] at h1
      cases h1

def routB (K : List Ck) (h p : Int) : Bool := K.any (fun y => y.k.c == h && (y.k.p == p && !y.u))

set_option maxHeartbeats 1600000 in
theorem rout_any (a1 : Option Addr) (n1 c1 : Nat) (a2 : Option Addr) (n2 c2 : Nat) (K : List Ck) (h p : Int) (w : World) (hK : RdR ckC w a2 c2 K) (hn : K.length = n2) (hl : n2 ≤ 1000000) :
    Calls Try.prog 27 #[rqV a1 n1 c1 a2 n2 c2, .int .i64 h, .int .i64 p] w fun e w' => e = .returned (.bool (routB K h p)) ∧ Below w.heap.size w w' := by
  have HL : Hid (RdR ckC w a2 c2 K ∧ K.length = n2) := ⟨hK, hn⟩
  clear hK hn
  go_enter Try.func27, Try.ntmps27
  go_wp2
  go_loopw [12] (fun i wr => ∃ k : Nat, k ≤ n2 ∧ i = .int .i64 k ∧ Below w.heap.size w wr ∧ Hid (∀ t (x : t < K.length), t < k → (K[t].k.c == h && (K[t].k.p == p && !K[t].u)) = false)) (fun i _ => n2 - (intOf i).toNat)
  case atStart => exact ⟨0, Nat.zero_le _, rfl, by go_grown, fun _ _ h => absurd h (by omega)⟩
  case round =>
    obtain ⟨k, hk, rfl, hbel, HI⟩ := hrel
    rename World => wr
    by_cases hlt : k < n2
    · have hkl : k < K.length := by have := HL.out.2; omega
      obtain ⟨bk, off, rfl, -, hcc⟩ := (HL.out.1.below hbel).at ckE hkl
      obtain ⟨z0, z1, z2, z3, z4⟩ := ckIn _ _ _ _ hcc
      have HQ : Hid (((K[k].k.c == h && (K[k].k.p == p && !K[k].u)) = true → routB K h p = true) ∧ ((K[k].k.c == h && (K[k].k.p == p && !K[k].u)) = false → ∀ t (x : t < K.length), t < k + 1 → (K[t].k.c == h && (K[t].k.p == p && !K[t].u)) = false)) := by
        refine ⟨fun e => List.any_eq_true.2 ⟨K[k], List.getElem_mem _, e⟩, fun e t ht hk => ?_⟩
        by_cases e' : t = k
        · subst e'; exact e
        · exact HI.out t ht (by omega)
      clear hcc HI
      generalize K[k] = y at *
      obtain ⟨⟨yc, yp, yo, yw⟩, yu⟩ := y
      simp only at z0 z1 z2 z3 z4 HQ
      have e0' : decide ((k : Int) < n2) = true := by simp; omega
      have HB : Hid (Below w.heap.size w (wr.alloc (ckO ⟨⟨yc, yp, yo, yw⟩, yu⟩))) := hbel.alloc hbel.size _
      cases h1 : (yc == h)
      · have HR := HQ.out.2 (by rw [h1]; rfl)
        have HR' : Hid (∀ t (x : t < K.length), t < k + 1 → (K[t].k.c == h && (K[t].k.p == p && !K[t].u)) = false) := HR
        clear HR
        go_wp2
        go_roundw
        case rel => exact ⟨k + 1, by omega, by go_num, HB.out, HR'⟩
        case measure => simp [intOf]; omega
      cases h2 : (yp == p)
      · have HR := HQ.out.2 (by rw [h1, h2]; rfl)
        have HR' : Hid (∀ t (x : t < K.length), t < k + 1 → (K[t].k.c == h && (K[t].k.p == p && !K[t].u)) = false) := HR
        clear HR
        go_wp2
        go_roundw
        case rel => exact ⟨k + 1, by omega, by go_num, HB.out, HR'⟩
        case measure => simp [intOf]; omega
      cases yu
      · have HF : Hid (routB K h p = true) := HQ.out.1 (by rw [h1, h2]; rfl)
        go_wp2
        go_ret
        exact ⟨ret_bool HF.out.symm, HB.out⟩
      · have HR := HQ.out.2 (by rw [h1, h2]; rfl)
        have HR' : Hid (∀ t (x : t < K.length), t < k + 1 → (K[t].k.c == h && (K[t].k.p == p && !K[t].u)) = false) := HR
        clear HR
        go_wp2
        go_roundw
        case rel => exact ⟨k + 1, by omega, by go_num, HB.out, HR'⟩
        case measure => simp [intOf]; omega
    · obtain rfl : k = n2 := by omega
      have e0' : decide ((k : Int) < k) = false := by simp
      go_wp2
      go_ret
      refine ⟨ret_bool (Eq.symm (List.any_eq_false.2 ?_)), hbel⟩
      intro y hy
      obtain ⟨t, ht, rfl⟩ := List.mem_iff_getElem.1 hy
      rw [HI.out t ht (by have := HL.out.2; omega)]
      simp

end Go.Proofs.Ytcjajckmcikhcaa
