/- What the other functions of the document do, walked. -/
import Derived.Test.YteofipheoipeoaaDoorV2
import Derived.WalkKit
import Derived.Below
import Derived.Deep.QuietTactic
import Derived.BigQuiet
import Derived.Deep.RegionWith
import Derived.Deep.RegionHeld
import Derived.Deep.RegionHeldLaw
import Derived.RegionTactic
namespace Go.Proofs.YteofipheoipeoaaDoor
open Go.RowKit
set_option linter.unusedVariables false
theorem row_of : ∀ (M : Nat → Nat → Bool) (i : Nat), i < 4 → ∀ W : World, (Instr.index 45 (.agg (mA M)) (.int .i64 (i : Int))).run Tryd.prog W = .ok (.agg #[.bool (M i 0), .bool (M i 1), .bool (M i 2), .bool (M i 3)]) W
  | M, 0, _, W => by kernel_rfl
  | M, 1, _, W => by kernel_rfl
  | M, 2, _, W => by kernel_rfl
  | M, 3, _, W => by kernel_rfl
theorem at_of : ∀ (T : Nat → Bool) (i : Nat), i < 4 → ∀ W : World, (Instr.index 35 (.agg #[.bool (T 0), .bool (T 1), .bool (T 2), .bool (T 3)]) (.int .i64 (i : Int))).run Tryd.prog W = .ok (.bool (T i)) W
  | T, 0, _, W => by kernel_rfl
  | T, 1, _, W => by kernel_rfl
  | T, 2, _, W => by kernel_rfl
  | T, 3, _, W => by kernel_rfl

theorem cy_bad {E : List (Int × Int)} {c : Int} (h : clB c = false) : cyB E c = false := by simp [cyB, h]
theorem rcycle_any (w : World) (ao : Option Addr) (n cap : Nat) (E : List (Int × Int)) (hr : RdE w ao cap E) (hn : E.length = n) (c : Int) : Calls Tryd.prog 16 #[.slice ao n cap, .int .i64 c] w fun e w' => e = .returned (.bool (cyB E c)) ∧ Below w.heap.size w w' := by
  by_cases h0 : c < 0
  · rw [cy_bad (by simp [clB]; omega)]
    go_enter Tryd.func16, Tryd.ntmps16
    go_wp2
    go_ret
    exact ⟨rfl, Below.refl _ _⟩
  by_cases h3 : 3 < c
  · rw [cy_bad (by simp [clB]; omega)]
    go_enter Tryd.func16, Tryd.ntmps16
    go_wp2
    go_ret
    exact ⟨rfl, Below.refl _ _⟩
  obtain ⟨k, rfl⟩ : ∃ k : Nat, c = k := ⟨c.toNat, by omega⟩
  have hk : k < 4 := by omega
  rw [cy_nat hk]
  have i1 := row_of (rB E) k hk
  have i2 := at_of (rB E k) k hk
  have hw := way4 w ao n cap E hr hn
  go_enter Tryd.func16, Tryd.ntmps16
  go_wp2_with (go_at_call 25; refine hw.mono ?_; rintro e w2 ⟨rfl, hb2⟩)
  go_ret
  exact ⟨rfl, hb2⟩

/-- Who must give way among the first k. -/
def vup (E : List (Int × Int)) : Nat → Int × Bool
  | 0 => (0, false)
  | k + 1 => if rB E k k = true then ((k : Int), true) else vup E k
theorem vup_is (E : List (Int × Int)) : vup E 4 = (vcI E, vcB E) := by
  unfold vcI vcB
  cases h3 : rB E 3 3 <;> cases h2 : rB E 2 2 <;> cases h1 : rB E 1 1 <;> cases h0 : rB E 0 0 <;> simp [vup, h0, h1, h2, h3]
theorem vup_no {E : List (Int × Int)} {k : Nat} (h : rB E k k = false) : vup E (k + 1) = vup E k := by simp [vup, h]
theorem vup_yes {E : List (Int × Int)} {k : Nat} (h : rB E k k = true) : vup E (k + 1) = ((k : Int), true) := by simp [vup, h]

theorem rvictim_any (w : World) (ao : Option Addr) (n cap : Nat) (E : List (Int × Int)) (hr : RdE w ao cap E) (hn : E.length = n) : Calls Tryd.prog 13 #[.slice ao n cap] w fun e w' => e = .returned (.tuple #[.int .i64 (vcI E), .bool (vcB E)]) ∧ Below w.heap.size w w' := by
  go_enter Tryd.func13, Tryd.ntmps13
  go_wp2
  go_loopw [4, 5, 6] (fun a b i wr => ∃ (t : Nat) (z : Int) (v : Bool), i = .int .i64 t ∧ t ≤ 4 ∧ a = .int .i64 z ∧ b = .bool v ∧ Hid (vup E t = (z, v)) ∧ Below w.heap.size w wr) (fun _ _ i _ => 4 - (intOf i).toNat)
  case atStart => exact ⟨0, 0, false, rfl, by omega, rfl, rfl, rfl, Below.refl _ _⟩
  case round =>
    obtain ⟨t, z, v, rfl, ht, rfl, rfl, HV, hbel⟩ := hrel
    rename World => wr
    by_cases hlt : t < 4
    · have e4 : decide ((t : Int) < 4) = true := by simp; omega
      have hcy := rcycle_any wr ao n cap E (hr.below hbel) hn (t : Int)
      rw [cy_nat hlt] at hcy
      cases hb : rB E t t
      · rw [hb] at hcy
        have HB : Hid (rB E t t = false) := hb
        clear hb
        go_wp2_with (go_at_call 16; refine hcy.mono ?_; rintro e w2 ⟨rfl, hb2⟩)
        go_roundw
        case rel => exact ⟨t + 1, z, v, by go_num, by omega, rfl, rfl, by rw [vup_no HB.out]; exact HV.out, below_step hbel hb2⟩
        case measure => simp [intOf]; omega
      · rw [hb] at hcy
        have HB : Hid (rB E t t = true) := hb
        clear hb
        go_wp2_with (go_at_call 16; refine hcy.mono ?_; rintro e w2 ⟨rfl, hb2⟩)
        go_roundw
        case rel => exact ⟨t + 1, (t : Int), true, by go_num, by omega, rfl, rfl, vup_yes HB.out, below_step hbel hb2⟩
        case measure => simp [intOf]; omega
    · obtain rfl : t = 4 := by omega
      go_wp2
      go_returns
      have := HV.out
      rw [vup_is] at this
      obtain ⟨rfl, rfl⟩ := Prod.mk.inj this
      exact ⟨rfl, hbel⟩

theorem sameInts_true (a : Option Addr) (c n : Nat) (b : Option Addr) (d : Nat) (zs : List Int) (w : World) (ha : RdI w .i64 a c zs) (hb : RdI w .i64 b d zs) (hn : zs.length = n) (hm : n ≤ 9223372036854775807) :
    Calls Tryd.prog 14 #[.slice a n c, .slice b n d] w fun e w' => e = .returned (.bool true) ∧ Below w.heap.size w w' := by
  go_enter Tryd.func14, Tryd.ntmps14
  go_wp2
  go_loopw [13] (fun i wr => ∃ k j : Nat, k ≤ n ∧ i = .int .i64 k ∧ wr = w.drewN j) (fun i _ => n - (intOf i).toNat)
  case atStart => exact ⟨0, 0, Nat.zero_le _, rfl, rfl⟩
  case round =>
    obtain ⟨k, j, hk, rfl, rfl⟩ := hrel
    by_cases hlt : k < n
    · obtain ⟨b1, o1, rfl, _, hc1⟩ := ha.at (t := k) (by omega)
      obtain ⟨b2, o2, rfl, _, hc2⟩ := hb.at (t := k) (by omega)
      have hd1 := hc1 k (by omega)
      have hd2 := hc2 k (by omega)
      have hlt' : (k : Int) < (n : Int) := by omega
      go_wp2
      go_quiet (fail)
      go_wp2
      go_roundw
      case rel => exact ⟨k + 1, _, by omega, by go_num, rfl⟩
      case measure => simp [intOf]; omega
    · go_wp2
      go_ret
      exact ⟨rfl, ⟨rfl, rfl, rfl, Nat.le_refl _, fun _ _ => rfl⟩⟩

theorem same_true (a : Option Addr) (c n : Nat) (b : Option Addr) (d : Nat) (E : List (Int × Int)) (w : World) (ha : RdE w a c E) (hb : RdE w b d E) (hn : E.length = n) :
    Calls Tryd.prog 17 #[.slice a n c, .slice b n d] w fun e w' => e = .returned (.bool true) ∧ Below w.heap.size w w' := by
  have hle := ha.le
  have hmx := ha.mx
  simp only [maxLen] at hmx
  have hm : n ≤ 9223372036854775807 := by omega
  clear hle hmx
  go_enter Tryd.func17, Tryd.ntmps17
  go_wp2
  go_loopw [13] (fun i wr => ∃ k j : Nat, k ≤ n ∧ i = .int .i64 k ∧ wr = w.drewN j) (fun i _ => n - (intOf i).toNat)
  case atStart => exact ⟨0, 0, Nat.zero_le _, rfl, rfl⟩
  case round =>
    obtain ⟨k, j, hk, rfl, rfl⟩ := hrel
    by_cases hlt : k < n
    · obtain ⟨b1, o1, rfl, _, x1, x2⟩ := ha.at (t := k) (by omega)
      obtain ⟨b2, o2, rfl, _, y1, y2⟩ := hb.at (t := k) (by omega)
      generalize E[k] = e at *
      obtain ⟨ex, ey⟩ := e
      have hlt' : (k : Int) < (n : Int) := by omega
      go_wp2
      go_quiet (fail)
      go_wp2
      go_roundw
      case rel => exact ⟨k + 1, _, by omega, by go_num, rfl⟩
      case measure => simp [intOf]; omega
    · go_wp2
      go_ret
      exact ⟨rfl, ⟨rfl, rfl, rfl, Nat.le_refl _, fun _ _ => rfl⟩⟩

set_option maxHeartbeats 800000 in
theorem rwithout_any (w : World) (ao : Option Addr) (n cap : Nat) (E : List (Int × Int)) (hr : RdE w ao cap E) (hn : E.length = n) (hsz : n * 16 ≤ 140737488355328) (c : Int) : Calls Tryd.prog 19 #[.slice ao n cap, .int .i64 c] w fun e w' => ∃ ao2 n2 cap2, e = .returned (.slice ao2 n2 cap2) ∧ OwnE w' w.heap.size ao2 cap2 (wo E c) ∧ (wo E c).length = n2 ∧ Below w.heap.size w w' := by
  have hle := hr.le
  have hmx := hr.mx
  simp only [maxLen] at hmx
  go_enter Tryd.func19, Tryd.ntmps19
  go_wp2
  go_loopw [5, 11] (fun v i wq => ∃ (t : Nat) (ao : Option Addr) (m cap : Nat), t ≤ n ∧ i = .int .i64 t ∧ v = .slice ao m cap ∧ Hid (OwnE wq w.heap.size ao cap (wo (E.take t) c) ∧ (wo (E.take t) c).length = m) ∧ m ≤ t ∧ Below w.heap.size w wq) (fun _ i _ => n - (intOf i).toNat)
  case atStart => exact ⟨0, _, 0, 0, by omega, rfl, rfl, ⟨by simpa [wo] using OwnE.fresh w w.heap.size (Nat.le_refl _), rfl⟩, by omega, by go_grown⟩
  case round =>
    obtain ⟨t, ao, m, cap, ht, rfl, rfl, HI, hmt, hbel⟩ := hrel
    rename World => wq
    by_cases hlt : t < n
    · obtain ⟨b, off, rfl, hbl, c0, c1⟩ := (hr.below hbel).at (t := t) (by omega)
      have he : E[t]? = some E[t] := List.getElem?_eq_getElem (by omega)
      generalize E[t] = x at *
      obtain ⟨x, y⟩ := x
      have HE : Hid (E[t]? = some (x, y)) := he
      clear he
      cases hb : (x != c)
      · have HB : Hid ((x != c) = false) := hb
        go_wp2
        go_roundw
        case rel => exact ⟨t + 1, ao, m, cap, by omega, by go_num, rfl, by rw [wo_no HE.out HB.out]; exact ⟨HI.out.1.alloc _, HI.out.2⟩, by omega, hbel.alloc hbel.size _⟩
        case measure => simp [intOf]; omega
      · have HB : Hid ((x != c) = true) := hb
        go_wp2_with (at_builtin; refine wpList_append_rdE _ rfl _ _ rfl w.heap.size rfl rfl ((HI.out.1.alloc _).alloc _) (RdE.built2 _ _ #[.int .i64 x, .int .i64 y] [(x, y)] rfl (by simp [maxLen]) 1 rfl) HI.out.2 rfl (by omega) (by have := hbel.size; simp; omega) ?_; intro ao2 cap2 w3 ho3 hb3)
        go_roundw
        case rel => exact ⟨t + 1, ao2, m + 1, cap2, by omega, by go_num, rfl, by rw [wo_yes HE.out HB.out]; exact ⟨ho3, by simp [HI.out.2]⟩, by omega, hbel.trans ((((Below.refl _ _).alloc hbel.size _).alloc (by have := hbel.size; simp; omega) _).trans hb3)⟩
        case measure => simp [intOf]; omega
    · obtain rfl : t = n := by omega
      go_wp2
      go_ret
      refine ⟨ao, m, cap, rfl, ?_, ?_, hbel⟩
      · have := HI.out.1
        rwa [List.take_of_length_le (by omega)] at this
      · have := HI.out.2
        rwa [List.take_of_length_le (by omega)] at this
/-- All blocks but those of cells of one type are as they were. -/
def KTy (e : TypeId) (w w' : World) : Prop := ∀ (k : Nat) (cs : Array Value) (ty : TypeId) (fr : Nat × Nat), w.heap[k]? = some (.cells cs ty fr) → ty ≠ e → w'.heap[k]? = w.heap[k]?
theorem _root_.Go.Proofs.YteofipheoipeoaaDoor.OwnS.kty {w w' : World} {base : Nat} {e : TypeId} {ao : Option Addr} {cap : Nat} {xs : List Value} (h : OwnS w base e ao cap xs) (hg : w.grownBy w' (Value.ownBlock (.slice ao xs.length cap))) : KTy e w w' := by
  intro k cs ty fr hk hne
  refine hg.block k (Array.getElem?_eq_some_iff.1 hk).1 ?_
  intro e1
  rcases h.2 with ⟨hv, _⟩ | ⟨g, cp, cur, hv, _, hh, _⟩
  · rw [hv] at e1; simp [Value.ownBlock] at e1
  · rw [hv] at e1
    simp [Value.ownBlock] at e1
    subst e1
    rw [hk] at hh
    simp only [Option.some.injEq, Obj.cells.injEq] at hh
    exact hne hh.2.1

/-- What an append of a slice to a slice of the call's own leaves. -/
theorem run_append_rdT {P : Program} {w : World} (base : Nat) (t ty e : TypeId) (z : Value) (bytes : Nat) (ht : P.underlying t = some (.slice e))
    (hinfo : (P.info? e).map (fun i => (i.zero, i.size, i.bytes)) = some (some z, 1, bytes)) (hzs : z.cells.size = 1)
    {ao : Option Addr} {cap : Nat} {xs : List Value} (hown : OwnS w base e ao cap xs) {ao' : Option Addr} {cap' : Nat} {ys : List Value} (hrd : RdS w ao' cap' ys)
    (h1 : ∀ u ∈ ys, u.oneCell' = true) (hbytes : (xs.length + ys.length) * bytes ≤ 140737488355328) (h63 : xs.length + ys.length ≤ maxLen) (hbase : base ≤ w.heap.size) :
    ∃ ao2 cap2 w', (Builtin.append_ #[t, t] ty #[.slice ao xs.length cap, .slice ao' ys.length cap']).run P w = .ok (.slice ao2 (xs.length + ys.length) cap2) w' ∧
      OwnS w' base e ao2 cap2 (xs ++ ys) ∧ Below base w w' ∧ KTy e w w' := by
  obtain ⟨i0, hi, hz0, hz1, hz2⟩ := info_parts hinfo
  have fin : ∀ v' w', w'.ownsRow base e 1 v' (xs.length + ys.length) (xs ++ ys) → ∃ ao2 cap2, v' = .slice ao2 (xs.length + ys.length) cap2 ∧ OwnS w' base e ao2 cap2 (xs ++ ys) := by
    intro v' w' h
    obtain ⟨h1, h2⟩ := h
    have hlen : (xs ++ ys).length = xs.length + ys.length := by simp
    rcases h2 with ⟨hv, hn⟩ | ⟨g, cp, cur, hv, r⟩
    · exact ⟨none, 0, by rw [hv, hn], by unfold OwnS World.ownsRow; rw [hlen]; exact ⟨by simp, .inl ⟨by rw [hn], hn⟩⟩⟩
    · exact ⟨some ⟨g, 0, none⟩, cp, hv, by unfold OwnS World.ownsRow; rw [hlen]; exact ⟨by simp, .inr ⟨g, cp, cur, rfl, r⟩⟩⟩
  by_cases hy : ys = []
  · subst hy
    cases ao' with
    | none =>
      have hc := hrd.nil rfl
      subst hc
      have hrun := run_append_owned_none (P := P) (w := w) base t ty e i0 1 ht hi _ xs.length xs hown
      refine ⟨ao, cap, w, by simpa using hrun, by simpa using hown, Below.refl _ _, fun _ _ _ _ _ _ => rfl⟩
    | some ad =>
      obtain ⟨v', w', hr, h2, h3, _⟩ := run_append_own (P := P) w base t ty e i0 z 1 bytes ht hi hz0 hz1 hz2 hzs (by decide) _ _ _ hown ad 0 cap' [] (by simp) (by intro j u h; simp at h) (by simp) h63 hbytes hbase
      obtain ⟨ao2, cap2, rfl, ho⟩ := fin v' w' h2
      exact ⟨ao2, cap2, w', hr, ho, hown.grown (Nat.le_refl _) hbase h3, hown.kty h3⟩
  · obtain ⟨b, off, rfl, _, hc⟩ := hrd.cell hy
    obtain ⟨v', w', hr, h2, h3, _⟩ := run_append_own (P := P) w base t ty e i0 z 1 bytes ht hi hz0 hz1 hz2 hzs (by decide) _ _ _ hown ⟨b, off, none⟩ ys.length cap' ys (by simp) (by
      intro j u h
      obtain ⟨hj, rfl⟩ := List.getElem?_eq_some_iff.1 h
      rw [Addr.add_lit]
      exact hc j hj) h1 h63 hbytes hbase
    obtain ⟨ao2, cap2, rfl, ho⟩ := fin v' w' h2
    exact ⟨ao2, cap2, w', hr, ho, hown.grown (Nat.le_refl _) hbase h3, hown.kty h3⟩

theorem wpList_append_rdT {P : Program} (w : World) {ops : Array Oper} {rest : List Oper} {o : Oper} {a : Act} {Q : Exit → Act → World → Prop} (hgd : o.guard = none) (s x : Operand) (t : TypeId)
    (ho : o.op = .call { callee := .builtin .append, args := #[s, x], argTypes := #[t, t] })
    (base : Nat) (e : TypeId) (z : Value) (bytes : Nat) (ht : P.underlying t = some (.slice e))
    (hinfo : (P.info? e).map (fun i => (i.zero, i.size, i.bytes)) = some (some z, 1, bytes)) (hzs : z.cells.size = 1)
    {ao : Option Addr} {cap n : Nat} {xs : List Value} {ao' : Option Addr} {cap' m : Nat} {ys : List Value}
    (hs : a.eval s = .slice ao n cap) (hx : a.eval x = .slice ao' m cap') (hown : OwnS w base e ao cap xs) (hrd : RdS w ao' cap' ys) (hn : xs.length = n) (hm : ys.length = m)
    (h1 : ∀ u ∈ ys, u.oneCell' = true) (hbytes : (n + m) * bytes ≤ 140737488355328) (h63 : n + m ≤ maxLen) (hbase : base ≤ w.heap.size)
    (h : ∀ ao2 cap2 w', OwnS w' base e ao2 cap2 (xs ++ ys) → Below base w w' → KTy e w w' → wpList P ops Q rest (a.put o.dst (.slice ao2 (n + m) cap2)) w') : wpList P ops Q (o :: rest) a w := by
  subst hn hm
  refine wpList_plain hgd fun _ hK => ?_
  obtain ⟨ao2, cap2, w', hr, h2, h3, h4⟩ := run_append_rdT (P := P) base t o.type e z bytes ht hinfo hzs hown hrd h1 hbytes h63 hbase
  unfold Oper.wp execOp
  simp only [ho, resolve, invoke, builtin, Sem.run_bind, Sem.run_pure, Result.andThen_ok, List.map_toArray, List.map_cons, List.map_nil, hs, hx, hr]
  exact hK _ _ (h ao2 cap2 w' h2 h3 h4)

set_option maxRecDepth 100000 in
set_option maxHeartbeats 1600000 in
theorem rreach_any (w : World) (ao : Option Addr) (n cap : Nat) (E : List (Int × Int)) (hr : RdE w ao cap E) (hn : E.length = n) (c : Int) : Calls Tryd.prog 15 #[.slice ao n cap, .int .i64 c] w fun e w' => ∃ ao2 n2 cap2, e = .returned (.slice ao2 n2 cap2) ∧ OwnI w' w.heap.size 3 .i64 ao2 cap2 (rlI E c) ∧ (rlI E c).length = n2 ∧ Below w.heap.size w w' := by
  have hz := zero45
  have hO1 : OwnI (w.alloc (.cells #[] 3)) w.heap.size 3 .i64 (some ⟨w.heap.size, 0, none⟩) 0 [] := OwnI.fresh w _ _ _ (Nat.le_refl _)
  have hb1 : Below w.heap.size w (w.alloc (.cells #[] 3)) := by go_grown
  have hw := way4 (w.alloc (.cells #[] 3)) ao n cap E (hr.below hb1) hn
  go_enter Tryd.func15, Tryd.ntmps15
  go_upto_region 2 with fail
  refine wp_region_lit ?_
  refine wpList_plain rfl fun K1 hK1 => ?_
  go_step
  refine hK1 _ _ ?_
  clear hK1 K1
  refine wpList_callP rfl 25 #[.slice ao n cap, .int .i64 4] (by simp [go_sem]) hw ?_
  rintro e w3 ⟨rfl, hb3⟩
  refine ⟨_, rfl, ?_⟩
  have hO3 := hO1.below hb3
  have hB3 := below_step hb1 hb3
  clear hw hO1 hb1 hb3
  refine wpList_plain rfl fun K1 hK1 => ?_
  go_step
  refine hK1 _ _ ?_
  clear hK1 K1
  refine wpList_store45 rfl _ _ rfl w3.heap.size (rB E) (fun _ _ => false) rfl rfl (Rm.new w3 _) ?_
  intro w5 hM5 ho5
  refine wpList_nil ?_
  have hb35 : Below w3.heap.size w3 w5 := ((Below.refl _ _).alloc (Nat.le_refl _) (.cells (mA fun _ _ => false) 45)).trans (ho5.below (Nat.le_refl _) (by simp))
  have hO5 := hO3.below hb35
  have hB5 := below_step hB3 hb35
  have hs3 := hB3.size
  clear hO3 hB3 hb35 ho5 hz
  generalize w3.heap.size = q at *
  go_wp2
  go_loopw [5, 7] (fun v i wq => ∃ (t : Nat) (ao : Option Addr) (m cap : Nat), i = .int .i64 t ∧ t ≤ 4 ∧ v = .slice ao m cap ∧ Rm wq q (rB E) ∧ Hid (OwnI wq w.heap.size 3 .i64 ao cap (if clB c then rl E c.toNat t else []) ∧ (if clB c then rl E c.toNat t else []).length = m) ∧ Below w.heap.size w wq) (fun _ i _ => 4 - (intOf i).toNat)
  case atStart => exact ⟨0, _, 0, 0, rfl, by omega, rfl, hM5, ⟨by simpa [rl] using hO5, by simp [rl]⟩, hB5⟩
  case round =>
    obtain ⟨t, ao, m, cap, rfl, ht, rfl, hM, HI, hbel⟩ := hrel
    rename World => wq
    by_cases hlt : t < 4
    · have e4 : decide ((t : Int) < 4) = true := by simp; omega
      by_cases h0 : c < 0
      · have HC : Hid (clB c = false) := by have : clB c = false := (by simp [clB]; omega); exact this
        go_wp2
        go_roundw
        case rel => exact ⟨t + 1, ao, m, cap, by go_num, by omega, rfl, hM, by have := HI.out; simp only [HC.out, Bool.false_eq_true, if_false] at this ⊢; exact this, hbel⟩
        case measure => simp [intOf]; omega
      by_cases h3 : 3 < c
      · have HC : Hid (clB c = false) := by have : clB c = false := (by simp [clB]; omega); exact this
        go_wp2
        go_roundw
        case rel => exact ⟨t + 1, ao, m, cap, by go_num, by omega, rfl, hM, by have := HI.out; simp only [HC.out, Bool.false_eq_true, if_false] at this ⊢; exact this, hbel⟩
        case measure => simp [intOf]; omega
      obtain ⟨k, rfl⟩ : ∃ k : Nat, c = k := ⟨c.toNat, by omega⟩
      have hk : k < 4 := by omega
      have hI : OwnI wq w.heap.size 3 .i64 ao cap (rl E k t) ∧ (rl E k t).length = m := by
        have := HI.out
        simpa only [cl_nat hk, if_true, Int.toNat_natCast] using this
      have HI2 : Hid (OwnI wq w.heap.size 3 .i64 ao cap (rl E k t) ∧ (rl E k t).length = m) := hI
      have hn4 := rl_len E k t
      rw [hI.2] at hn4
      clear HI hI
      have k0 := hM.cell hk hlt
      cases hb : rB E k t
      · rw [hb] at k0
        have HB : Hid (rB E k t = false) := hb
        clear hb
        go_wp2
        go_roundw
        case rel => exact ⟨t + 1, ao, m, cap, by go_num, by omega, rfl, hM, by simp only [cl_nat hk, if_true, Int.toNat_natCast]; rw [rl_no HB.out]; exact HI2.out, hbel⟩
        case measure => simp [intOf]; omega
      · rw [hb] at k0
        have HB : Hid (rB E k t = true) := hb
        clear hb
        have hMa : Rm (wq.alloc (.cells #[.int .i64 (t : Int)] 3)) q (rB E) := hM.below (by go_grown)
        go_wp2_with (at_builtin; refine wpList_append_rdT (xs := (rl E k t).map (Value.int .i64)) (ys := [(t : Int)].map (Value.int .i64)) _ rfl _ _ 25 rfl w.heap.size 3 (.int .i64 0) 8 Tryd.underlying25 info3 rfl rfl rfl (HI2.out.1.alloc _) (RdI.built _ 3 .i64 #[.int .i64 (t : Int)] 1 [(t : Int)] rfl rfl (by simp [maxLen])) (by rw [List.length_map]; exact HI2.out.2) rfl (ints_one _ _) (by omega) (by unfold maxLen; omega) (by have := hbel.size; simp; omega) ?_; intro ao2 cap2 w3 ho3 hb3 hk3)
        go_roundw
        case rel =>
          refine ⟨t + 1, ao2, m + 1, cap2, by go_num, by omega, rfl, ⟨(hk3 _ _ _ _ hMa.blk (by decide)).trans hMa.blk⟩, ?_, hbel.trans (((Below.refl _ _).alloc hbel.size _).trans hb3)⟩
          simp only [cl_nat hk, if_true, Int.toNat_natCast]
          rw [rl_yes HB.out]
          exact ⟨by unfold OwnI; rw [List.map_append]; exact ho3, by simp [HI2.out.2]⟩
        case measure => simp [intOf]; omega
    · obtain rfl : t = 4 := by omega
      go_wp2
      go_ret
      exact ⟨ao, m, cap, rfl, HI.out.1, HI.out.2, hbel⟩
end Go.Proofs.YteofipheoipeoaaDoor
