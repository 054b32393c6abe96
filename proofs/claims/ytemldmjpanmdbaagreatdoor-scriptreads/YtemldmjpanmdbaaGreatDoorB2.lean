/- The reckoner: its operations, maps and calls of the library. No walk. -/
import Derived.Test.YtemldmjpanmdbaaGreatDoorB1
import Derived.Laws.Append
set_option linter.unusedVariables false
namespace Go.Proofs.YtemldmjpanmdbaaGreatDoor.Ev
open Go.RowKit
section
variable {E : Env} {ρ ρ' : Ren} {B : Nat} {w w' : World} {S S' : St} {V : Hp}
/-! ### append, copy, clear -/
theorem lenV_spec {P : Program} {x c : Value} {n : Nat} (h : lenV x = some n) (hv : VR P ρ x c) : (Builtin.lenOf c).run P w = .ok n w := by
  match x, h with
  | .string s, h => cases h; simp only [VR] at hv; subst hv; rfl
  | .slice none m cap, h => cases h; simp only [VR] at hv; subst hv; rfl
  | .slice (some ⟨r, off, none⟩) m cap, h => cases h; simp only [VR] at hv; obtain ⟨p, _, rfl⟩ := hv; rfl
  | .slice (some ⟨r, off, some 0⟩) m cap, h => cases h; simp only [VR] at hv; obtain ⟨_, p, c', _, _, _, rfl⟩ := hv; rfl
  | .slice (some ⟨r, off, some (k + 1)⟩) m cap, h => cases h; simp only [VR] at hv; obtain ⟨rfl, _, a, c', rfl⟩ := hv; rfl
theorem run_cells {a : Addr} {P : Program} (ha : a.spot = none) (l : List Value) (h : ∀ (j : Nat) v, l[j]? = some v → w.cell? ⟨a.block, a.off + j, none⟩ = some v) : (loadCells a l.length).run P w = .ok l.toArray w := by
  refine run_loadCells_list (P := P) (w := w) a l fun j v hj => ?_
  have := h j v hj
  obtain ⟨b, o, s⟩ := a
  simp only at ha; subst ha
  unfold Addr.add
  split
  · rename_i h0; subst h0; simpa using this
  · simpa using this
theorem firstC_spec {P : Program} {size n m : Nat} {x c : Value} {l : List Value} (h : G P B ρ (ov (rdO S) V) w) (hl : firstC S size n x = some l) (hm : lenV x = some m) (hn : n ≤ m) (hv : VR P ρ x c) :
    ∃ l', (Builtin.firstCells size n c).run P w = .ok l'.toArray w ∧ VRL P ρ l l' := by
  match x, hl with
  | .string s, hl =>
    cases hl
    simp only [VR] at hv
    subst hv
    refine ⟨((s.extract 0 n).data.toList.map fun b => Value.int .u8 b.toNat), ?_, ?_⟩
    · simp only [Builtin.firstCells, Sem.run_pure]
      congr 1
      apply Array.ext'
      simp
    · have : ∀ (l : List UInt8), VRL P ρ (l.map fun b => Value.int .u8 b.toNat) (l.map fun b => Value.int .u8 b.toNat) := by
        intro l
        induction l with
        | nil => rfl
        | cons b l ih => exact ⟨_, _, rfl, by simp [VR], ih⟩
      exact this _
  | .slice none k cap, hl => cases hl; simp only [VR] at hv; subst hv; exact ⟨[], rfl, rfl⟩
  | .slice (some ⟨r, off, sp⟩) k cap, hl =>
    have hl : rdCs S r off (n * size) = some l := hl
    obtain ⟨p, l', hp, h1, h2, h3, h4⟩ := rdCs_spec h hl
    cases hm
    have hrun := run_cells (P := P) (w := w) (a := ⟨p.b, p.s + off, none⟩) rfl l' h4
    rw [h2] at hrun
    match sp, hv with
    | none, hv => simp only [VR] at hv; obtain ⟨p', hp', rfl⟩ := hv; rw [hp] at hp'; cases hp'; exact ⟨l', hrun, h1⟩
    | some 0, hv => simp only [VR] at hv; obtain ⟨_, p', c', hp', _, _, rfl⟩ := hv; rw [hp] at hp'; cases hp'; exact ⟨l', hrun, h1⟩
    | some (k + 1), hv =>
      simp only [VR] at hv
      obtain ⟨rfl, _, a, c', rfl⟩ := hv
      have hn0 : n = 0 := by omega
      subst hn0
      have : l' = [] := by cases l' with | nil => rfl | cons => simp at h2
      subst this
      exact ⟨[], by simp [Builtin.firstCells, loadCells, loadCellsFrom], h1⟩
theorem grow_spec : ∀ (n : Nat) (row : Row), (grow row n).t = row.t ∧ (grow row n).len = row.len ∧ (grow row n).d = row.d + n ∧ ∀ k, k < 2 ^ row.d → Tr.get (grow row n).d (grow row n).c k = Tr.get row.d row.c k
  | 0, row => ⟨rfl, rfl, rfl, fun _ _ => rfl⟩
  | n + 1, row => by
    obtain ⟨a, b, c, d⟩ := grow_spec n { row with d := Nat.add row.d 1, c := Tr.up row.c }
    refine ⟨a, b, by show (grow _ n).d = _; rw [c]; show row.d + 1 + n = _; omega, fun k hk => ?_⟩
    show Tr.get (grow _ n).d (grow _ n).c k = _
    rw [d k (by show k < 2 ^ (row.d + 1); rw [Nat.pow_succ]; omega)]
    exact Tr.get_up row.d k row.c hk
theorem appRow_spec {row row' : Row} {off m : Nat} {new : List Value} (h : appRow row off m new = some row') (hl : off + m ≤ row.len) (hd : row.len ≤ 2 ^ row.d) :
    (∀ v ∈ new, oneCell v = true) ∧ row'.t = row.t ∧ row'.len = m + new.length ∧ row'.len ≤ 2 ^ row'.d ∧
      ∀ k v, k < row'.len → Tr.get row'.d row'.c k = some v → (k < m ∧ Tr.get row.d row.c (off + k) = some v) ∨ (m ≤ k ∧ new[k - m]? = some v) := by
  unfold appRow at h
  cases h0 : Nat.beq off 0 <;> rw [h0] at h
  · obtain ⟨old, h1, h2⟩ := ob_some.1 (show ob _ _ = some row' from h)
    obtain ⟨a, b⟩ := cellsFrom_spec row m off old h1
    obtain ⟨c, d, e, f, g⟩ := rowOf_spec h2
    refine ⟨fun v hv => f v (by simp [hv]), c, by rw [d]; simp [a], e, fun k v hk hv => ?_⟩
    rw [g k hk] at hv
    by_cases hkm : k < m
    · rw [List.getElem?_append_left (by omega)] at hv
      exact .inl ⟨hkm, b k v hv⟩
    · rw [List.getElem?_append_right (by omega), a] at hv
      exact .inr ⟨by omega, hv⟩
  · have h0 : off = 0 := Nat.eq_of_beq_eq_true h0
    subst h0
    have h : appendRow row m new = some row' := h
    unfold appendRow at h
    obtain ⟨h1, h2⟩ := iff_some.1 h
    obtain ⟨c, h3, h4⟩ := ob_some.1 h2
    cases h4
    obtain ⟨g1, g2, g3, g4⟩ := grow_spec (Nat.sub (depth (Nat.add m new.length)) row.d) row
    have h1 : m + new.length ≤ 2 ^ (grow row (Nat.sub (depth (Nat.add m new.length)) row.d)).d := ble_iff.1 h1
    obtain ⟨k1, k2⟩ := setCells_spec _ _ _ _ h3 h1
    refine ⟨k1, g1, rfl, h1, fun k v hk hv => ?_⟩
    have hk : k < m + new.length := hk
    have hv : Tr.get _ c k = some v := hv
    rw [k2 k (by omega)] at hv
    by_cases hkm : k < m
    · rw [if_neg (by omega), g4 k (by omega)] at hv
      exact .inl ⟨hkm, by simpa using hv⟩
    · rw [if_pos (by omega)] at hv
      exact .inr ⟨by omega, hv⟩
theorem newO_dead {o : AO} {q : Nat × St} {b : Bool} {r : Nat} (hr : r < 4096) (h : newO (cond b (putO S r dead) S) o = some q) :
    S.nx < 4096 ∧ q.1 = S.nx ∧ q.2.nx = S.nx + 1 ∧ rdO q.2 = upd (cond b (upd (rdO S) r dead) (rdO S)) S.nx o := by
  cases b
  · exact newO_spec (S := S) h
  · obtain ⟨a, b, c, d⟩ := newO_spec (S := putO S r dead) h
    exact ⟨a, b, c, by rw [d]; show upd (rdO (putO S r dead)) S.nx o = _; rw [rdO_putO _ hr]; rfl⟩
theorem notInt (xd : TypeDesc) : (xd matches .int _) = isInt xd := by cases xd <;> rfl
/-- How the builtin goes, where there is no room. -/
theorem append_new_run {P : Program} {ts : Array TypeId} {ty t xt elem : TypeId} {xd : TypeDesc} {i : TypeInfo} {z : Value} {base : Option Addr} {sLen cap n : Nat} {x : Value} {old new : List Value}
    (h0 : ts[0]? = some t) (h1 : ts[1]? = some xt) (ht : P.underlying t = some (.slice elem)) (hxt : P.underlying xt = some xd) (hni : isInt xd = false) (hi : P.info? elem = some i) (hz : i.zero = some z)
    (hlen : ∀ w, (Builtin.lenOf x).run P w = .ok n w) (hold : (Builtin.firstCells i.size sLen (.slice base sLen cap)).run P w.drew = .ok old.toArray w.drew) (hnew : (Builtin.firstCells i.size n x).run P w.drew = .ok new.toArray w.drew)
    (hneed : cap < sLen + n) (hb : (sLen + n) * i.bytes ≤ 140737488355328) (h63 : sLen + n ≤ 9223372036854775806) :
    ∃ newCap, sLen + n ≤ newCap ∧ (Builtin.append_ ts ty #[.slice base sLen cap, x]).run P w =
      .ok (.slice (some ⟨w.heap.size, 0, none⟩) (sLen + n) newCap) (w.drew.alloc (.cells ((old ++ new).toArray ++ Builtin.zeroCells z.cells (newCap - (sLen + n))) elem)) := by
  refine ⟨sLen + n + (w.tape w.drawn (.appendCap (sLen + n) cap elem)) % (2 ^ 63 - (sLen + n)), by omega, ?_⟩
  have g1 : ¬ sLen + n ≤ cap := by omega
  have g2 : ¬ ((9223372036854775807 : Int) < ((sLen : Int) + n)) := by omega
  have g3 : ¬ (281474976710656 < Builtin.nextslicecap (sLen + n) cap * i.bytes) := by have := growslice_fits hneed hb; omega
  have hni' : ∀ k, xd ≠ .int k := fun k e => by rw [e] at hni; cases hni
  have hmi := notInt xd
  rw [hni] at hmi
  simp [Builtin.append_, h0, h1, run_underlying ht, run_underlying hxt, run_sizeOf hi, hlen, g1, typeInfo, hi, g2, g3, Question.forced, Question.cut, zeroValue, hz, Go.newRow]
  rw [hold]
  simp only [Result.andThen]
  rw [hnew]
  have h9 : (old ++ new).toArray = old.toArray ++ new.toArray := by simp
  simp only [h9, Array.append_assoc]
  rfl
/-- .. and where there is. -/
theorem append_room_run {P : Program} {ts : Array TypeId} {ty t xt elem : TypeId} {xd : TypeDesc} {i : TypeInfo} {base : Option Addr} {sLen cap n : Nat} {x : Value} {new : List Value}
    (h0 : ts[0]? = some t) (h1 : ts[1]? = some xt) (ht : P.underlying t = some (.slice elem)) (hxt : P.underlying xt = some xd) (hni : isInt xd = false) (hi : P.info? elem = some i)
    (hlen : ∀ w, (Builtin.lenOf x).run P w = .ok n w) (hnew : (Builtin.firstCells i.size n x).run P w = .ok new.toArray w) (hneed : sLen + n ≤ cap) :
    (Builtin.append_ ts ty #[.slice base sLen cap, x]).run P w =
      match base with
      | none => .ok (.slice none (sLen + n) cap) w
      | some a => ((storeCells (a.add (sLen * i.size)) new).run P w).andThen fun _ w' => .ok (.slice (some a) (sLen + n) cap) w' := by
  have hmi := notInt xd
  rw [hni] at hmi
  have hni' : ∀ k, xd = .int k → False := fun k e => by rw [e] at hni; cases hni
  cases base <;> simp [Builtin.append_, h0, h1, run_underlying ht, run_underlying hxt, run_sizeOf hi, hlen, hneed, hnew]
theorem storeCells_nil {P : Program} (a : Addr) : (storeCells a []).run P w = .ok () w := rfl
/-- The new row of an append, where nobody else has its block. -/
theorem app_put {P : Program} {p : Pl} {row row' : Row} {off m r : Nat} {new new' : List Value} {q : Nat × St} {dd : Bool} {cc : Array Value} {n : Nat} {b : Nat} {s : Nat} (h : GS P B ρ S V w) (hrow : rdR S r = some row) (hp : ρ r = some p)
    (hq : newO (cond dd (putO S r dead) S) (.inl row') = some q) (hf : ρ S.nx = none)
    (ha : (∀ v ∈ new, oneCell v = true) ∧ row'.t = row.t ∧ row'.len = m + new.length ∧ row'.len ≤ 2 ^ row'.d ∧
      ∀ k v, k < row'.len → Tr.get row'.d row'.c k = some v → (k < m ∧ Tr.get row.d row.c (off + k) = some v) ∨ (m ≤ k ∧ new[k - m]? = some v))
    (hnew : VRL P ρ new new') (hoff : off + m ≤ row.len)
    (hw : w'.heap[b]? = some (.cells cc row.t (0, 0))) (hcc : cc.size = n) (hfit : s + (m + new.length) ≤ n) (hB : B ≤ b) (hlt : b < w'.heap.size) (hsz : w.heap.size ≤ w'.heap.size)
    (hheap : ∀ k, k ≠ b → k < w.heap.size → w'.heap[k]? = w.heap[k]?) (hb : b = w.heap.size ∨ (dd = true ∧ b = p.b)) (hbel : Below B w w')
    (hold : ∀ c0, w.heap[p.b]? = some (.cells c0 row.t (0, 0)) → c0.size = p.n → p.s + row.len ≤ p.n → ∀ k, k < m → cc[s + k]? = c0[p.s + off + k]?)
    (hn : ∀ k, k < new'.length → cc[s + m + k]? = new'[k]?) :
    ∃ ρ', ρ' q.1 = some ⟨b, s, n, row.t⟩ ∧ GS P B ρ' q.2 V w' ∧ Nx B ρ ρ' S.nx q.2.nx w w' := by
  have hlt0 : r < 4096 := rdO_lt (rdR_some.1 hrow)
  obtain ⟨g1, g2, g3, g4⟩ := newO_dead hlt0 hq
  have hle := Ren.le_put ⟨b, s, n, row.t⟩ hf
  obtain ⟨p1, hp1, c0, o1, o2, o3, o4, o5, o6⟩ := h.of_row hrow
  rw [hp] at hp1; cases hp1
  obtain ⟨a1, a2, a3, a4, a5⟩ := ha
  have hG1 : G P B ρ (ov (cond dd (upd (rdO S) r dead) (rdO S)) V) w := by
    cases dd
    · exact h
    · show G P B ρ (ov (upd (rdO S) r dead) V) w
      rw [ov_upd]; exact h.kill r rfl
  refine ⟨ρ.put S.nx ⟨b, s, n, row.t⟩, by rw [g2]; simp [Ren.put], ?_, ⟨hle, hbel, fun k hk hkn => ?_, by omega⟩⟩
  · show G P B _ (ov (rdO q.2) V) _
    rw [g4, ov_upd]
    refine hG1.put (p := ⟨b, s, n, row.t⟩) hle (by simp [Ren.put]) (fun k hk => by simp [Ren.put, hk]) hB hlt hsz hheap ?_ ?_
    · intro k ok pk hkr hk hd hpk
      show pk.b ≠ b
      rcases hb with rfl | ⟨rfl, rfl⟩
      · have := (h.plc k pk hpk).2
        omega
      · have hkr2 : k ≠ r := by
          intro e
          subst e
          have hk : ov (upd (rdO S) k dead) V k = some ok := hk
          have : ov (upd (rdO S) k dead) V k = some dead := by simp [ov, upd]
          rw [this] at hk
          cases hk; cases hd
        have hk' : ov (rdO S) V k = some ok := by
          have hk : ov (upd (rdO S) r dead) V k = some ok := hk
          have : ov (upd (rdO S) r dead) V k = ov (rdO S) V k := by simp [ov, upd, hkr2]
          rw [← this]; exact hk
        exact h.apart k r ok (.inl row) pk p hkr2 hk' hd (ov_of (rdR_some.1 hrow)) rfl hpk hp
    · refine ⟨cc, by rw [a2]; exact hw, hcc, a2.symm, by show s + row'.len ≤ n; omega, a4, fun k v hk hv => ?_⟩
      rcases a5 k v hk hv with ⟨b1, b2⟩ | ⟨b1, b2⟩
      · obtain ⟨v', u1, u2⟩ := o6 (off + k) v (by omega) b2
        refine ⟨v', ?_, VR_mono hle _ _ u2⟩
        show cc[s + k]? = some v'
        rw [hold c0 o1 o2 o4 k b1, Nat.add_assoc]; exact u1
      · obtain ⟨v', u1, u2⟩ := VRL_get hnew _ v b2
        refine ⟨v', ?_, VR_mono hle _ _ u2⟩
        show cc[s + k]? = some v'
        have h9 := hn (k - m) (List.getElem?_eq_some_iff.1 u1).1
        rw [show s + m + (k - m) = s + k by omega] at h9
        rw [h9]; exact u1
  · have : k ≠ S.nx := by omega
    simp [Ren.put, this, hk]
theorem append_spec (hE : EnvOk E) {ts : Array TypeId} {ty t xt elem : TypeId} {d de dx : Dg} {s x c e : Value} {q : Value × St} {z : Value} (h : GS E.P B ρ S V w)
    (h0 : ts[0]? = some t) (h1 : ts[1]? = some xt) (hd : E.dg t = some d) (hu' : d.und = .slice elem) (hde : E.dg elem = some de) (hz' : de.zero = some z) (hzs : z.cells.size = de.size) (hdx : E.dg xt = some dx) (hni : isInt dx.und = false)
    (hq : aAppend E S elem de.size de.bytes s x = some q) (hs : VR E.P ρ s c) (hx : VR E.P ρ x e) (hf : S.nx < q.2.nx → ρ S.nx = none) (hB : B ≤ w.heap.size) : OkV E.P B ρ S V w (Builtin.append_ ts ty #[c, e]) q.1 q.2 := by
  obtain ⟨i, hi0, hu, _, _, _⟩ := hE.ty t _ hd
  obtain ⟨ix, hix, hux, _, _, _⟩ := hE.ty xt _ hdx
  obtain ⟨ie, hie, _, hse, hbe, hz⟩ := hE.ty _ _ hde
  obtain ⟨hz1, hz2⟩ := hz z hz'
  have hut : E.P.underlying t = some (.slice elem) := by rw [hu, hu']
  have hco : E.P.cellsOf elem = de.size := by rw [cellsOf_eq hie, hse]
  cases s with
  | slice base sLen sCap =>
    obtain ⟨n, g1, hq⟩ := ob_some.1 (show ob (lenV x) _ = some q from hq)
    obtain ⟨new, g2, hq⟩ := ob_some.1 hq
    have hq : cond (Nat.ble (Nat.add sLen n) sCap) _ _ = some q := hq
    have hlen : ∀ w, (Builtin.lenOf e).run E.P w = .ok n w := fun w => lenV_spec g1 hx
    obtain ⟨new', n1, n2⟩ := firstC_spec h g2 g1 (Nat.le_refl _) hx
    obtain ⟨new1, n3, n4⟩ := firstC_spec h.drew g2 g1 (Nat.le_refl _) hx
    rw [← hse] at n1 n3
    cases hneed : Nat.ble (Nat.add sLen n) sCap <;> rw [hneed] at hq <;> simp only [cond_true, cond_false] at hq
    · have hneed : ¬ sLen + n ≤ sCap := fun hh => by rw [show Nat.ble (Nat.add sLen n) sCap = true from ble_iff.2 hh] at hneed; cases hneed
      obtain ⟨g3, hq⟩ := iff_some.1 hq
      simp only [Bool.and_eq_true] at g3
      have g4 : (sLen + n) * ie.bytes ≤ 140737488355328 := by rw [hbe]; exact ble_iff.1 g3.1.1
      have g5 : sLen + n ≤ 9223372036854775806 := ble_iff.1 g3.1.2
      have g6 : new.length = n * de.size := Nat.eq_of_beq_eq_true g3.2
      have l1 : new1.length = new.length := VRL_length n4
      have l2 : new'.length = new.length := VRL_length n2
      -- a new block, whatever stood ahead
      have fresh : ∀ (old : List Value) (cap : Nat) (bs : Option Addr), cap < sLen + n → (Builtin.firstCells ie.size sLen (.slice bs sLen cap)).run E.P w.drew = .ok old.toArray w.drew → old.length = sLen * de.size →
          ∃ newCap, sLen + n ≤ newCap ∧ (Builtin.append_ ts ty #[.slice bs sLen cap, e]).run E.P w =
            .ok (.slice (some ⟨w.heap.size, 0, none⟩) (sLen + n) newCap) (w.drew.alloc (.cells ((old ++ new1).toArray ++ Builtin.zeroCells z.cells (newCap - (sLen + n))) elem)) := fun old cap bs hc ho _ =>
        append_new_run h0 h1 hut hux hni hie hz1 hlen ho n3 hc g4 g5
      have size : ∀ (old : List Value) (newCap : Nat), old.length = sLen * de.size → sLen + n ≤ newCap → ((old ++ new1).toArray ++ Builtin.zeroCells z.cells (newCap - (sLen + n))).size = newCap * de.size := by
        intro old newCap ho hc
        simp only [Array.size_append, List.size_toArray, List.length_append, Builtin.zeroCells, Array.size_map, Array.size_range, ho, l1, g6, hzs]
        rw [← Nat.add_mul, ← Nat.add_mul]; congr 1; omega
      have hbelA : ∀ o, Below B w (w.drew.alloc o) := fun o => ((Below.refl B w).drew).alloc hB o
      match base, hs, hq with
      | none, hs, hq =>
        obtain ⟨k1, hq⟩ := iff_some.1 hq
        have k1 : sLen = 0 := Nat.eq_of_beq_eq_true k1
        subst k1
        obtain ⟨p, k2, hq⟩ := ob_some.1 hq
        cases hq
        have hf := hf (by show S.nx < p.2.nx; rw [newRow_nx k2]; omega)
        simp only [VR] at hs
        subst hs
        obtain ⟨newCap, c1, c2⟩ := fresh [] sCap none (by omega) rfl (by simp)
        have hr0 := newRow_spec h k2 n2 hf hB
        -- the row with its room
        obtain ⟨row, r1, r2⟩ := ob_some.1 (show ob (rowOf elem new) _ = some p from k2)
        obtain ⟨a, b, c, dd, ee⟩ := rowOf_spec r1
        obtain ⟨ρ', y1, y2, y3⟩ := h.drew.newO (n := newCap * de.size) (t := elem) r2 hf (show B ≤ w.drew.heap.size from hB) (o' := .cells (([] ++ new1).toArray ++ Builtin.zeroCells z.cells (newCap - (0 + n))) elem) fun ρ' hle => by
          refine ⟨_, by rw [a]; exact get_alloc_new w.drew _, size [] newCap (by simp) c1, a.symm, ?_, c, fun x v hx hv => ?_⟩
          · show 0 + row.len ≤ _
            rw [b, g6, Nat.zero_add]; exact Nat.mul_le_mul_right _ (by omega)
          · rw [ee x hx] at hv
            obtain ⟨v', u1, u2⟩ := VRL_get n4 x v hv
            refine ⟨v', ?_, VR_mono hle _ _ u2⟩
            have hx1 : x < new1.length := (List.getElem?_eq_some_iff.1 u1).1
            show (_ ++ _ : Array Value)[0 + x]? = _
            rw [Array.getElem?_append_left (by simp; omega)]
            simpa using u1
        refine ⟨ρ', _, _, c2, ?_, y2, (Nx.drew B ρ S.nx w).trans y3⟩
        simp only [VR]
        refine ⟨Nat.le_refl _, _, newCap, y1, c1, ?_, rfl⟩
        show 0 + 0 + newCap * E.P.cellsOf elem ≤ newCap * de.size
        rw [hco]; omega
      | some ⟨r, off, some (k + 1)⟩, hs, hq => cases hq
      | some ⟨r, off, none⟩, hs, hq =>
        obtain ⟨row, k1, hq⟩ := ob_some.1 hq
        obtain ⟨k2, hq⟩ := iff_some.1 hq
        simp only [Bool.and_eq_true] at k2
        have k3 : off + sLen * de.size ≤ row.len := ble_iff.1 k2.1
        have k4 : row.t = elem := Nat.eq_of_beq_eq_true k2.2
        obtain ⟨row', k5, hq⟩ := ob_some.1 hq
        obtain ⟨p, k6, hq⟩ := ob_some.1 hq
        cases hq
        have hf := hf (by show S.nx < p.2.nx; rw [(newO_dead (rdO_lt (rdR_some.1 k1)) k6).2.2.1]; omega)
        simp only [VR] at hs
        obtain ⟨pl, hpl, rfl⟩ := hs
        obtain ⟨p1, hp1, c0, o1, o2, o3, o4, o5, o6⟩ := h.of_row k1
        rw [hpl] at hp1; cases hp1
        have hold : (Builtin.firstCells ie.size sLen (.slice (some ⟨pl.b, pl.s + off, none⟩) sLen sCap)).run E.P w.drew = .ok ((c0.toList.drop (pl.s + off)).take (sLen * de.size)).toArray w.drew := by
          have hl0 : ((c0.toList.drop (pl.s + off)).take (sLen * de.size)).length = sLen * de.size := by simp only [List.length_take, List.length_drop, Array.length_toList]; omega
          have := run_cells (P := E.P) (w := w.drew) (a := ⟨pl.b, pl.s + off, none⟩) rfl ((c0.toList.drop (pl.s + off)).take (sLen * de.size)) fun j v hj => by
            have hjl : j < sLen * de.size := by rw [← hl0]; exact (List.getElem?_eq_some_iff.1 hj).1
            rw [List.getElem?_take_of_lt hjl, List.getElem?_drop, Array.getElem?_toList] at hj
            exact cell_of (p := pl) (w := w.drew) o1 hj
          rw [hl0] at this
          simpa [Builtin.firstCells, hse] using this
        have hl0 : ((c0.toList.drop (pl.s + off)).take (sLen * de.size)).length = sLen * de.size := by simp only [List.length_take, List.length_drop, Array.length_toList]; omega
        obtain ⟨newCap, c1, c2⟩ := fresh _ sCap _ (by omega) hold hl0
        have hsz := size _ newCap hl0 c1
        obtain ⟨ρ', y1, y2, y3⟩ := app_put (m := sLen * de.size) (w' := w.drew.alloc (.cells (((c0.toList.drop (pl.s + off)).take (sLen * de.size) ++ new1).toArray ++ Builtin.zeroCells z.cells (newCap - (sLen + n))) elem)) (b := w.heap.size) (s := 0) (n := newCap * de.size) h k1 hpl (dd := false) k6 hf
          (appRow_spec (m := sLen * de.size) k5 k3 o5) n4 k3 (by rw [k4]; exact get_alloc_new w.drew _) hsz (by rw [g6, ← Nat.add_mul, Nat.zero_add]; exact Nat.mul_le_mul_right _ c1) hB (by simp) (by simp) (fun k hk hlt => Below.heap_alloc w.drew _ k hlt) (.inl rfl) (hbelA _)
          (fun c1' hc1 hc2 hc3 k hk => by
            rw [o1] at hc1
            cases hc1
            rw [Array.getElem?_append_left (by simp only [List.size_toArray, List.length_append, hl0]; omega), Nat.zero_add, List.getElem?_toArray, List.getElem?_append_left (by rw [hl0]; exact hk), List.getElem?_take_of_lt hk, List.getElem?_drop, Array.getElem?_toList])
          (fun k hk => by
            rw [Array.getElem?_append_left (by simp only [List.size_toArray, List.length_append, hl0]; omega), List.getElem?_toArray, List.getElem?_append_right (by rw [hl0]; omega), hl0]
            congr 1; omega)
        refine ⟨ρ', _, _, c2, ?_, y2, y3⟩
        simp only [VR]
        refine ⟨Nat.le_refl _, _, newCap, y1, c1, ?_, rfl⟩
        show 0 + 0 + newCap * E.P.cellsOf row.t ≤ newCap * de.size
        rw [k4, hco]; omega
      | some ⟨r, off, some 0⟩, hs, hq =>
        obtain ⟨row, k1, hq⟩ := ob_some.1 hq
        obtain ⟨k2, hq⟩ := iff_some.1 hq
        simp only [Bool.and_eq_true] at k2
        have k3 : off + sLen * de.size ≤ row.len := ble_iff.1 k2.1
        have k4 : row.t = elem := Nat.eq_of_beq_eq_true k2.2
        obtain ⟨row', k5, hq⟩ := ob_some.1 hq
        obtain ⟨p, k6, hq⟩ := ob_some.1 hq
        cases hq
        have hf := hf (by show S.nx < p.2.nx; rw [(newO_dead (rdO_lt (rdR_some.1 k1)) k6).2.2.1]; omega)
        simp only [VR] at hs
        obtain ⟨hlc, pl, cap', hpl, hcc, hbd, rfl⟩ := hs
        obtain ⟨p1, hp1, c0, o1, o2, o3, o4, o5, o6⟩ := h.of_row k1
        rw [hpl] at hp1; cases hp1
        have hbd : pl.s + off + cap' * de.size ≤ pl.n := by rw [o3, k4, hco] at hbd; exact hbd
        have hplc := h.plc r pl hpl
        by_cases hroom : sLen + n ≤ cap'
        · -- in its place
          have hrun := append_room_run (ty := ty) (base := some ⟨pl.b, pl.s + off, none⟩) h0 h1 hut hux hni hie hlen n1 hroom
          have hmul : (sLen + n) * de.size ≤ cap' * de.size := Nat.mul_le_mul_right _ hroom
          have hmul2 : (sLen + n) * de.size = sLen * de.size + n * de.size := Nat.add_mul _ _ _
          have happ := appRow_spec (m := sLen * de.size) k5 k3 o5
          have hst := run_storeCells_at E.P pl.b (pl.s + off + sLen * de.size) row.t new' 0 c0 w o1 (by omega) (oneCell_VRL happ.1 n2)
          simp only [Nat.add_zero] at hst
          have hadd : Addr.add ⟨pl.b, pl.s + off, none⟩ (sLen * ie.size) = ⟨pl.b, pl.s + off + sLen * de.size, none⟩ := by rw [Addr.add_lit, hse]
          simp only [hadd, hst] at hrun
          have hcc0 : ((c0.toList.take (pl.s + off + sLen * de.size) ++ new' ++ c0.toList.drop (pl.s + off + sLen * de.size + new'.length)).toArray).size = pl.n := by
            simp only [List.size_toArray, List.length_append, List.length_take, List.length_drop, Array.length_toList]; omega
          obtain ⟨ρ', y1, y2, y3⟩ := app_put (m := sLen * de.size) (w' := w.setRow pl.b _) (b := pl.b) (s := pl.s + off) (n := pl.n) h k1 hpl (dd := true) k6 hf happ n2 k3 (setRow_heap w pl.b c0 _ row.t (0, 0) o1) hcc0 (by omega) hplc.1 (by rw [setRow_size]; exact hplc.2)
            (by rw [setRow_size]; exact Nat.le_refl _) (fun k hk _ => setRow_other w pl.b k _ hk) (.inr ⟨rfl, rfl⟩) ⟨rfl, rfl, rfl, by rw [setRow_size]; exact Nat.le_refl _, fun k hk => setRow_other w pl.b k _ (by have := hplc.1; omega)⟩
            (fun c1' hc1 hc2 hc3 k hk => by
              rw [o1] at hc1
              cases hc1
              rw [List.getElem?_toArray, List.append_assoc, List.getElem?_append_left (by simp only [List.length_take, Array.length_toList]; omega), List.getElem?_take_of_lt (by omega), Array.getElem?_toList])
            (fun k hk => by
              have hlt : (c0.toList.take (pl.s + off + sLen * de.size)).length = pl.s + off + sLen * de.size := by simp only [List.length_take, Array.length_toList]; omega
              rw [List.getElem?_toArray, List.append_assoc, List.getElem?_append_right (by rw [hlt]; omega), hlt, List.getElem?_append_left (by omega)]
              congr 1; omega)
          refine ⟨ρ', _, _, hrun, ?_, y2, y3⟩
          simp only [VR]
          refine ⟨Nat.le_refl _, _, cap', y1, hroom, ?_, by simp⟩
          show pl.s + off + 0 + cap' * E.P.cellsOf row.t ≤ pl.n
          rw [k4, hco]; omega
        · have hl0 : ((c0.toList.drop (pl.s + off)).take (sLen * de.size)).length = sLen * de.size := by simp only [List.length_take, List.length_drop, Array.length_toList]; omega
          have hold : (Builtin.firstCells ie.size sLen (.slice (some ⟨pl.b, pl.s + off, none⟩) sLen cap')).run E.P w.drew = .ok ((c0.toList.drop (pl.s + off)).take (sLen * de.size)).toArray w.drew := by
            have := run_cells (P := E.P) (w := w.drew) (a := ⟨pl.b, pl.s + off, none⟩) rfl ((c0.toList.drop (pl.s + off)).take (sLen * de.size)) fun j v hj => by
              have hjl : j < sLen * de.size := by rw [← hl0]; exact (List.getElem?_eq_some_iff.1 hj).1
              rw [List.getElem?_take_of_lt hjl, List.getElem?_drop, Array.getElem?_toList] at hj
              exact cell_of (p := pl) (w := w.drew) o1 hj
            rw [hl0] at this
            simpa [Builtin.firstCells, hse] using this
          obtain ⟨newCap, c1, c2⟩ := fresh _ cap' _ (by omega) hold hl0
          have hsz := size _ newCap hl0 c1
          obtain ⟨ρ', y1, y2, y3⟩ := app_put (m := sLen * de.size) (w' := w.drew.alloc (.cells (((c0.toList.drop (pl.s + off)).take (sLen * de.size) ++ new1).toArray ++ Builtin.zeroCells z.cells (newCap - (sLen + n))) elem)) (b := w.heap.size) (s := 0) (n := newCap * de.size) h k1 hpl (dd := true) k6 hf
            (appRow_spec (m := sLen * de.size) k5 k3 o5) n4 k3 (by rw [k4]; exact get_alloc_new w.drew _) hsz (by rw [g6, ← Nat.add_mul, Nat.zero_add]; exact Nat.mul_le_mul_right _ c1) hB (by simp) (by simp) (fun k hk hlt => Below.heap_alloc w.drew _ k hlt) (.inl rfl) (hbelA _)
            (fun c1' hc1 hc2 hc3 k hk => by
              rw [o1] at hc1
              cases hc1
              rw [Array.getElem?_append_left (by simp only [List.size_toArray, List.length_append, hl0]; omega), Nat.zero_add, List.getElem?_toArray, List.getElem?_append_left (by rw [hl0]; exact hk), List.getElem?_take_of_lt hk, List.getElem?_drop, Array.getElem?_toList])
            (fun k hk => by
              rw [Array.getElem?_append_left (by simp only [List.size_toArray, List.length_append, hl0]; omega), List.getElem?_toArray, List.getElem?_append_right (by rw [hl0]; omega), hl0]
              congr 1; omega)
          refine ⟨ρ', _, _, c2, ?_, y2, y3⟩
          simp only [VR]
          refine ⟨Nat.le_refl _, _, newCap, y1, c1, ?_, rfl⟩
          show 0 + 0 + newCap * E.P.cellsOf row.t ≤ newCap * de.size
          rw [k4, hco]; omega
    · have hneed : sLen + n ≤ sCap := ble_iff.1 hneed
      match base, hs, hq with
      | none, hs, hq =>
        cases hq
        simp only [VR] at hs
        subst hs
        exact OkV.same h (append_room_run h0 h1 hut hux hni hie hlen n1 hneed) (by simp [VR])
      | some ⟨r, off, some (k + 1)⟩, hs, hq =>
        obtain ⟨hemp, hq⟩ := iff_some.1 hq
        cases hq
        simp only [VR] at hs
        obtain ⟨rfl, rfl, a, c', rfl⟩ := hs
        have hn0 : n = 0 := by omega
        subst hn0
        have hnew0 : (Builtin.firstCells ie.size 0 e).run E.P w = .ok (([] : List Value)).toArray w := by
          rw [n1]
          have : new' = [] := by
            have : new = [] := by simpa using hemp
            subst this
            exact n2
          rw [this]
        refine OkV.same h (v' := .slice (some a) 0 c') ?_ (by simp only [VR]; exact ⟨trivial, trivial, a, c', rfl⟩)
        rw [append_room_run h0 h1 hut hux hni hie hlen hnew0 (by omega)]
        rfl
      | some ⟨r, off, none⟩, hs, hq =>
        obtain ⟨S1, k1, hq⟩ := ob_some.1 hq
        cases hq
        simp only [VR] at hs
        obtain ⟨p, hp, rfl⟩ := hs
        obtain ⟨p', w', hp', k2, k3, k4, _⟩ := wrCs_spec h k1 n2
        rw [hp] at hp'; cases hp'
        refine ⟨ρ, w', .slice (some ⟨p.b, p.s + off, none⟩) (sLen + n) sCap, ?_, ?_, k3, k4⟩
        · rw [append_room_run h0 h1 hut hux hni hie hlen n1 hneed]
          have : Addr.add ⟨p.b, p.s + off, none⟩ (sLen * ie.size) = ⟨p.b, p.s + (off + sLen * de.size), none⟩ := by rw [Addr.add_lit, hse]; congr 1; omega
          simp only [this]
          have k2 : (storeCells ⟨p.b, p.s + (off + sLen * de.size), none⟩ new').run E.P w = .ok () w' := k2
          rw [k2]; rfl
        · simp only [VR]; exact ⟨p, hp, rfl⟩
      | some ⟨r, off, some 0⟩, hs, hq =>
        obtain ⟨S1, k1, hq⟩ := ob_some.1 hq
        cases hq
        simp only [VR] at hs
        obtain ⟨hlc, p, cap', hp, hcc, hbd, rfl⟩ := hs
        obtain ⟨p', w', hp', k2, k3, k4, _⟩ := wrCs_spec h k1 n2
        rw [hp] at hp'; cases hp'
        refine ⟨ρ, w', .slice (some ⟨p.b, p.s + off, none⟩) (sLen + n) cap', ?_, ?_, k3, k4⟩
        · rw [append_room_run h0 h1 hut hux hni hie hlen n1 (by omega)]
          have : Addr.add ⟨p.b, p.s + off, none⟩ (sLen * ie.size) = ⟨p.b, p.s + (off + sLen * de.size), none⟩ := by rw [Addr.add_lit, hse]; congr 1; omega
          simp only [this]
          have k2 : (storeCells ⟨p.b, p.s + (off + sLen * de.size), none⟩ new').run E.P w = .ok () w' := k2
          rw [k2]; rfl
        · simp only [VR]; exact ⟨hneed, p, cap', hp, hcc, hbd, rfl⟩
  | _ => cases hq
end
end Go.Proofs.YtemldmjpanmdbaaGreatDoor.Ev

namespace Go.Proofs.YtemldmjpanmdbaaGreatDoor.Ev
open Go.RowKit
section
variable {E : Env} {ρ ρ' : Ren} {B : Nat} {w w' : World} {S S' : St} {V : Hp}
theorem undOf_spec (hE : EnvOk E) {ts : Array TypeId} {i : Nat} {u : TypeDesc} (h : undOf E ts i = some u) : ∃ t d, ts[i]? = some t ∧ E.dg t = some d ∧ d.und = u := by
  obtain ⟨t, h1, h2⟩ := ob_some.1 h
  obtain ⟨d, h3, h4⟩ := ob_some.1 h2
  cases h4
  exact ⟨t, d, h1, h3, rfl⟩
theorem copy_spec (hE : EnvOk E) {ts : Array TypeId} {ty t elem : TypeId} {d de : Dg} {s x c e : Value} {q : Value × St} (h : GS E.P B ρ S V w)
    (h0 : ts[0]? = some t) (hd : E.dg t = some d) (hu' : d.und = .slice elem) (hde : E.dg elem = some de)
    (hq : aCopy E S de.size s x = some q) (hs : VR E.P ρ s c) (hx : VR E.P ρ x e) : OkV E.P B ρ S V w (Builtin.copy_ ts ty #[c, e]) q.1 q.2 := by
  obtain ⟨i, hi0, hu, _, _, _⟩ := hE.ty t _ hd
  obtain ⟨ie, hie, _, hse, hbe, hz⟩ := hE.ty _ _ hde
  have hut : E.P.underlying t = some (.slice elem) := by rw [hu, hu']
  cases s with
  | slice base dLen dCap =>
    obtain ⟨sl, g1, hq⟩ := ob_some.1 (show ob (lenV x) _ = some q from hq)
    have hq : ob (firstC S de.size (cond (Nat.ble sl dLen) sl dLen) x) _ = some q := hq
    obtain ⟨cs, g2, hq⟩ := ob_some.1 hq
    have hmin : cond (Nat.ble sl dLen) sl dLen = Nat.min sl dLen := by
      show _ = min sl dLen
      cases hb : Nat.ble sl dLen
      · have : ¬ sl ≤ dLen := fun hh => by rw [ble_iff.2 hh] at hb; cases hb
        simp; omega
      · have : sl ≤ dLen := ble_iff.1 hb
        simp; omega
    rw [hmin] at g2 hq
    obtain ⟨cs', n1, n2⟩ := firstC_spec h g2 g1 (Nat.min_le_left _ _) hx
    have hlen : ∀ w, (Builtin.lenOf e).run E.P w = .ok sl w := fun w => lenV_spec g1 hx
    rw [← hse] at n1
    match base, hs, hq with
    | none, hs, hq =>
      cases hq
      simp only [VR] at hs
      subst hs
      refine OkV.same h (v' := goInt (Nat.min sl dLen)) ?_ (by simp [VR, goInt])
      simp [Builtin.copy_, h0, run_underlying hut, hlen, run_sizeOf hie, n1]
    | some ⟨r, off, none⟩, hs, hq =>
      obtain ⟨S1, k1, hq⟩ := ob_some.1 hq
      cases hq
      simp only [VR] at hs
      obtain ⟨p, hp, rfl⟩ := hs
      obtain ⟨p', w', hp', k2, k3, k4, _⟩ := wrCs_spec h k1 n2
      rw [hp] at hp'; cases hp'
      refine ⟨ρ, w', goInt (Nat.min sl dLen), ?_, by simp [VR, goInt], k3, k4⟩
      simp [Builtin.copy_, h0, run_underlying hut, hlen, run_sizeOf hie, n1, k2]
    | some ⟨r, off, some 0⟩, hs, hq =>
      obtain ⟨S1, k1, hq⟩ := ob_some.1 hq
      cases hq
      simp only [VR] at hs
      obtain ⟨_, p, cap', hp, _, _, rfl⟩ := hs
      obtain ⟨p', w', hp', k2, k3, k4, _⟩ := wrCs_spec h k1 n2
      rw [hp] at hp'; cases hp'
      refine ⟨ρ, w', goInt (Nat.min sl dLen), ?_, by simp [VR, goInt], k3, k4⟩
      simp [Builtin.copy_, h0, run_underlying hut, hlen, run_sizeOf hie, n1, k2]
    | some ⟨r, off, some (k + 1)⟩, hs, hq => cases hq
  | _ => cases hq
theorem zeroCells_made (z : Array Value) (n : Nat) : Builtin.zeroCells z n = madeCells z (n * z.size) := rfl
theorem clear_spec (hE : EnvOk E) {ts : Array TypeId} {ty t elem : TypeId} {d de : Dg} {r off n cap : Nat} {sp : Option Nat} {c : Value} {q : St} {z : Value} (h : GS E.P B ρ S V w)
    (h0 : ts[0]? = some t) (hd : E.dg t = some d) (hu' : d.und = .slice elem) (hde : E.dg elem = some de) (hz' : de.zero = some z) (hzs : z.cells.size = de.size) (hz0 : 0 < de.size) (hsp : ∀ k, sp ≠ some (k + 1)) (hn : n ≠ 0)
    (hq : wrCs E S r off (zeros z.cells.toList n) = some q) (hs : VR E.P ρ (.slice (some ⟨r, off, sp⟩) n cap) c) : OkV E.P B ρ S V w (Builtin.clear_ ts ty #[c]) (.tuple #[]) q := by
  obtain ⟨i, hi0, hu, _, _, _⟩ := hE.ty t _ hd
  obtain ⟨ie, hie, _, hse, hbe, hz⟩ := hE.ty _ _ hde
  obtain ⟨hz1, hz2⟩ := hz z hz'
  have hut : E.P.underlying t = some (.slice elem) := by rw [hu, hu']
  obtain ⟨p', w', hp', k2, k3, k4, _⟩ := wrCs_spec h hq (zeros_flat hz2 n)
  have hc : ∃ cap', c = .slice (some ⟨p'.b, p'.s + off, none⟩) n cap' := by
    match sp, hs, hsp with
    | none, hs, _ => simp only [VR] at hs; obtain ⟨p, hp, rfl⟩ := hs; rw [hp] at hp'; cases hp'; exact ⟨_, rfl⟩
    | some 0, hs, _ => simp only [VR] at hs; obtain ⟨_, p, cap', hp, _, _, rfl⟩ := hs; rw [hp] at hp'; cases hp'; exact ⟨_, rfl⟩
    | some (k + 1), hs, hsp => exact absurd rfl (hsp k)
  obtain ⟨cap', rfl⟩ := hc
  refine ⟨ρ, w', .tuple #[], ?_, by simp only [VR]; exact ⟨#[], rfl, VRA_iff.2 rfl⟩, k3, k4⟩
  have h3 : (Builtin.zeroCells z.cells n).toList = zeros z.cells.toList n := by
    rw [zeroCells_made, ← zeros_made z.cells (by omega) n]
  cases n with
  | zero => exact absurd rfl hn
  | succ n => simp [Builtin.clear_, h0, run_underlying hut, run_zero hie hz1, h3, k2]
theorem pureB {P : Program} {b : Builtin} {ts : Array TypeId} {ty : TypeId} {cs : Array Bool} {as : Array Value} {nx : Next} (h : pureOf P (builtin b ts ty cs as) = some nx) : (builtin b ts ty cs as).run P w = .ok nx w := pureOf_run _ _ h
theorem vtuple {P : Program} : VR P ρ (.tuple #[]) (.tuple #[]) := by simp only [VR]; exact ⟨#[], rfl, VRA_iff.2 rfl⟩
/-- The map behind a number. -/
theorem mapOf_spec {P : Program} {r : Nat} {m : Array MapEntry × Nat} (h : GS P B ρ S V w) (hm : mapOf S r = some m) : ∃ p es', ρ r = some p ∧ w.heap[p.b]? = some (.map es' m.2) ∧ ER P ρ m.1.toList es'.toList ∧ r < 4096 ∧ rdO S r = some (.inr (.map m.1 m.2)) := by
  obtain ⟨o, h1, h2⟩ := ob_some.1 hm
  match o, h2 with
  | .inr (.map es clock), h2 =>
    cases h2
    obtain ⟨p, hp, es', h3, h4⟩ := h.at_ r _ (ov_of h1) rfl
    exact ⟨p, es', hp, h3, h4, rdO_lt h1, h1⟩
theorem ER_length {P : Program} : ∀ {l c : List MapEntry}, ER P ρ l c → c.length = l.length
  | [], _, h => by cases h; rfl
  | _ :: l, _, ⟨e', m, e, _, _, _, _, h⟩ => by subst e; simp [ER_length h]
theorem run_getMap {P : Program} {r clock : Nat} {es : Array MapEntry} (h : w.heap[r]? = some (.map es clock)) : (getObj r).run P w = .ok (.map es clock) w := by simp [getObj, Sem.run, h]
/-- The builtins, each by the value that it hands back. -/
theorem divW (m : Nat) : Nat.div m 65536 = m / 65536 := rfl
theorem modW (m : Nat) : Nat.mod m 65536 = m % 65536 := rfl
theorem ivl_some {c : Option Nat} {m : Nat} (h : ivl c = some m) : c = some (m + 1) := by
  match c, h with
  | some (k + 1), h => cases h; rfl
theorem ivB_spec {P : Program} {ρ : Ren} {b : Builtin} {ts : Array TypeId} {ty : TypeId} {cs : Array Bool} {l l' : List Value} {v : Value} (h : ivB b l = some v) (hl : VRL P ρ l l') :
    ∃ v', (builtin b ts ty cs l'.toArray).run P w = .ok (.value v') w ∧ VR P ρ v v' := by
  unfold ivB at h
  split at h
  · rename_i c n
    obtain ⟨m, h1, h⟩ := ob_some.1 h
    have h1 := ivl_some h1
    subst h1
    obtain ⟨h2, h⟩ := cond_some.1 h
    have h2 := ble_iff.1 h2
    rw [modW] at h2
    cases h
    obtain ⟨u, r, rfl, hu, u2, r2, rfl, hu2, hr⟩ := hl
    simp only [VR] at hu hu2
    cases hr
    obtain ⟨k, rfl, k1, k2⟩ := hu
    subst hu2
    refine ⟨.int .i64 (.ofNat k), ?_, by simp only [VR]; exact ⟨k, rfl, k1, k2⟩⟩
    simp [builtin, Builtin.max_, Builtin.max2]
    omega
  · rename_i c n
    obtain ⟨m, h1, h⟩ := ob_some.1 h
    have h1 := ivl_some h1
    subst h1
    obtain ⟨h2, h⟩ := cond_some.1 h
    have h2 := ble_iff.1 h2
    rw [divW] at h2
    cases h
    obtain ⟨u, r, rfl, hu, u2, r2, rfl, hu2, hr⟩ := hl
    simp only [VR] at hu hu2
    cases hr
    obtain ⟨k, rfl, k1, k2⟩ := hu
    subst hu2
    refine ⟨.int .i64 (.ofNat k), ?_, by simp only [VR]; exact ⟨k, rfl, k1, k2⟩⟩
    simp [builtin, Builtin.min_, Builtin.min2]
    omega
  · cases h
theorem ivC_spec {P : Program} {ρ : Ren} {op : BinOp} {t : TypeId} {x y : Operand} {a b a' b' : Value} {r : Bool} (h : ivC op a b = some r) (ha : VR P ρ a a') (hb : VR P ρ b b') :
    (do eqGuard op t x y a' b'; binOp op t a' b').run P w = .ok (.bool r) w := by
  unfold ivC at h
  split at h
  · rename_i c n
    obtain ⟨m, h1, h⟩ := ob_some.1 h
    have h1 := ivl_some h1
    subst h1
    simp only [VR] at ha hb
    obtain ⟨k, rfl, k1, k2⟩ := ha
    subst hb
    suffices hs : fast op (.int .i64 (.ofNat k)) (.int .i64 (.ofNat n)) = some (.bool r) from (fast_spec hs).1
    simp only [divW, modW] at h
    have cc : ∀ {p q : Bool}, cond p (some true) (cond q (some false) none) = some r → (p = true ∧ r = true) ∨ (q = true ∧ r = false) := by
      intro p q hh
      cases p <;> cases q <;> simp_all
    have bt : ∀ {p q : Nat}, p < q → Nat.blt p q = true := fun hh => blt_iff.2 hh
    have bl : ∀ {p q : Nat}, p ≤ q → Nat.ble p q = true := fun hh => ble_iff.2 hh
    have nbt : ∀ {p q : Nat}, q ≤ p → Nat.blt p q = false := fun hh => by
      cases hc : Nat.blt _ _ with
      | false => rfl
      | true => have := blt_iff.1 hc; omega
    have nbl : ∀ {p q : Nat}, q < p → Nat.ble p q = false := fun hh => by
      cases hc : Nat.ble _ _ with
      | false => rfl
      | true => have := ble_iff.1 hc; omega
    split at h
    · rcases cc h with ⟨g, rfl⟩ | ⟨g, rfl⟩
      · have := blt_iff.1 g
        show some (Value.bool (Nat.blt k n)) = _; rw [bt (by omega)]
      · have := ble_iff.1 g
        show some (Value.bool (Nat.blt k n)) = _; rw [nbt (by omega)]
    · rcases cc h with ⟨g, rfl⟩ | ⟨g, rfl⟩
      · have := ble_iff.1 g
        show some (Value.bool (Nat.ble k n)) = _; rw [bl (by omega)]
      · have := blt_iff.1 g
        show some (Value.bool (Nat.ble k n)) = _; rw [nbl (by omega)]
    · rcases cc h with ⟨g, rfl⟩ | ⟨g, rfl⟩
      · have := blt_iff.1 g
        show some (Value.bool (Nat.blt n k)) = _; rw [bt (by omega)]
      · have := ble_iff.1 g
        show some (Value.bool (Nat.blt n k)) = _; rw [nbt (by omega)]
    · rcases cc h with ⟨g, rfl⟩ | ⟨g, rfl⟩
      · have := ble_iff.1 g
        show some (Value.bool (Nat.ble n k)) = _; rw [bl (by omega)]
      · have := blt_iff.1 g
        show some (Value.bool (Nat.ble n k)) = _; rw [nbl (by omega)]
    · cases h
  · cases h
theorem builtin_spec (hE : EnvOk E) {b : Builtin} {ts : Array TypeId} {ty : TypeId} {cs : Array Bool} {args : Arg (List Value)} {τ : Tmps} {q : Value × St} {l' : List Value} (h : GS E.P B ρ S V w) (hq : (cBuiltin E b ts ty cs args).f τ S = some q)
    (hf : S.nx < q.2.nx → ρ S.nx = none) (hB : B ≤ w.heap.size) (ha : ∀ l, args.f τ = some l → VRL E.P ρ l l') :
    Ok1 E.P B ρ S V w (builtin b ts ty cs l'.toArray) (fun ρ' x => ∃ v', x = .value v' ∧ VR E.P ρ' q.1 v') q.2 := by
  have lift : ∀ {s : Sem Value} {v : Value} {S1 : St}, OkV E.P B ρ S V w s v S1 → Ok1 E.P B ρ S V w (do pure (Next.value (← s))) (fun ρ' x => ∃ v', x = .value v' ∧ VR E.P ρ' v v') S1 := by
    intro s v S1 ⟨ρ', w', v', a, b, c, d⟩
    exact ⟨ρ', w', .value v', by simp [a], ⟨v', rfl, b⟩, c, d⟩
  unfold cBuiltin at hq
  split at hq
  · rename_i elem hu0
    obtain ⟨t, d, h0, hd, hu'⟩ := undOf_spec hE hu0
    split at hq
    · rename_i ue size z bytes xt hde hux
      obtain ⟨xtt, dx, h1, hdx, hux'⟩ := undOf_spec hE hux
      cases hc : (isInt xt || !(Nat.beq z.cells.size size)) <;> rw [hc] at hq
      · simp only [Bool.or_eq_false_iff, Bool.not_eq_false'] at hc
        obtain ⟨l, a1, hq⟩ := ob_some.1 hq
        have hl := ha l a1
        split at hq
        · rename_i s x
          obtain ⟨s', m, e1, b1, h2⟩ := hl
          obtain ⟨x', m2, e2, b2, e3⟩ := h2
          subst e3; subst e2; subst e1
          exact lift (append_spec hE h h0 h1 hd hu' hde rfl (Nat.eq_of_beq_eq_true hc.2) hdx (by rw [hux']; exact hc.1) hq b1 b2 hf hB)
        · cases hq
      · cases hq
    · cases hq
  · rename_i elem hu0
    obtain ⟨t, d, h0, hd, hu'⟩ := undOf_spec hE hu0
    split at hq
    · rename_i de hde
      obtain ⟨l, a1, hq⟩ := ob_some.1 hq
      have hl := ha l a1
      split at hq
      · rename_i s x
        obtain ⟨s', m, e1, b1, h2⟩ := hl
        obtain ⟨x', m2, e2, b2, e3⟩ := h2
        subst e3; subst e2; subst e1
        exact lift (copy_spec hE h h0 hd hu' hde hq b1 b2)
      · cases hq
    · cases hq
  · rename_i elem hu0
    obtain ⟨t, d, h0, hd, hu'⟩ := undOf_spec hE hu0
    obtain ⟨i, hi0, hu, _, _, _⟩ := hE.ty t _ hd
    have hut : E.P.underlying t = some (.slice elem) := by rw [hu, hu']
    split at hq
    · rename_i ue size z bytes hde
      cases hc : (Nat.beq z.cells.size size && Nat.blt 0 size) <;> rw [hc] at hq
      · cases hq
      · simp only [Bool.and_eq_true] at hc
        obtain ⟨l, a1, hq⟩ := ob_some.1 hq
        have hl := ha l a1
        match l, hl, hq with
        | [.slice none n cap], hl, hq =>
          cases hq
          obtain ⟨s', m, e1, b1, e3⟩ := hl
          subst e3; subst e1
          simp only [VR] at b1
          subst b1
          exact lift (OkV.same h (v' := .tuple #[]) (by simp [Builtin.clear_, h0, run_underlying hut]) vtuple)
        | [.slice (some a) 0 cap], hl, hq =>
          cases hq
          obtain ⟨s', m, e1, b1, e3⟩ := hl
          subst e3; subst e1
          have hc0 : ∃ a' cap', s' = .slice (some a') 0 cap' := by
            obtain ⟨r, off, sp⟩ := a
            match sp, b1 with
            | none, b1 => simp only [VR] at b1; obtain ⟨p, _, rfl⟩ := b1; exact ⟨_, _, rfl⟩
            | some 0, b1 => simp only [VR] at b1; obtain ⟨_, p, c', _, _, _, rfl⟩ := b1; exact ⟨_, _, rfl⟩
            | some (k + 1), b1 => simp only [VR] at b1; obtain ⟨_, _, a, c', rfl⟩ := b1; exact ⟨_, _, rfl⟩
          obtain ⟨a', cap', rfl⟩ := hc0
          exact lift (OkV.same h (v' := .tuple #[]) (by simp [Builtin.clear_, h0, run_underlying hut]) vtuple)
        | [.slice (some ⟨r, off, none⟩) (n + 1) cap], hl, hq =>
          obtain ⟨S1, k1, hq⟩ := ob_some.1 hq
          cases hq
          obtain ⟨s', m, e1, b1, e3⟩ := hl
          subst e3; subst e1
          exact lift (clear_spec hE h h0 hd hu' hde rfl (Nat.eq_of_beq_eq_true hc.1) (blt_iff.1 hc.2) (by simp) (by simp) k1 b1)
        | [.slice (some ⟨r, off, some 0⟩) (n + 1) cap], hl, hq =>
          obtain ⟨S1, k1, hq⟩ := ob_some.1 hq
          cases hq
          obtain ⟨s', m, e1, b1, e3⟩ := hl
          subst e3; subst e1
          exact lift (clear_spec hE h h0 hd hu' hde rfl (Nat.eq_of_beq_eq_true hc.1) (blt_iff.1 hc.2) (by simp) (by simp) k1 b1)
        | [.slice (some ⟨r, off, some (k + 1)⟩) (n + 1) cap], hl, hq => cases hq
    · cases hq
  · rename_i elem hu0
    obtain ⟨t, d, h0, hd, hu'⟩ := undOf_spec hE hu0
    obtain ⟨i, hi0, hu, _, _, _⟩ := hE.ty t _ hd
    have hut : E.P.underlying t = some (.slice elem) := by rw [hu, hu']
    obtain ⟨l, a1, hq⟩ := ob_some.1 hq
    have hl := ha l a1
    split at hq
    · rename_i a n cap
      cases hq
      obtain ⟨s', m, e1, b1, e3⟩ := hl
      subst e3; subst e1
      have hc0 : ∃ a' cap', s' = .slice a' n cap' := by
        match a, b1 with
        | none, b1 => simp only [VR] at b1; subst b1; exact ⟨_, _, rfl⟩
        | some ⟨r, off, none⟩, b1 => simp only [VR] at b1; obtain ⟨p, _, rfl⟩ := b1; exact ⟨_, _, rfl⟩
        | some ⟨r, off, some 0⟩, b1 => simp only [VR] at b1; obtain ⟨_, p, c', _, _, _, rfl⟩ := b1; exact ⟨_, _, rfl⟩
        | some ⟨r, off, some (k + 1)⟩, b1 => simp only [VR] at b1; obtain ⟨rfl, _, a, c', rfl⟩ := b1; exact ⟨_, _, rfl⟩
      obtain ⟨a', cap', rfl⟩ := hc0
      exact lift (OkV.same h (v' := goInt n) (by simp [Builtin.len_, h0, run_underlying hut]) (by simp [VR, goInt]))
    · cases hq
  · rename_i key elem hu0
    obtain ⟨t, d, h0, hd, hu'⟩ := undOf_spec hE hu0
    obtain ⟨i, hi0, hu, _, _, _⟩ := hE.ty t _ hd
    have hut : E.P.underlying t = some (.map key elem) := by rw [hu, hu']
    obtain ⟨l, a1, hq⟩ := ob_some.1 hq
    have hl := ha l a1
    split at hq
    · rename_i r
      obtain ⟨m, k1, hq⟩ := ob_some.1 hq
      cases hq
      obtain ⟨s', m', e1, b1, e3⟩ := hl
      subst e3; subst e1
      simp only [VR] at b1
      obtain ⟨p, hp, rfl⟩ := b1
      obtain ⟨p', es', hp', h3, h4, _, _⟩ := mapOf_spec h k1
      rw [hp] at hp'; cases hp'
      have hsz : es'.size = m.1.size := by simpa using ER_length h4
      exact lift (OkV.same h (v' := goInt m.1.size) (by simp [Builtin.len_, h0, run_underlying hut, run_getMap h3, hsz]) (by simp [VR, goInt]))
    · cases hq
      obtain ⟨s', m', e1, b1, e3⟩ := hl
      subst e3; subst e1
      simp only [VR] at b1
      subst b1
      exact lift (OkV.same h (v' := goInt 0) (by simp [Builtin.len_, h0, run_underlying hut]) (by simp [VR, goInt]))
    · cases hq
  · rename_i b b2 u0 e1 e2 e3 e4 e5
    cases hc : okB b <;> rw [hc] at hq
    · cases hq
    · obtain ⟨l, a1, hq⟩ := ob_some.1 hq
      have hl := ha l a1
      cases k1 : l.all flat <;> rw [k1] at hq
      · obtain ⟨v, k2, hq⟩ := ob_some.1 (show ob (ivB b l) (fun v => some (v, S)) = some q from hq)
        cases hq
        obtain ⟨v', k3, k4⟩ := ivB_spec (w := w) (ts := ts) (ty := ty) (cs := cs) k2 hl
        exact ⟨ρ, w, .value v', k3, ⟨v', rfl, k4⟩, h, Nx.refl _ _ _ _⟩
      · have := (VRL_flat 8 _ _ k1).1 hl
        subst this
        obtain ⟨x, k2, hq⟩ := ob_some.1 (show ob _ _ = some q from hq)
        cases x with
        | value v =>
          obtain ⟨k3, hq⟩ := iff_some.1 (show iff' (flat v) (some (v, S)) = some q from hq)
          cases hq
          exact ⟨ρ, w, .value v, pureB (w := w) k2, ⟨v, rfl, (VR_flat 8 _ _ k3).2 rfl⟩, h, Nx.refl _ _ _ _⟩
        | _ => cases hq
/-! ### Maps -/
theorem findNow_ER {P : Program} {kind : TypeDesc} {k : Value} : ∀ {l c : List MapEntry} (h : ER P ρ l c) (i : Nat), (Instr.findNow kind k l i = none ∧ Instr.findNow kind k c i = none) ∨ (Instr.findNow kind k l i = some none ∧ Instr.findNow kind k c i = some none) ∨
    ∃ j v v', Instr.findNow kind k l i = some (some (j, v)) ∧ Instr.findNow kind k c i = some (some (j, v')) ∧ VR P ρ v v'
  | [], _, h, i => by cases h; exact .inr (.inl ⟨rfl, rfl⟩)
  | e :: l, _, ⟨e', m, he, h1, h2, h3, h4, h5⟩, i => by
    subst he
    simp only [Instr.findNow, h2]
    cases Instr.sameNow kind k e.key with
    | none => exact .inl ⟨rfl, rfl⟩
    | some b =>
      cases b
      · exact findNow_ER h5 (i + 1)
      · exact .inr (.inr ⟨i, _, _, rfl, rfl, h4⟩)
theorem pureOf_bind {α β : Type} {P : Program} : ∀ (s : Sem α) (f : α → Sem β) (y : β), pureOf P (s >>= f) = some y → ∃ a, pureOf P s = some a ∧ pureOf P (f a) = some y
  | .pure a, f, y, h => ⟨a, rfl, h⟩
  | .program k, f, y, h => pureOf_bind (k P) f y h
  | .mark m k, f, y, h => pureOf_bind k f y h
  | .load .., _, _, h => by cases h
  | .store .., _, _, h => by cases h
  | .new .., _, _, h => by cases h
  | .shape .., _, _, h => by cases h
  | .freeze .., _, _, h => by cases h
  | .frozen .., _, _, h => by cases h
  | .getObj .., _, _, h => by cases h
  | .setObj .., _, _, h => by cases h
  | .choose .., _, _, h => by cases h
  | .sys .., _, _, h => by cases h
  | .halt .., _, _, h => by cases h
theorem findAsking_ER {P : Program} {key : TypeId} {k : Value} : ∀ {l c : List MapEntry} (h : ER P ρ l c) (i : Nat) {f : Option (Nat × Value)}, pureOf P (Instr.findAsking key k l i) = some f →
    (f = none ∧ (Instr.findAsking key k c i).run P w = .ok none w) ∨ ∃ j v v', f = some (j, v) ∧ (Instr.findAsking key k c i).run P w = .ok (some (j, v')) w ∧ VR P ρ v v'
  | [], _, h, i, f, hf => by cases h; cases hf; exact .inl ⟨rfl, rfl⟩
  | e :: l, _, ⟨e', m, he, h1, h2, h3, h4, h5⟩, i, f, hf => by
    subst he
    unfold Instr.findAsking at hf ⊢
    obtain ⟨b, g1, hf⟩ := pureOf_bind _ _ _ hf
    have g2 := pureOf_run (w := w) _ _ g1
    rw [h2, Sem.run_bind, g2]
    cases b
    · exact findAsking_ER h5 (i + 1) hf
    · cases hf
      exact .inr ⟨i, _, _, rfl, rfl, h4⟩
end
end Go.Proofs.YtemldmjpanmdbaaGreatDoor.Ev

namespace Go.Proofs.YtemldmjpanmdbaaGreatDoor.Ev
open Go.RowKit
section
variable {E : Env} {ρ ρ' : Ren} {B : Nat} {w w' : World} {S S' : St} {V : Hp}
theorem lookKey_spec (hE : EnvOk E) {empty : Bool} {key : TypeId} {k : Value} {l c : List MapEntry} {f : Option (Nat × Value)} (h : lookKey E empty key k l = some f) (he : ER E.P ρ l c) :
    flat k = true ∧ (Instr.checkKey empty 10000 key k).run E.P w = .ok () w ∧ ((f = none ∧ (Instr.findKey key k c).run E.P w = .ok none w) ∨ ∃ i v v', f = some (i, v) ∧ (Instr.findKey key k c).run E.P w = .ok (some (i, v')) w ∧ VR E.P ρ v v') := by
  obtain ⟨h1, h⟩ := iff_some.1 h
  obtain ⟨_, h2, h⟩ := ob_some.1 h
  obtain ⟨d, h3, h⟩ := ob_some.1 h
  obtain ⟨i, hi, hu, _, _, _⟩ := hE.ty key d h3
  refine ⟨h1, pureOf_run _ _ h2, ?_⟩
  rcases findNow_ER (kind := d.und) (k := k) he 0 with ⟨a, b⟩ | ⟨a, b⟩ | ⟨j, v, v', a, b, c⟩
  · rw [a] at h
    have e : (Instr.findKey key k c).run E.P w = (Instr.findAsking key k c 0).run E.P w := by simp [Instr.findKey, run_underlying hu, b]
    rw [e]
    exact findAsking_ER he 0 h
  · rw [a] at h; cases h
    exact .inl ⟨rfl, by simp [Instr.findKey, run_underlying hu, b]⟩
  · rw [a] at h; cases h
    exact .inr ⟨j, v, v', rfl, by simp [Instr.findKey, run_underlying hu, b], c⟩
/-- A thing that is no row turns. -/
theorem putO_spec {P : Program} {r : Nat} {o o1 : AO} {ob0 ob1 : Obj} {p : Pl} (h : GS P B ρ S V w) (hr : rdO S r = some o) (hd : isDead o = false) (hp : ρ r = some p) (h0 : w.heap[p.b]? = some ob0) (hc : ∀ a b c, ob0 ≠ .cells a b c)
    (ho : OR P ρ p o1 { w with heap := w.heap.setIfInBounds p.b ob1 }) :
    (setObj p.b ob1).run P w = .ok () { w with heap := w.heap.setIfInBounds p.b ob1 } ∧ GS P B ρ (putO S r o1) V { w with heap := w.heap.setIfInBounds p.b ob1 } ∧ Nx B ρ ρ S.nx S.nx w { w with heap := w.heap.setIfInBounds p.b ob1 } := by
  have hpl := h.plc r p hp
  have hsz : (w.heap.setIfInBounds p.b ob1).size = w.heap.size := by simp
  have hne : ∀ k, k ≠ p.b → (w.heap.setIfInBounds p.b ob1)[k]? = w.heap[k]? := fun k hk => Array.getElem?_setIfInBounds_ne (Ne.symm hk)
  refine ⟨?_, ?_, ⟨ρ.le_refl, ⟨rfl, rfl, rfl, by show _ ≤ (w.heap.setIfInBounds p.b ob1).size; omega, fun k hk => hne k (by omega)⟩, fun _ h _ => h, Nat.le_refl _⟩⟩
  · cases ob0 with
    | cells a b c => exact absurd rfl (hc _ _ _)
    | _ => simp only [setObj, Sem.run, h0]
  · show G P B ρ (ov (rdO (putO S r o1)) V) _
    rw [rdO_putO _ (rdO_lt hr), ov_upd]
    refine h.put ρ.le_refl hp (fun _ _ => rfl) hpl.1 (by show p.b < (w.heap.setIfInBounds p.b ob1).size; omega) (by show w.heap.size ≤ (w.heap.setIfInBounds p.b ob1).size; omega) (fun k hk _ => hne k hk) ?_ ho
    intro k ok pk hkr hk hdk hpk
    exact h.apart k r ok o pk p hkr hk hdk (ov_of hr) hd hpk hp
theorem set_same {P : Program} {b : Nat} {o : Obj} (h : b < w.heap.size) : ({ w with heap := w.heap.setIfInBounds b o } : World).heap[b]? = some o := by
  show (w.heap.setIfInBounds b o)[b]? = _
  simp [h]
theorem ER_push {P : Program} {l c : List MapEntry} {e e' : MapEntry} (h : ER P ρ l c) (h1 : flat e.key = true) (h2 : e'.key = e.key) (h3 : e'.born = e.born) (h4 : VR P ρ e.val e'.val) : ER P ρ (l ++ [e]) (c ++ [e']) := by
  induction l generalizing c with
  | nil => cases h; exact ⟨e', [], rfl, h1, h2, h3, h4, rfl⟩
  | cons x l ih => obtain ⟨x', m, rfl, a, b, c1, d, f⟩ := h; exact ⟨x', m ++ [e'], rfl, a, b, c1, d, ih f⟩
end
end Go.Proofs.YtemldmjpanmdbaaGreatDoor.Ev

namespace Go.Proofs.YtemldmjpanmdbaaGreatDoor.Ev
open Go.RowKit
section
variable {E : Env} {ρ ρ' : Ren} {B : Nat} {w w' : World} {S S' : St} {V : Hp}
abbrev OpR (P : Program) (v : Value) : Ren → Next → Prop := fun ρ' x => (∃ v', x = .value v' ∧ VR P ρ' v v') ∨ (x = .skip ∧ v = undef)
theorem lift {P : Program} {s : Sem Value} {v : Value} {S1 : St} (h : OkV P B ρ S V w s v S1) : Ok1 P B ρ S V w (do pure (Next.value (← s))) (OpR P v) S1 := by
  obtain ⟨ρ', w', v', a, b, c, d⟩ := h
  exact ⟨ρ', w', .value v', by simp [a], .inl ⟨v', rfl, b⟩, c, d⟩
theorem liftU {P : Program} {s : Sem Unit} {S1 : St} (h : Ok1 P B ρ S V w s (fun _ _ => True) S1) : Ok1 P B ρ S V w (do s; pure Next.skip) (OpR P undef) S1 := by
  obtain ⟨ρ', w', v', a, b, c, d⟩ := h
  exact ⟨ρ', w', .skip, by simp [a], .inr ⟨rfl, rfl⟩, c, d⟩
theorem okV_pure {P : Program} {v v' : Value} (h : GS P B ρ S V w) (hv : VR P ρ v v') : Ok1 P B ρ S V w (pure (Next.value v') : Sem Next) (OpR P v) S := ⟨ρ, w, .value v', rfl, .inl ⟨v', rfl, hv⟩, h, Nx.refl _ _ _ _⟩
theorem val_some {v : Option Value} {S : St} {q : Value × St} (h : val v S = some q) : ∃ u, v = some u ∧ q = (u, S) := by
  obtain ⟨u, h1, h2⟩ := ob_some.1 h
  cases h2
  exact ⟨u, h1, rfl⟩
theorem flat_VR {P : Program} {v : Value} (h : flat v = true) : VR P ρ v v := (VR_flat 8 v v h).2 rfl
theorem flat_eq {P : Program} {v c : Value} (h : flat v = true) (hv : VR P ρ v c) : c = v := (VR_flat 8 v c h).1 hv
theorem eq_ptr1 {P : Program} {t e : TypeId} (d : Nat) (a : Addr) (hu : P.underlying t = some (.pointer e)) : (Op.equalIn (d + 1) t (.pointer (some a)) (.pointer none)).run P w = .ok false w := by simp [Op.equalIn, run_underlying hu]
theorem eq_ptr2 {P : Program} {t e : TypeId} (d : Nat) (a : Addr) (hu : P.underlying t = some (.pointer e)) : (Op.equalIn (d + 1) t (.pointer none) (.pointer (some a))).run P w = .ok false w := by simp [Op.equalIn, run_underlying hu]
theorem eq_sl1 {P : Program} {t e : TypeId} (d : Nat) (a : Addr) (n m k l : Nat) (hu : P.underlying t = some (.slice e)) : (Op.equalIn (d + 1) t (.slice (some a) n m) (.slice none k l)).run P w = .ok false w := by simp [Op.equalIn, run_underlying hu]
theorem eq_sl2 {P : Program} {t e : TypeId} (d : Nat) (a : Addr) (n m k l : Nat) (hu : P.underlying t = some (.slice e)) : (Op.equalIn (d + 1) t (.slice none k l) (.slice (some a) n m)).run P w = .ok false w := by simp [Op.equalIn, run_underlying hu]
theorem eq_map1 {P : Program} {t e f : TypeId} (d : Nat) (a : Nat) (hu : P.underlying t = some (.map e f)) : (Op.equalIn (d + 1) t (.map (some a)) (.map none)).run P w = .ok false w := by simp [Op.equalIn, run_underlying hu]
theorem eq_map2 {P : Program} {t e f : TypeId} (d : Nat) (a : Nat) (hu : P.underlying t = some (.map e f)) : (Op.equalIn (d + 1) t (.map none) (.map (some a))).run P w = .ok false w := by simp [Op.equalIn, run_underlying hu]
theorem eq_fn1 {P : Program} {t : TypeId} {x y : Array TypeId} {z : Bool} (d : Nat) (f : Fn) (a b : Array Value) (hu : P.underlying t = some (.func x y z)) : (Op.equalIn (d + 1) t (.func f a b) .nilFunc).run P w = .ok false w := by simp [Op.equalIn, run_underlying hu]
theorem eq_fn2 {P : Program} {t : TypeId} {x y : Array TypeId} {z : Bool} (d : Nat) (f : Fn) (a b : Array Value) (hu : P.underlying t = some (.func x y z)) : (Op.equalIn (d + 1) t .nilFunc (.func f a b)).run P w = .ok false w := by simp [Op.equalIn, run_underlying hu]
theorem aNil_spec (hE : EnvOk E) {t : TypeId} {d : Dg} {x y x' y' : Value} {r : Bool} (hd : E.dg t = some d) (h : aNil d.und x y = some r) (hx : VR E.P ρ x x') (hy : VR E.P ρ y y') :
    r = false ∧ (Op.equal t x' y').run E.P w = .ok false w ∧ ∀ op X Y, eqGuard op t X Y x' y' = pure () ∧ binOp .eql t x' y' = (do pure (.bool (← Op.equal t x' y'))) ∧ binOp .neq t x' y' = (do pure (.bool (!(← Op.equal t x' y')))) := by
  obtain ⟨i, hi, hu, _, _, _⟩ := hE.ty t d hd
  have sl : ∀ {a : Addr} {n m : Nat} {c : Value}, VR E.P ρ (.slice (some a) n m) c → ∃ b n' m', c = .slice (some b) n' m' := by
    intro a n m c hv
    obtain ⟨r, off, sp⟩ := a
    match sp, hv with
    | none, hv => simp only [VR] at hv; obtain ⟨p, _, rfl⟩ := hv; exact ⟨_, _, _, rfl⟩
    | some 0, hv => simp only [VR] at hv; obtain ⟨_, p, c', _, _, _, rfl⟩ := hv; exact ⟨_, _, _, rfl⟩
    | some (k + 1), hv => simp only [VR] at hv; obtain ⟨_, _, a, c', rfl⟩ := hv; exact ⟨_, _, _, rfl⟩
  have fu : ∀ {fn : Fn} {a b : Array Value} {c : Value}, VR E.P ρ (.func fn a b) c → ∃ f a' b', c = .func f a' b' := by
    intro fn a b c hv
    cases fn with
    | yield l => simp only [VR] at hv; obtain ⟨_, _, p, _, rfl⟩ := hv; exact ⟨_, _, _, rfl⟩
    | _ => simp only [VR] at hv; obtain ⟨f', c', rfl, _, _⟩ := hv; exact ⟨_, _, _, rfl⟩
  unfold aNil at h
  split at h <;> first | (cases h; done) | skip
  all_goals (rename_i hu'; rw [hu'] at hu; cases h; refine ⟨rfl, ?_⟩)
  · simp only [VR] at hx hy; obtain ⟨p, _, _, rfl⟩ := hx; subst hy
    exact ⟨eq_ptr1 9999 _ hu, fun op X Y => ⟨eqGuard_at_pointer .., rfl, rfl⟩⟩
  · simp only [VR] at hx hy; obtain ⟨p, _, _, rfl⟩ := hy; subst hx
    exact ⟨eq_ptr2 9999 _ hu, fun op X Y => ⟨eqGuard_at_pointer .., rfl, rfl⟩⟩
  · obtain ⟨b, n', m', rfl⟩ := sl hx; simp only [VR] at hy; subst hy
    exact ⟨eq_sl1 9999 _ _ _ _ _ hu, fun op X Y => ⟨eqGuard_at_slice .., rfl, rfl⟩⟩
  · obtain ⟨b, n', m', rfl⟩ := sl hy; simp only [VR] at hx; subst hx
    exact ⟨eq_sl2 9999 _ _ _ _ _ hu, fun op X Y => ⟨eqGuard_at_slice .., rfl, rfl⟩⟩
  · simp only [VR] at hx hy; obtain ⟨p, _, rfl⟩ := hx; subst hy
    exact ⟨eq_map1 9999 _ hu, fun op X Y => ⟨eqGuard_at_map .., rfl, rfl⟩⟩
  · simp only [VR] at hx hy; obtain ⟨p, _, rfl⟩ := hy; subst hx
    exact ⟨eq_map2 9999 _ hu, fun op X Y => ⟨eqGuard_at_map .., rfl, rfl⟩⟩
  · obtain ⟨f, a, b, rfl⟩ := fu hx; simp only [VR] at hy; subst hy
    exact ⟨eq_fn1 9999 _ _ _ hu, fun op X Y => ⟨eqGuard_at_func .., rfl, rfl⟩⟩
  · obtain ⟨f, a, b, rfl⟩ := fu hy; simp only [VR] at hx; subst hx
    exact ⟨eq_fn2 9999 _ _ _ hu, fun op X Y => ⟨eqGuard_at_nilFunc .., rfl, rfl⟩⟩
end
end Go.Proofs.YtemldmjpanmdbaaGreatDoor.Ev

namespace Go.Proofs.YtemldmjpanmdbaaGreatDoor.Ev
open Go.RowKit
section
variable {E : Env} {ρ ρ' : Ren} {B : Nat} {w w' : World} {S S' : St} {V : Hp}
theorem opdo_OO {P : Program} {x : Option Operand} {τ : Tmps} {a : Act} (h : TRel E.P ρ τ a) : ∀ v, (opdo E x).f τ = some v → OO E.P ρ v (x.map a.eval) := by
  intro v hv
  rcases opdo_spec h hv with ⟨rfl, rfl⟩ | ⟨y, u, rfl, rfl, h1⟩
  · exact .inl ⟨rfl, rfl⟩
  · exact .inr ⟨u, _, rfl, rfl, h1⟩
theorem next_none {P : Program} {b s k0 k1 : Nat} {k2 : Array Nat} {t : TypeId} (hs : s = 0) (h : w.heap[b]? = some (.mapIter none k0 k2 k1)) :
    (Instr.next (.pointer (some ⟨b, s + 0, none⟩)) false t).run P w = .ok (.tuple #[.bool false]) w := by
  subst hs
  simp [Instr.next, getObj, Sem.run, h, Result.andThen]
theorem next_empty {P : Program} {b s m k0 k1 clock : Nat} {k2 : Array Nat} {t : TypeId} (hs : s = 0) (h : w.heap[b]? = some (.mapIter (some m) k0 k2 k1)) (hm : w.heap[m]? = some (.map #[] clock)) :
    (Instr.next (.pointer (some ⟨b, s + 0, none⟩)) false t).run P w = .ok (.tuple #[.bool false]) w := by
  subst hs
  simp [Instr.next, getObj, Sem.run, h, hm, Result.andThen, choose, Question.forced]
set_option maxHeartbeats 1000000 in
theorem oper_spec (hE : EnvOk E) {o : Oper} {K : CallF} {Y : YieldF} {τ : Tmps} {a : Act} {q : Value × St} (hq : (cOper E o).f K Y τ S = some q) (h : GS E.P B ρ S V w) (ht : TRel E.P ρ τ a)
    (hf : S.nx < q.2.nx → ρ S.nx = none) (hB : B ≤ w.heap.size) (hnc : ∀ c, o.op = .call c → ∃ b, c.callee = .builtin b) : Ok1 E.P B ρ S V w (execOp a.eval o) (OpR E.P q.1) q.2 := by
  obtain ⟨dst, op, type, pos, after, guard⟩ := o
  have opd' : ∀ {x : Operand} {v : Value}, (opd E x).f τ = some v → VR E.P ρ v (a.eval x) := fun hx => opd_spec ht hx
  cases op with
  | move x =>
    obtain ⟨u, h1, rfl⟩ := val_some (show val ((opd E x).f τ) S = some q from hq)
    exact okV_pure h (opd' h1)
  | assign x =>
    obtain ⟨u, h1, rfl⟩ := val_some (show val ((opd E x).f τ) S = some q from hq)
    exact okV_pure h (opd' h1)
  | pick c x y =>
    obtain ⟨u, h1, hq⟩ := ob_some.1 (show ob ((opd E c).f τ) _ = some q from hq)
    cases u with
    | bool t =>
      have hb := opd' h1
      simp only [VR] at hb
      cases t
      · obtain ⟨u, h2, rfl⟩ := val_some (show val ((opd E y).f τ) S = some q from hq)
        exact ⟨ρ, w, .value (a.eval y), by simp [execOp, hb, asBool], .inl ⟨_, rfl, opd' h2⟩, h, Nx.refl _ _ _ _⟩
      · obtain ⟨u, h2, rfl⟩ := val_some (show val ((opd E x).f τ) S = some q from hq)
        exact ⟨ρ, w, .value (a.eval x), by simp [execOp, hb, asBool], .inl ⟨_, rfl, opd' h2⟩, h, Nx.refl _ _ _ _⟩
    | _ => cases hq
  | alloc t =>
    simp only [cOper] at hq
    split at hq
    · rename_i d u0 sz z bz hd
      obtain ⟨i, hi, hu, hs, _, hz⟩ := hE.ty t _ hd
      obtain ⟨hz1, hz2⟩ := hz z rfl
      obtain ⟨p, h1, hq⟩ := ob_some.1 hq
      cases hq
      obtain ⟨ρ', w', ad, r1, r2, r3, r4⟩ := var_spec h h1 (flat_VR hz2) (hf (newRow_nx' h1)) hB
      exact lift ⟨ρ', w', .pointer (some ad), by simp [Instr.alloc, run_zero hi hz1, r1], r2, r3, r4⟩
    · cases hq
  | box t x =>
    obtain ⟨z, h0, hq⟩ := ob_some.1 (show ob ((opd E x).f τ) _ = some q from hq)
    obtain ⟨p, h1, hq⟩ := ob_some.1 hq
    cases hq
    obtain ⟨ρ', w', ad, r1, r2, r3, r4⟩ := var_spec h h1 (opd' h0) (hf (newRow_nx' h1)) hB
    exact lift ⟨ρ', w', .pointer (some ad), by simp [Instr.box, r1], r2, r3, r4⟩
  | build t ps =>
    refine lift (build_spec hE h hq fun l hl => ?_)
    have := opdp_spec ht hl
    refine ⟨?_, this.2⟩
    simpa using this.1
  | buildSlice t n ps =>
    refine lift (buildSlice_spec hE h hq hf hB fun l hl => ?_)
    have := opdp_spec ht hl
    refine ⟨?_, this.2⟩
    simpa using this.1
  | load t x => exact lift (load_spec hE h hq fun v hv => opd' hv)
  | store t x y =>
    obtain ⟨h1, h2⟩ := store_spec hE h hq (fun v hv => opd' hv) (fun v hv => opd' hv)
    rw [h1]
    exact liftU h2
  | nilCheck x =>
    obtain ⟨v, h0, hq⟩ := ob_some.1 (show ob ((opd E x).f τ) _ = some q from hq)
    have hv := opd' h0
    match v, hv, hq with
    | .pointer (some ad), hv, hq =>
      cases hq
      have hv' := hv
      simp only [VR] at hv
      obtain ⟨p, hp, _, hc⟩ := hv
      exact ⟨ρ, w, .value (a.eval x), by simp [execOp, hc], .inl ⟨_, rfl, hv'⟩, h, Nx.refl _ _ _ _⟩
    | .func (.func f) c d, hv, hq =>
      cases hq
      have hv' := hv
      simp only [VR] at hv
      obtain ⟨f', c', hc, _, _⟩ := hv
      exact ⟨ρ, w, .value (a.eval x), by simp [execOp, hc], .inl ⟨_, rfl, hv'⟩, h, Nx.refl _ _ _ _⟩
    | .func (.yield f) c d, hv, hq =>
      cases hq
      have hv' := hv
      simp only [VR] at hv
      obtain ⟨_, _, p, _, hc⟩ := hv
      exact ⟨ρ, w, .value (a.eval x), by simp [execOp, hc], .inl ⟨_, rfl, hv'⟩, h, Nx.refl _ _ _ _⟩
  | binOp op t x y yt =>
    obtain ⟨u, h1, hq⟩ := ob_some.1 (show ob ((opd E x).f τ) _ = some q from hq)
    obtain ⟨v, h2, hq⟩ := ob_some.1 hq
    obtain ⟨r, h3, hq⟩ := ob_some.1 hq
    cases hq
    have hu := opd' h1
    have hv := opd' h2
    rcases orElse_some h3 with h3 | ⟨_, h3⟩
    · obtain ⟨k1, x1, k2, y1, e1, e2⟩ : ∃ k x1 k' y1, u = .int k x1 ∧ v = .int k' y1 := by
        cases op with
        | andNot => cases (show (none : Option Value) = some r from h3)
        | _ => obtain ⟨k, x1, k', y1, e1, e2, _⟩ := fast_two h3; exact ⟨k, _, k', _, e1, e2⟩
      subst e1; subst e2
      simp only [VR] at hu hv
      obtain ⟨r1, bb, kk, nn, mm, r2, _⟩ := fast_spec (P := E.P) (w := w) (t := t) (x := x) (y := y) h3
      refine lift (OkV.same h (v' := r) ?_ ?_)
      · rw [hu, hv]; exact r1
      · rcases r2 with rfl | rfl <;> simp [VR]
    · cases hc : (flat u && flat v) <;> rw [hc] at h3
      · cases op with
        | eql =>
          obtain ⟨d, k1, h3⟩ := ob_some.1 (show ob (E.dg t) _ = some r from h3)
          obtain ⟨b, k2, h3⟩ := ob_some.1 h3
          cases h3
          obtain ⟨rfl, r1, r2⟩ := aNil_spec (w := w) hE k1 k2 hu hv
          refine lift (OkV.same h (v' := .bool false) ?_ (by simp [VR]))
          simp [(r2 .eql x y).1, (r2 .eql x y).2.1, r1]
        | neq =>
          obtain ⟨d, k1, h3⟩ := ob_some.1 (show ob (E.dg t) _ = some r from h3)
          obtain ⟨b, k2, h3⟩ := ob_some.1 h3
          cases h3
          obtain ⟨rfl, r1, r2⟩ := aNil_spec (w := w) hE k1 k2 hu hv
          refine lift (OkV.same h (v' := .bool true) ?_ (by simp [VR]))
          simp [(r2 .neq x y).1, (r2 .neq x y).2.2, r1]
        | _ =>
          obtain ⟨b, k1, h3⟩ := ob_some.1 (show ob (ivC _ u v) _ = some r from h3)
          cases h3
          exact lift (OkV.same h (v' := .bool b) (ivC_spec k1 hu hv) (by simp [VR]))
      · simp only [Bool.and_eq_true] at hc
        obtain ⟨z, k1, h3⟩ := ob_some.1 (show ob (pureOf E.P (do eqGuard op t x y u v; binOp op t u v)) _ = some r from h3)
        obtain ⟨k2, h3⟩ := iff_some.1 h3
        cases h3
        refine lift (OkV.same h (v' := r) ?_ (flat_VR k2))
        rw [flat_eq hc.1 hu, flat_eq hc.2 hv]
        exact pureOf_run _ _ k1
  | unOp op t x =>
    obtain ⟨u, h1, hq⟩ := ob_some.1 (show ob ((opd E x).f τ) _ = some q from hq)
    obtain ⟨h2, hq⟩ := iff_some.1 hq
    obtain ⟨v, h3, hq⟩ := ob_some.1 hq
    obtain ⟨h4, hq⟩ := iff_some.1 hq
    cases hq
    refine lift (OkV.same h (v' := v) ?_ (flat_VR h4))
    rw [flat_eq h2 (opd' h1)]
    exact pureOf_run _ _ h3
  | convert s d x =>
    simp only [cOper] at hq
    split at hq
    · rename_i o1 o2 k0 z0 z1 z2 k' z3 z4 z5 hs hd
      obtain ⟨is, _, hus, _, _, _⟩ := hE.ty s _ hs
      obtain ⟨id, _, hud, _, _, _⟩ := hE.ty d _ hd
      obtain ⟨u, h1, hq⟩ := ob_some.1 hq
      obtain ⟨v, h2, hq⟩ := ob_some.1 hq
      cases hq
      rcases orElse_some h2 with h2 | ⟨_, h2⟩
      · obtain ⟨k, n, rfl, h2⟩ := nn_some h2
        obtain ⟨h3, rfl⟩ := fit_some h2
        have hx := VR_int (opd' h1)
        refine lift (OkV.same h (v' := .int k' n) ?_ (by simp [VR]))
        simp [hx, convert, run_underlying hus, run_underlying hud, Conv.intToInt, wrap_fit k' n h3]
      · cases u with
        | int k n =>
          obtain ⟨z, h3, h2⟩ := ob_some.1 h2
          obtain ⟨h4, h2⟩ := iff_some.1 h2
          cases h2
          have hx := VR_int (opd' h1)
          refine lift (OkV.same h (v' := v) ?_ (flat_VR h4))
          have := pureOf_run (w := w) _ _ h3
          simp [hx, convert, run_underlying hus, run_underlying hud, this]
        | _ => cases h2
    · cases hq
  | makeFunc fn first captured =>
    cases fn with
    | func f =>
      obtain ⟨x, h1, hq⟩ := ob_some.1 (show ob ((opds E first.toList).f τ) _ = some q from hq)
      obtain ⟨y, h2, hq⟩ := ob_some.1 hq
      cases hq
      refine lift (OkV.same h (v' := .func (.func f) (first.map a.eval) (captured.map a.eval)) (by simp [Instr.makeFunc]) ?_)
      simp only [VR]
      exact ⟨_, _, rfl, VRA_iff.2 (by simpa using opds_spec ht h1), VRA_iff.2 (by simpa using opds_spec ht h2)⟩
    | _ => cases hq
  | makeMap t r =>
    cases r with
    | none =>
      obtain ⟨p, h1, hq⟩ := ob_some.1 (show ob (newO S (.inr (.map #[] 0))) _ = some q from hq)
      cases hq
      obtain ⟨ρ', g1, g2, g3⟩ := h.newO (n := 0) (t := 0) h1 (hf (by show S.nx < p.2.nx; rw [(newO_spec h1).2.2.1]; omega)) hB (o' := .map #[] 0) fun ρ' hle => ⟨#[], get_alloc_new w _, rfl⟩
      exact lift ⟨ρ', _, .map (some w.heap.size), by simp [Instr.makeMap], by simp only [VR]; exact ⟨_, g1, rfl⟩, g2, g3⟩
    | some r => cases hq
  | makeSlice t l c =>
    simp only [cOper] at hq
    split at hq
    · rename_i elem z0 z1 z2 hd
      split at hq
      · rename_i u0 size z bytes hde
        cases hc : (Nat.beq z.cells.size size && Nat.blt 0 size) <;> rw [hc] at hq
        · cases hq
        · simp only [Bool.and_eq_true] at hc
          obtain ⟨lv, h1, hq⟩ := ob_some.1 hq
          obtain ⟨ln, h2, hq⟩ := ob_some.1 hq
          obtain ⟨cv, h3, hq⟩ := ob_some.1 hq
          obtain ⟨cn, h4, hq⟩ := ob_some.1 hq
          obtain ⟨h5, hq⟩ := iff_some.1 hq
          simp only [Bool.and_eq_true] at h5
          obtain ⟨p, h6, hq⟩ := ob_some.1 hq
          cases hq
          obtain ⟨k, rfl⟩ := toN_some h2
          obtain ⟨k', rfl⟩ := toN_some h4
          have e1 := VR_int (opd' h1)
          have e2 := VR_int (opd' h3)
          have := makeSlice_run hE (k := k) (k' := k') h hd rfl hde rfl (Nat.eq_of_beq_eq_true hc.1) (blt_iff.1 hc.2) (ble_iff.1 h5.1.1) (ble_iff.1 h5.1.2) (ble_iff.1 h5.2) h6 (hf (newRow_nx' h6)) hB
          refine lift ?_
          rw [e1, e2]
          exact this
      · cases hq
    · cases hq
  | slice t x lo hi mx => exact lift (slice_spec hE h hq (fun v hv => opd' hv) (opdo_OO (P := E.P) ht) (opdo_OO (P := E.P) ht) (opdo_OO (P := E.P) ht))
  | fieldAddr s x f =>
    simp only [cOper] at hq
    split at hq
    · rename_i fs z0 z1 z2 hd
      obtain ⟨i, hi, hu, _, _, _⟩ := hE.ty s _ hd
      split at hq
      · rename_i fl hfl
        split at hq
        · rename_i d hdf
          obtain ⟨ie, hie, _, hse, _, _⟩ := hE.ty _ _ hdf
          cases hc : Nat.blt 0 d.size <;> rw [hc] at hq
          · cases hq
          · have hc : 0 < d.size := blt_iff.1 hc
            obtain ⟨u, h1, hq⟩ := ob_some.1 hq
            obtain ⟨ad, h2, hq⟩ := ob_some.1 hq
            cases hq
            obtain ⟨p, hp, hx⟩ := VR_ptr h2 (opd' h1)
            refine lift (OkV.same h (v' := .pointer (some ⟨p.b, p.s + (ad.off + fl.offset), none⟩)) ?_ (by simp only [VR]; exact ⟨p, hp, trivial, rfl⟩))
            have h0 : ie.size ≠ 0 := by omega
            rw [hx]
            simp [Instr.fieldAt, run_underlying hu, hfl, Instr.sureAddr, fieldPlace, run_sizeOf hie, h0, Addr.add_lit, Nat.add_assoc]
        · cases hq
      · cases hq
    · cases hq
  | field t x f =>
    simp only [cOper] at hq
    split at hq
    · rename_i fs z0 z1 z2 hd
      obtain ⟨i, hi, hu, _, _, _⟩ := hE.ty t _ hd
      split at hq
      · rename_i fl hfl
        split at hq
        · rename_i d hdf
          obtain ⟨u, h1, hq⟩ := ob_some.1 hq
          cases u with
          | agg cs =>
            obtain ⟨v, h2, rfl⟩ := val_some (show val (Ev.part d cs fl.offset) S = some q from hq)
            have hx := opd' h1
            simp only [VR] at hx
            obtain ⟨cs', hx, h3⟩ := hx
            obtain ⟨v', r1, r2⟩ := part_spec (w := w) hE hdf h2 (VRA_iff.1 h3)
            refine lift (OkV.same h (v' := v') ?_ r2)
            rw [hx]
            simp [Instr.field, run_underlying hu, hfl, asAgg, r1]
          | _ => cases hq
        · cases hq
      · cases hq
    · cases hq
  | indexAddr t x i =>
    simp only [cOper] at hq
    split at hq
    · rename_i len elem z0 z1 z2 hd
      obtain ⟨it, hi, hu, _, _, _⟩ := hE.ty t _ hd
      split at hq
      · rename_i d hde
        obtain ⟨ie, hie, _, hse, _, _⟩ := hE.ty _ _ hde
        obtain ⟨u, h1, hq⟩ := ob_some.1 hq
        obtain ⟨ad, h2, hq⟩ := ob_some.1 hq
        obtain ⟨iv, h3, hq⟩ := ob_some.1 hq
        obtain ⟨n, h4, hq⟩ := ob_some.1 hq
        obtain ⟨h5, hq⟩ := iff_some.1 hq
        cases hq
        have h5 : n < len := blt_iff.1 h5
        obtain ⟨k, rfl⟩ := toN_some h4
        have e1 := VR_int (opd' h3)
        obtain ⟨p, hp, hx⟩ := VR_ptr h2 (opd' h1)
        refine lift (OkV.same h (v' := .pointer (some ⟨p.b, p.s + (ad.off + n * d.size), none⟩)) ?_ (by simp only [VR]; exact ⟨p, hp, trivial, rfl⟩))
        rw [hx, e1]
        simp [Instr.indexAt, run_underlying hu, asIntOf, Instr.sureAddr, h5, run_sizeOf hie, hse, Addr.add_lit, Nat.add_assoc]
      · cases hq
    · rename_i elem z0 z1 z2 hd
      obtain ⟨it, hi, hu, _, _, _⟩ := hE.ty t _ hd
      split at hq
      · rename_i d hde
        obtain ⟨ie, hie, _, hse, _, _⟩ := hE.ty _ _ hde
        obtain ⟨u, h1, hq⟩ := ob_some.1 hq
        obtain ⟨iv, h3, hq⟩ := ob_some.1 hq
        obtain ⟨n, h4, hq⟩ := ob_some.1 hq
        obtain ⟨k, rfl⟩ := toN_some h4
        have e1 := VR_int (opd' h3)
        have hx := opd' h1
        match u, hx, hq with
        | .slice (some ⟨r, off, sp⟩) len cap, hx, hq =>
          obtain ⟨h5, hq⟩ := iff_some.1 hq
          cases hq
          have h5 : n < len := blt_iff.1 h5
          have hc : ∃ p cap', ρ r = some p ∧ a.eval x = .slice (some ⟨p.b, p.s + off, none⟩) len cap' := by
            match sp, hx with
            | none, hx => simp only [VR] at hx; obtain ⟨p, hp, hx⟩ := hx; exact ⟨p, _, hp, hx⟩
            | some 0, hx => simp only [VR] at hx; obtain ⟨_, p, c', hp, _, _, hx⟩ := hx; exact ⟨p, _, hp, hx⟩
            | some (k + 1), hx => simp only [VR] at hx; obtain ⟨h0, _⟩ := hx; omega
          obtain ⟨p, cap', hp, hx⟩ := hc
          refine lift (OkV.same h (v' := .pointer (some ⟨p.b, p.s + (off + n * d.size), none⟩)) ?_ (by simp only [VR]; exact ⟨p, hp, trivial, rfl⟩))
          rw [hx, e1]
          simp [Instr.indexAt, run_underlying hu, asIntOf, h5, run_sizeOf hie, hse, Addr.add_lit, Nat.add_assoc]
      · cases hq
    · cases hq
  | index t x i =>
    simp only [cOper] at hq
    split at hq
    · rename_i len elem z0 z1 z2 hd
      obtain ⟨it, hi, hu, _, _, _⟩ := hE.ty t _ hd
      split at hq
      · rename_i d hde
        obtain ⟨ie, hie, _, hse, _, _⟩ := hE.ty _ _ hde
        obtain ⟨u, h1, hq⟩ := ob_some.1 hq
        obtain ⟨iv, h3, hq⟩ := ob_some.1 hq
        obtain ⟨n, h4, hq⟩ := ob_some.1 hq
        obtain ⟨k, rfl⟩ := toN_some h4
        have e1 := VR_int (opd' h3)
        cases u with
        | agg cs =>
          obtain ⟨h5, hq⟩ := iff_some.1 (show iff' (Nat.blt n len) (val (Ev.part d cs (Nat.mul n d.size)) S) = some q from hq)
          have h5 : n < len := blt_iff.1 h5
          obtain ⟨v, h2, rfl⟩ := val_some hq
          have hx := opd' h1
          simp only [VR] at hx
          obtain ⟨cs', hx, h6⟩ := hx
          obtain ⟨v', r1, r2⟩ := part_spec (w := w) hE hde h2 (VRA_iff.1 h6)
          refine lift (OkV.same h (v' := v') ?_ r2)
          rw [hx, e1]
          have r1 : (Go.part elem cs' (n * d.size)).run E.P w = .ok v' w := r1
          simp [Instr.index, run_underlying hu, asIntOf, h5, run_sizeOf hie, hse, r1]
        | _ => cases hq
      · cases hq
    · cases hq
  | lookup t x k ok =>
    simp only [cOper] at hq
    split at hq
    · rename_i key elem z0 z1 z2 hd
      obtain ⟨it, hi, hu, _, _, _⟩ := hE.ty t _ hd
      split at hq
      · rename_i u0 size z bytes hde
        obtain ⟨ie, hie, _, hse, _, hz⟩ := hE.ty _ _ hde
        obtain ⟨hz1, hz2⟩ := hz z rfl
        obtain ⟨xv, h1, hq⟩ := ob_some.1 hq
        obtain ⟨kv, h2, hq⟩ := ob_some.1 hq
        obtain ⟨m, h3, hq⟩ := ob_some.1 hq
        obtain ⟨f, h4, hq⟩ := ob_some.1 hq
        have hx := opd' h1
        have hk := opd' h2
        -- what stands in the map
        have hm : ∃ es' : List MapEntry, ER E.P ρ m.1.toList es' ∧ ((a.eval x = .map none ∧ es' = []) ∨ ∃ b clock, a.eval x = .map (some b) ∧ w.heap[b]? = some (.map es'.toArray clock)) := by
          match xv, hx, h3 with
          | .map none, hx, h3 => cases h3; simp only [VR] at hx; exact ⟨[], rfl, .inl ⟨hx, rfl⟩⟩
          | .map (some r), hx, h3 =>
            simp only [VR] at hx
            obtain ⟨p, hp, hx⟩ := hx
            obtain ⟨p', es', hp', g3, g4, _, _⟩ := mapOf_spec h h3
            rw [hp] at hp'; cases hp'
            exact ⟨es'.toList, g4, .inr ⟨_, _, hx, by simpa using g3⟩⟩
        obtain ⟨es', he, hm⟩ := hm
        obtain ⟨k1, k2, k3⟩ := lookKey_spec (w := w) hE h4 he
        have hkk := flat_eq k1 hk
        have hemp : es'.isEmpty = m.1.isEmpty := by
          have h1 := ER_length he
          rw [Bool.eq_iff_iff, List.isEmpty_iff, Array.isEmpty_iff, ← List.length_eq_zero_iff, ← Array.size_eq_zero_iff]
          simp at h1
          rw [h1]
        have out : ∀ (v v' : Value) (bb : Bool), VR E.P ρ v v' → VR E.P ρ (cond ok (.tuple #[v, .bool bb]) v) (if ok then .tuple #[v', .bool bb] else v') := by
          intro v v' bb hv
          cases ok
          · exact hv
          · show VR E.P ρ (.tuple #[v, .bool bb]) (.tuple #[v', .bool bb])
            simp only [VR]
            exact ⟨_, rfl, VRA_iff.2 ⟨v', _, rfl, hv, _, _, rfl, by simp [VR], rfl⟩⟩
        rcases k3 with ⟨rfl, k4⟩ | ⟨i, v, v', rfl, k4, k5⟩
        · cases hq
          refine lift (OkV.same h (v' := if ok then .tuple #[z, .bool false] else z) ?_ (out z z false (flat_VR hz2)))
          rw [hkk]
          rcases hm with ⟨hx, rfl⟩ | ⟨b, clock, hx, hb⟩
          · have hemp : m.1.isEmpty = true := by rw [← hemp]; rfl
            rw [hemp] at k2
            rw [hx]
            simp [Instr.lookup, run_underlying hu, k2, k4, run_zero hie hz1]
          · rw [hx]
            rw [← hemp] at k2
            simp [Instr.lookup, run_underlying hu, run_getMap hb, k2, k4, run_zero hie hz1]
        · cases hq
          refine lift (OkV.same h (v' := if ok then .tuple #[v', .bool true] else v') ?_ (out v v' true k5))
          rw [hkk]
          rcases hm with ⟨hx, rfl⟩ | ⟨b, clock, hx, hb⟩
          · have hemp : m.1.isEmpty = true := by rw [← hemp]; rfl
            rw [hemp] at k2
            rw [hx]
            simp [Instr.lookup, run_underlying hu, k2, k4]
          · rw [hx]
            rw [← hemp] at k2
            simp [Instr.lookup, run_underlying hu, run_getMap hb, k2, k4]
      · cases hq
    · cases hq
  | mapUpdate t m k x =>
    simp only [cOper] at hq
    split at hq
    · rename_i key elem z0 z1 z2 hd
      obtain ⟨it, hi, hu, _, _, _⟩ := hE.ty t _ hd
      obtain ⟨mv, h1, hq⟩ := ob_some.1 hq
      obtain ⟨kv, h2, hq⟩ := ob_some.1 hq
      obtain ⟨xv, h3, hq⟩ := ob_some.1 hq
      have hm := opd' h1
      have hk := opd' h2
      have hx := opd' h3
      match mv, hm, hq with
      | .map (some r), hm, hq =>
        obtain ⟨ms, h4, hq⟩ := ob_some.1 hq
        obtain ⟨f, h5, hq⟩ := ob_some.1 hq
        simp only [VR] at hm
        obtain ⟨p, hp, hm⟩ := hm
        obtain ⟨p', es', hp', g3, g4, g5, g6⟩ := mapOf_spec h h4
        rw [hp] at hp'; cases hp'
        obtain ⟨k1, k2, k3⟩ := lookKey_spec (w := w) hE h5 g4
        have hkk := flat_eq k1 hk
        rcases k3 with ⟨rfl, k4⟩ | ⟨i, v, v', rfl, k4, k5⟩
        · cases hq
          obtain ⟨r1, r2, r3⟩ := putO_spec (ob1 := .map (es'.push { key := kv, val := a.eval x, born := ms.2 }) (ms.2 + 1)) (o1 := .inr (.map (ms.1.push { key := kv, val := xv, born := ms.2 }) (ms.2 + 1))) h g6 rfl hp g3 (by simp)
            ⟨_, set_same (P := E.P) (h.plc r p hp).2, by simpa using ER_push (e := { key := kv, val := xv, born := ms.2 }) (e' := { key := kv, val := a.eval x, born := ms.2 }) g4 k1 rfl rfl hx⟩
          refine liftU ⟨ρ, _, (), ?_, trivial, r2, r3⟩
          rw [hm, hkk]
          simp [Instr.mapUpdate, run_underlying hu, run_getMap g3, k2, k4, r1]
        · cases hq
    · cases hq
  | range t x =>
    simp only [cOper] at hq
    split at hq
    · rename_i key elem z0 z1 z2 hd
      obtain ⟨it, hi, hu, _, _, _⟩ := hE.ty t _ hd
      obtain ⟨xv, h1, hq⟩ := ob_some.1 hq
      have hx := opd' h1
      match xv, hx, hq with
      | .map none, hx, hq =>
        obtain ⟨p, h2, hq⟩ := ob_some.1 hq
        cases hq
        simp only [VR] at hx
        obtain ⟨ρ', g1, g2, g3⟩ := h.newO (n := 0) (t := 0) h2 (hf (by show S.nx < p.2.nx; rw [(newO_spec h2).2.2.1]; omega)) hB (o' := .mapIter none 0 #[] 0) fun ρ' hle => ⟨none, rfl, get_alloc_new w _, .inl ⟨rfl, rfl⟩⟩
        refine lift ⟨ρ', _, .pointer (some ⟨w.heap.size, 0, none⟩), ?_, by simp only [VR]; exact ⟨_, g1, trivial, rfl⟩, g2, g3⟩
        rw [hx]
        simp [Instr.range, run_underlying hu]
      | .map (some r), hx, hq =>
        obtain ⟨ms, h4, hq⟩ := ob_some.1 hq
        obtain ⟨p, h2, hq⟩ := ob_some.1 hq
        cases hq
        simp only [VR] at hx
        obtain ⟨pm, hp, hx⟩ := hx
        obtain ⟨p', es', hp', g3, g4, g5, g6⟩ := mapOf_spec h h4
        rw [hp] at hp'; cases hp'
        obtain ⟨ρ', k1, k2, k3⟩ := h.newO (n := 0) (t := 0) h2 (hf (by show S.nx < p.2.nx; rw [(newO_spec h2).2.2.1]; omega)) hB (o' := .mapIter (some pm.b) ms.2 #[] ms.2) fun ρ' hle => ⟨some pm.b, rfl, get_alloc_new w _, .inr ⟨r, pm, rfl, hle _ _ hp, rfl⟩⟩
        refine lift ⟨ρ', _, .pointer (some ⟨w.heap.size, 0, none⟩), ?_, by simp only [VR]; exact ⟨_, k1, trivial, rfl⟩, k2, k3⟩
        rw [hx]
        simp [Instr.range, run_underlying hu, run_getMap g3]
    · cases hq
  | next it isS =>
    cases isS with
    | true => cases hq
    | false =>
      obtain ⟨iv, h1, hq⟩ := ob_some.1 (show ob ((opd E it).f τ) _ = some q from hq)
      obtain ⟨ad, h2, hq⟩ := ob_some.1 hq
      obtain ⟨h3, hq⟩ := iff_some.1 hq
      have h3 : ad.off = 0 := Nat.eq_of_beq_eq_true h3
      obtain ⟨o, h4, hq⟩ := ob_some.1 hq
      obtain ⟨p, hp, hx⟩ := VR_ptr h2 (opd' h1)
      have tf : VR E.P ρ (.tuple #[.bool false]) (.tuple #[.bool false]) := by
        simp only [VR]; exact ⟨_, rfl, VRA_iff.2 ⟨_, _, rfl, by simp [VR], rfl⟩⟩
      match o, h4, hq with
      | .inr (.mapIter none s0 s1 s2), h4, hq =>
        cases hq
        obtain ⟨p', hp', m', gs, g1, g2⟩ := h.at_ _ _ (ov_of h4) rfl
        rw [hp] at hp'; cases hp'
        have hm' : m' = none := by rcases g2 with ⟨_, g⟩ | ⟨_, _, g, _, _⟩; exact g; cases g
        subst hm'
        refine lift (OkV.same h (v' := .tuple #[.bool false]) ?_ tf)
        rw [hx, h3]
        exact next_none gs g1
      | .inr (.mapIter (some m) s0 s1 s2), h4, hq =>
        obtain ⟨ms, h5, hq⟩ := ob_some.1 hq
        obtain ⟨h6, hq⟩ := iff_some.1 hq
        cases hq
        obtain ⟨p', hp', m', gs, g1, g2⟩ := h.at_ _ _ (ov_of h4) rfl
        rw [hp] at hp'; cases hp'
        obtain ⟨p2, es', hp2, g3, g4, _, _⟩ := mapOf_spec h h5
        have hm' : m' = some p2.b := by
          rcases g2 with ⟨g, _⟩ | ⟨r, q, g, hr, g'⟩
          · cases g
          · injection g with g; subst g; rw [hp2] at hr; cases hr; exact g'
        subst hm'
        have he : es' = #[] := by
          have h1 := ER_length g4
          rw [Array.isEmpty_iff] at h6
          rw [h6] at h1
          simpa using h1
        subst he
        refine lift (OkV.same h (v' := .tuple #[.bool false]) ?_ tf)
        rw [hx, h3]
        exact next_empty gs g1 g3
  | extract t i =>
    obtain ⟨u, h1, hq⟩ := ob_some.1 (show ob ((opd E t).f τ) _ = some q from hq)
    cases u with
    | tuple vs =>
      obtain ⟨v, h2, rfl⟩ := val_some (show val vs[i]? S = some q from hq)
      have hx := opd' h1
      simp only [VR] at hx
      obtain ⟨cs', hx, h3⟩ := hx
      obtain ⟨v', r1, r2⟩ := VRL_get (VRA_iff.1 h3) i v (by simpa using h2)
      refine lift (OkV.same h (v' := v') ?_ r2)
      rw [hx]
      simp only [Array.getElem?_toList] at r1
      simp [Instr.extract, r1]
    | _ => cases hq
  | call c =>
    obtain ⟨b, hb⟩ := hnc c rfl
    have hq : (cCall E c type).f K Y τ S = some q := hq
    unfold cCall at hq
    rw [hb] at hq
    obtain ⟨ρ', w', x, r1, ⟨v', r2, r3⟩, r4, r5⟩ := builtin_spec hE h hq hf hB fun l hl => opds_spec ht hl
    refine ⟨ρ', w', x, ?_, .inl ⟨v', r2, r3⟩, r4, r5⟩
    simp only [execOp, resolve, hb, Sem.run_bind, Sem.run_pure, Result.andThen, invoke]
    have : (c.args.map a.eval) = (c.args.toList.map a.eval).toArray := by apply Array.ext'; simp
    rw [this]
    exact r1
  | _ => cases hq
end
end Go.Proofs.YtemldmjpanmdbaaGreatDoor.Ev
