import Derived.Test.YtemldmjpanmdbaaGreatDoorP9
import Derived.Laws.Append
set_option linter.unusedVariables false
namespace Go.Proofs.YtemldmjpanmdbaaGreatDoor.Ev
open Go.RowKit
section
variable {E : Env} {ρ ρ' : Ren} {B : Nat} {w w' : World} {S S' : St} {V : Hp}
/-! ### append, copy, clear -/
theorem lenV_spec {P : Program} {x c : Value} {n : Nat} (h : lenV x = some n) (hv : VR P ρ x c) : (Builtin.lenOf c).run P w = .ok n w := by
  match x, h with
  | .string s, h => cases h; simp only [VR] at hv; subst hv; rfl
  | .slice none m cap, h => cases h; simp only [VR] at hv; subst hv; rfl
  | .slice (some ⟨r, off, none⟩) m cap, h => cases h; simp only [VR] at hv; obtain ⟨p, _, rfl⟩ := hv; rfl
  | .slice (some ⟨r, off, some 0⟩) m cap, h => cases h; simp only [VR] at hv; obtain ⟨_, p, c', _, _, _, rfl⟩ := hv; rfl
  | .slice (some ⟨r, off, some (k + 1)⟩) m cap, h => cases h; simp only [VR] at hv; obtain ⟨rfl, _, a, c', rfl⟩ := hv; rfl
theorem run_cells {a : Addr} {P : Program} (ha : a.spot = none) (l : List Value) (h : ∀ (j : Nat) v, l[j]? = some v → w.cell? ⟨a.block, a.off + j, none⟩ = some v) : (loadCells a l.length).run P w = .ok l.toArray w := by
  refine run_loadCells_list (P := P) (w := w) a l fun j v hj => ?_
  have := h j v hj
  obtain ⟨b, o, s⟩ := a
  simp only at ha; subst ha
  unfold Addr.add
  split
  · rename_i h0; subst h0; simpa using this
  · simpa using this
theorem firstC_spec {P : Program} {size n m : Nat} {x c : Value} {l : List Value} (h : G P B ρ (ov (rdO S) V) w) (hl : firstC S size n x = some l) (hm : lenV x = some m) (hn : n ≤ m) (hv : VR P ρ x c) :
    ∃ l', (Builtin.firstCells size n c).run P w = .ok l'.toArray w ∧ VRL P ρ l l' := by
  match x, hl with
  | .string s, hl =>
    cases hl
    simp only [VR] at hv
    subst hv
    refine ⟨((s.extract 0 n).data.toList.map fun b => Value.int .u8 b.toNat), ?_, ?_⟩
    · simp only [Builtin.firstCells, Sem.run_pure]
      congr 1
      apply Array.ext'
      simp
    · have : ∀ (l : List UInt8), VRL P ρ (l.map fun b => Value.int .u8 b.toNat) (l.map fun b => Value.int .u8 b.toNat) := by
        intro l
        induction l with
        | nil => rfl
        | cons b l ih => exact ⟨_, _, rfl, by simp [VR], ih⟩
      exact this _
  | .slice none k cap, hl => cases hl; simp only [VR] at hv; subst hv; exact ⟨[], rfl, rfl⟩
  | .slice (some ⟨r, off, sp⟩) k cap, hl =>
    have hl : rdCs S r off (n * size) = some l := hl
    obtain ⟨p, l', hp, h1, h2, h3, h4⟩ := rdCs_spec h hl
    cases hm
    have hrun := run_cells (P := P) (w := w) (a := ⟨p.b, p.s + off, none⟩) rfl l' h4
    rw [h2] at hrun
    match sp, hv with
    | none, hv => simp only [VR] at hv; obtain ⟨p', hp', rfl⟩ := hv; rw [hp] at hp'; cases hp'; exact ⟨l', hrun, h1⟩
    | some 0, hv => simp only [VR] at hv; obtain ⟨_, p', c', hp', _, _, rfl⟩ := hv; rw [hp] at hp'; cases hp'; exact ⟨l', hrun, h1⟩
    | some (k + 1), hv =>
      simp only [VR] at hv
      obtain ⟨rfl, _, a, c', rfl⟩ := hv
      have hn0 : n = 0 := by omega
      subst hn0
      have : l' = [] := by cases l' with | nil => rfl | cons => simp at h2
      subst this
      exact ⟨[], by simp [Builtin.firstCells, loadCells, loadCellsFrom], h1⟩
theorem grow_spec : ∀ (n : Nat) (row : Row), (grow row n).t = row.t ∧ (grow row n).len = row.len ∧ (grow row n).d = row.d + n ∧ ∀ k, k < 2 ^ row.d → Tr.get (grow row n).d (grow row n).c k = Tr.get row.d row.c k
  | 0, row => ⟨rfl, rfl, rfl, fun _ _ => rfl⟩
  | n + 1, row => by
    obtain ⟨a, b, c, d⟩ := grow_spec n { row with d := Nat.add row.d 1, c := Tr.up row.c }
    refine ⟨a, b, by show (grow _ n).d = _; rw [c]; show row.d + 1 + n = _; omega, fun k hk => ?_⟩
    show Tr.get (grow _ n).d (grow _ n).c k = _
    rw [d k (by show k < 2 ^ (row.d + 1); rw [Nat.pow_succ]; omega)]
    exact Tr.get_up row.d k row.c hk
theorem appRow_spec {row row' : Row} {off m : Nat} {new : List Value} (h : appRow row off m new = some row') (hl : off + m ≤ row.len) (hd : row.len ≤ 2 ^ row.d) :
    (∀ v ∈ new, oneCell v = true) ∧ row'.t = row.t ∧ row'.len = m + new.length ∧ row'.len ≤ 2 ^ row'.d ∧
      ∀ k v, k < row'.len → Tr.get row'.d row'.c k = some v → (k < m ∧ Tr.get row.d row.c (off + k) = some v) ∨ (m ≤ k ∧ new[k - m]? = some v) := by
  unfold appRow at h
  cases h0 : Nat.beq off 0 <;> rw [h0] at h
  · obtain ⟨old, h1, h2⟩ := ob_some.1 (show ob _ _ = some row' from h)
    obtain ⟨a, b⟩ := cellsFrom_spec row m off old h1
    obtain ⟨c, d, e, f, g⟩ := rowOf_spec h2
    refine ⟨fun v hv => f v (by simp [hv]), c, by rw [d]; simp [a], e, fun k v hk hv => ?_⟩
    rw [g k hk] at hv
    by_cases hkm : k < m
    · rw [List.getElem?_append_left (by omega)] at hv
      exact .inl ⟨hkm, b k v hv⟩
    · rw [List.getElem?_append_right (by omega), a] at hv
      exact .inr ⟨by omega, hv⟩
  · have h0 : off = 0 := Nat.eq_of_beq_eq_true h0
    subst h0
    have h : appendRow row m new = some row' := h
    unfold appendRow at h
    obtain ⟨h1, h2⟩ := iff_some.1 h
    obtain ⟨c, h3, h4⟩ := ob_some.1 h2
    cases h4
    obtain ⟨g1, g2, g3, g4⟩ := grow_spec (Nat.sub (depth (Nat.add m new.length)) row.d) row
    have h1 : m + new.length ≤ 2 ^ (grow row (Nat.sub (depth (Nat.add m new.length)) row.d)).d := ble_iff.1 h1
    obtain ⟨k1, k2⟩ := setCells_spec _ _ _ _ h3 h1
    refine ⟨k1, g1, rfl, h1, fun k v hk hv => ?_⟩
    have hk : k < m + new.length := hk
    have hv : Tr.get _ c k = some v := hv
    rw [k2 k (by omega)] at hv
    by_cases hkm : k < m
    · rw [if_neg (by omega), g4 k (by omega)] at hv
      exact .inl ⟨hkm, by simpa using hv⟩
    · rw [if_pos (by omega)] at hv
      exact .inr ⟨by omega, hv⟩
theorem newO_dead {o : AO} {q : Nat × St} {b : Bool} {r : Nat} (hr : r < 4096) (h : newO (cond b (putO S r dead) S) o = some q) :
    S.nx < 4096 ∧ q.1 = S.nx ∧ q.2.nx = S.nx + 1 ∧ rdO q.2 = upd (cond b (upd (rdO S) r dead) (rdO S)) S.nx o := by
  cases b
  · exact newO_spec (S := S) h
  · obtain ⟨a, b, c, d⟩ := newO_spec (S := putO S r dead) h
    exact ⟨a, b, c, by rw [d]; show upd (rdO (putO S r dead)) S.nx o = _; rw [rdO_putO _ hr]; rfl⟩
theorem notInt (xd : TypeDesc) : (xd matches .int _) = isInt xd := by cases xd <;> rfl
/-- How the builtin goes, where there is no room. -/
theorem append_new_run {P : Program} {ts : Array TypeId} {ty t xt elem : TypeId} {xd : TypeDesc} {i : TypeInfo} {z : Value} {base : Option Addr} {sLen cap n : Nat} {x : Value} {old new : List Value}
    (h0 : ts[0]? = some t) (h1 : ts[1]? = some xt) (ht : P.underlying t = some (.slice elem)) (hxt : P.underlying xt = some xd) (hni : isInt xd = false) (hi : P.info? elem = some i) (hz : i.zero = some z)
    (hlen : ∀ w, (Builtin.lenOf x).run P w = .ok n w) (hold : (Builtin.firstCells i.size sLen (.slice base sLen cap)).run P w.drew = .ok old.toArray w.drew) (hnew : (Builtin.firstCells i.size n x).run P w.drew = .ok new.toArray w.drew)
    (hneed : cap < sLen + n) (hb : (sLen + n) * i.bytes ≤ 140737488355328) (h63 : sLen + n ≤ 9223372036854775806) :
    ∃ newCap, sLen + n ≤ newCap ∧ (Builtin.append_ ts ty #[.slice base sLen cap, x]).run P w =
      .ok (.slice (some ⟨w.heap.size, 0, none⟩) (sLen + n) newCap) (w.drew.alloc (.cells ((old ++ new).toArray ++ Builtin.zeroCells z.cells (newCap - (sLen + n))) elem)) := by
  refine ⟨sLen + n + (w.tape w.drawn (.appendCap (sLen + n) cap elem)) % (2 ^ 63 - (sLen + n)), by omega, ?_⟩
  have g1 : ¬ sLen + n ≤ cap := by omega
  have g2 : ¬ ((9223372036854775807 : Int) < ((sLen : Int) + n)) := by omega
  have g3 : ¬ (281474976710656 < Builtin.nextslicecap (sLen + n) cap * i.bytes) := by have := growslice_fits hneed hb; omega
  have hni' : ∀ k, xd ≠ .int k := fun k e => by rw [e] at hni; cases hni
  have hmi := notInt xd
  rw [hni] at hmi
  simp [Builtin.append_, h0, h1, run_underlying ht, run_underlying hxt, run_sizeOf hi, hlen, g1, typeInfo, hi, g2, g3, Question.forced, Question.cut, zeroValue, hz, Go.newRow]
  rw [hold]
  simp only [Result.andThen]
  rw [hnew]
  have h9 : (old ++ new).toArray = old.toArray ++ new.toArray := by simp
  simp only [h9, Array.append_assoc]
  rfl
/-- .. and where there is. -/
theorem append_room_run {P : Program} {ts : Array TypeId} {ty t xt elem : TypeId} {xd : TypeDesc} {i : TypeInfo} {base : Option Addr} {sLen cap n : Nat} {x : Value} {new : List Value}
    (h0 : ts[0]? = some t) (h1 : ts[1]? = some xt) (ht : P.underlying t = some (.slice elem)) (hxt : P.underlying xt = some xd) (hni : isInt xd = false) (hi : P.info? elem = some i)
    (hlen : ∀ w, (Builtin.lenOf x).run P w = .ok n w) (hnew : (Builtin.firstCells i.size n x).run P w = .ok new.toArray w) (hneed : sLen + n ≤ cap) :
    (Builtin.append_ ts ty #[.slice base sLen cap, x]).run P w =
      match base with
      | none => .ok (.slice none (sLen + n) cap) w
      | some a => ((storeCells (a.add (sLen * i.size)) new).run P w).andThen fun _ w' => .ok (.slice (some a) (sLen + n) cap) w' := by
  have hmi := notInt xd
  rw [hni] at hmi
  have hni' : ∀ k, xd = .int k → False := fun k e => by rw [e] at hni; cases hni
  cases base <;> simp [Builtin.append_, h0, h1, run_underlying ht, run_underlying hxt, run_sizeOf hi, hlen, hneed, hnew]
theorem storeCells_nil {P : Program} (a : Addr) : (storeCells a []).run P w = .ok () w := rfl
/-- The new row of an append, where nobody else has its block. -/
theorem app_put {P : Program} {p : Pl} {row row' : Row} {off m r : Nat} {new new' : List Value} {q : Nat × St} {dd : Bool} {cc : Array Value} {n : Nat} {b : Nat} {s : Nat} (h : GS P B ρ S V w) (hrow : rdR S r = some row) (hp : ρ r = some p)
    (hq : newO (cond dd (putO S r dead) S) (.inl row') = some q) (hf : ρ S.nx = none)
    (ha : (∀ v ∈ new, oneCell v = true) ∧ row'.t = row.t ∧ row'.len = m + new.length ∧ row'.len ≤ 2 ^ row'.d ∧
      ∀ k v, k < row'.len → Tr.get row'.d row'.c k = some v → (k < m ∧ Tr.get row.d row.c (off + k) = some v) ∨ (m ≤ k ∧ new[k - m]? = some v))
    (hnew : VRL P ρ new new') (hoff : off + m ≤ row.len)
    (hw : w'.heap[b]? = some (.cells cc row.t (0, 0))) (hcc : cc.size = n) (hfit : s + (m + new.length) ≤ n) (hB : B ≤ b) (hlt : b < w'.heap.size) (hsz : w.heap.size ≤ w'.heap.size)
    (hheap : ∀ k, k ≠ b → k < w.heap.size → w'.heap[k]? = w.heap[k]?) (hb : b = w.heap.size ∨ (dd = true ∧ b = p.b)) (hbel : Below B w w')
    (hold : ∀ c0, w.heap[p.b]? = some (.cells c0 row.t (0, 0)) → c0.size = p.n → p.s + row.len ≤ p.n → ∀ k, k < m → cc[s + k]? = c0[p.s + off + k]?)
    (hn : ∀ k, k < new'.length → cc[s + m + k]? = new'[k]?) :
    ∃ ρ', ρ' q.1 = some ⟨b, s, n, row.t⟩ ∧ GS P B ρ' q.2 V w' ∧ Nx B ρ ρ' S.nx q.2.nx w w' := by
  have hlt0 : r < 4096 := rdO_lt (rdR_some.1 hrow)
  obtain ⟨g1, g2, g3, g4⟩ := newO_dead hlt0 hq
  have hle := Ren.le_put ⟨b, s, n, row.t⟩ hf
  obtain ⟨p1, hp1, c0, o1, o2, o3, o4, o5, o6⟩ := h.of_row hrow
  rw [hp] at hp1; cases hp1
  obtain ⟨a1, a2, a3, a4, a5⟩ := ha
  have hG1 : G P B ρ (ov (cond dd (upd (rdO S) r dead) (rdO S)) V) w := by
    cases dd
    · exact h
    · show G P B ρ (ov (upd (rdO S) r dead) V) w
      rw [ov_upd]; exact h.kill r rfl
  refine ⟨ρ.put S.nx ⟨b, s, n, row.t⟩, by rw [g2]; simp [Ren.put], ?_, ⟨hle, hbel, fun k hk hkn => ?_, by omega⟩⟩
  · show G P B _ (ov (rdO q.2) V) _
    rw [g4, ov_upd]
    refine hG1.put (p := ⟨b, s, n, row.t⟩) hle (by simp [Ren.put]) (fun k hk => by simp [Ren.put, hk]) hB hlt hsz hheap ?_ ?_
    · intro k ok pk hkr hk hd hpk
      show pk.b ≠ b
      rcases hb with rfl | ⟨rfl, rfl⟩
      · have := (h.plc k pk hpk).2
        omega
      · have hkr2 : k ≠ r := by
          intro e
          subst e
          have hk : ov (upd (rdO S) k dead) V k = some ok := hk
          have : ov (upd (rdO S) k dead) V k = some dead := by simp [ov, upd]
          rw [this] at hk
          cases hk; cases hd
        have hk' : ov (rdO S) V k = some ok := by
          have hk : ov (upd (rdO S) r dead) V k = some ok := hk
          have : ov (upd (rdO S) r dead) V k = ov (rdO S) V k := by simp [ov, upd, hkr2]
          rw [← this]; exact hk
        exact h.apart k r ok (.inl row) pk p hkr2 hk' hd (ov_of (rdR_some.1 hrow)) rfl hpk hp
    · refine ⟨cc, by rw [a2]; exact hw, hcc, a2.symm, by show s + row'.len ≤ n; omega, a4, fun k v hk hv => ?_⟩
      rcases a5 k v hk hv with ⟨b1, b2⟩ | ⟨b1, b2⟩
      · obtain ⟨v', u1, u2⟩ := o6 (off + k) v (by omega) b2
        refine ⟨v', ?_, VR_mono hle _ _ u2⟩
        show cc[s + k]? = some v'
        rw [hold c0 o1 o2 o4 k b1, Nat.add_assoc]; exact u1
      · obtain ⟨v', u1, u2⟩ := VRL_get hnew _ v b2
        refine ⟨v', ?_, VR_mono hle _ _ u2⟩
        show cc[s + k]? = some v'
        have h9 := hn (k - m) (List.getElem?_eq_some_iff.1 u1).1
        rw [show s + m + (k - m) = s + k by omega] at h9
        rw [h9]; exact u1
  · have : k ≠ S.nx := by omega
    simp [Ren.put, this, hk]
theorem append_spec (hE : EnvOk E) {ts : Array TypeId} {ty t xt elem : TypeId} {d de dx : Dg} {s x c e : Value} {q : Value × St} {z : Value} (h : GS E.P B ρ S V w)
    (h0 : ts[0]? = some t) (h1 : ts[1]? = some xt) (hd : E.dg t = some d) (hu' : d.und = .slice elem) (hde : E.dg elem = some de) (hz' : de.zero = some z) (hzs : z.cells.size = de.size) (hdx : E.dg xt = some dx) (hni : isInt dx.und = false)
    (hq : aAppend E S elem de.size de.bytes s x = some q) (hs : VR E.P ρ s c) (hx : VR E.P ρ x e) (hf : S.nx < q.2.nx → ρ S.nx = none) (hB : B ≤ w.heap.size) : OkV E.P B ρ S V w (Builtin.append_ ts ty #[c, e]) q.1 q.2 := by
  obtain ⟨i, hi0, hu, _, _, _⟩ := hE.ty t _ hd
  obtain ⟨ix, hix, hux, _, _, _⟩ := hE.ty xt _ hdx
  obtain ⟨ie, hie, _, hse, hbe, hz⟩ := hE.ty _ _ hde
  obtain ⟨hz1, hz2⟩ := hz z hz'
  have hut : E.P.underlying t = some (.slice elem) := by rw [hu, hu']
  have hco : E.P.cellsOf elem = de.size := by rw [cellsOf_eq hie, hse]
  cases s with
  | slice base sLen sCap =>
    obtain ⟨n, g1, hq⟩ := ob_some.1 (show ob (lenV x) _ = some q from hq)
    obtain ⟨new, g2, hq⟩ := ob_some.1 hq
    have hq : cond (Nat.ble (Nat.add sLen n) sCap) _ _ = some q := hq
    have hlen : ∀ w, (Builtin.lenOf e).run E.P w = .ok n w := fun w => lenV_spec g1 hx
    obtain ⟨new', n1, n2⟩ := firstC_spec h g2 g1 (Nat.le_refl _) hx
    obtain ⟨new1, n3, n4⟩ := firstC_spec h.drew g2 g1 (Nat.le_refl _) hx
    rw [← hse] at n1 n3
    cases hneed : Nat.ble (Nat.add sLen n) sCap <;> rw [hneed] at hq <;> simp only [cond_true, cond_false] at hq
    · have hneed : ¬ sLen + n ≤ sCap := fun hh => by rw [show Nat.ble (Nat.add sLen n) sCap = true from ble_iff.2 hh] at hneed; cases hneed
      obtain ⟨g3, hq⟩ := iff_some.1 hq
      simp only [Bool.and_eq_true] at g3
      have g4 : (sLen + n) * ie.bytes ≤ 140737488355328 := by rw [hbe]; exact ble_iff.1 g3.1.1
      have g5 : sLen + n ≤ 9223372036854775806 := ble_iff.1 g3.1.2
      have g6 : new.length = n * de.size := Nat.eq_of_beq_eq_true g3.2
      have l1 : new1.length = new.length := VRL_length n4
      have l2 : new'.length = new.length := VRL_length n2
      -- a new block, whatever stood ahead
      have fresh : ∀ (old : List Value) (cap : Nat) (bs : Option Addr), cap < sLen + n → (Builtin.firstCells ie.size sLen (.slice bs sLen cap)).run E.P w.drew = .ok old.toArray w.drew → old.length = sLen * de.size →
          ∃ newCap, sLen + n ≤ newCap ∧ (Builtin.append_ ts ty #[.slice bs sLen cap, e]).run E.P w =
            .ok (.slice (some ⟨w.heap.size, 0, none⟩) (sLen + n) newCap) (w.drew.alloc (.cells ((old ++ new1).toArray ++ Builtin.zeroCells z.cells (newCap - (sLen + n))) elem)) := fun old cap bs hc ho _ =>
        append_new_run h0 h1 hut hux hni hie hz1 hlen ho n3 hc g4 g5
      have size : ∀ (old : List Value) (newCap : Nat), old.length = sLen * de.size → sLen + n ≤ newCap → ((old ++ new1).toArray ++ Builtin.zeroCells z.cells (newCap - (sLen + n))).size = newCap * de.size := by
        intro old newCap ho hc
        simp only [Array.size_append, List.size_toArray, List.length_append, Builtin.zeroCells, Array.size_map, Array.size_range, ho, l1, g6, hzs]
        rw [← Nat.add_mul, ← Nat.add_mul]; congr 1; omega
      have hbelA : ∀ o, Below B w (w.drew.alloc o) := fun o => ((Below.refl B w).drew).alloc hB o
      match base, hs, hq with
      | none, hs, hq =>
        obtain ⟨k1, hq⟩ := iff_some.1 hq
        have k1 : sLen = 0 := Nat.eq_of_beq_eq_true k1
        subst k1
        obtain ⟨p, k2, hq⟩ := ob_some.1 hq
        cases hq
        have hf := hf (by show S.nx < p.2.nx; rw [newRow_nx k2]; omega)
        simp only [VR] at hs
        subst hs
        obtain ⟨newCap, c1, c2⟩ := fresh [] sCap none (by omega) rfl (by simp)
        have hr0 := newRow_spec h k2 n2 hf hB
        -- the row with its room
        obtain ⟨row, r1, r2⟩ := ob_some.1 (show ob (rowOf elem new) _ = some p from k2)
        obtain ⟨a, b, c, dd, ee⟩ := rowOf_spec r1
        obtain ⟨ρ', y1, y2, y3⟩ := h.drew.newO (n := newCap * de.size) (t := elem) r2 hf (show B ≤ w.drew.heap.size from hB) (o' := .cells (([] ++ new1).toArray ++ Builtin.zeroCells z.cells (newCap - (0 + n))) elem) fun ρ' hle => by
          refine ⟨_, by rw [a]; exact get_alloc_new w.drew _, size [] newCap (by simp) c1, a.symm, ?_, c, fun x v hx hv => ?_⟩
          · show 0 + row.len ≤ _
            rw [b, g6, Nat.zero_add]; exact Nat.mul_le_mul_right _ (by omega)
          · rw [ee x hx] at hv
            obtain ⟨v', u1, u2⟩ := VRL_get n4 x v hv
            refine ⟨v', ?_, VR_mono hle _ _ u2⟩
            have hx1 : x < new1.length := (List.getElem?_eq_some_iff.1 u1).1
            show (_ ++ _ : Array Value)[0 + x]? = _
            rw [Array.getElem?_append_left (by simp; omega)]
            simpa using u1
        refine ⟨ρ', _, _, c2, ?_, y2, (Nx.drew B ρ S.nx w).trans y3⟩
        simp only [VR]
        refine ⟨Nat.le_refl _, _, newCap, y1, c1, ?_, rfl⟩
        show 0 + 0 + newCap * E.P.cellsOf elem ≤ newCap * de.size
        rw [hco]; omega
      | some ⟨r, off, some (k + 1)⟩, hs, hq => cases hq
      | some ⟨r, off, none⟩, hs, hq =>
        obtain ⟨row, k1, hq⟩ := ob_some.1 hq
        obtain ⟨k2, hq⟩ := iff_some.1 hq
        simp only [Bool.and_eq_true] at k2
        have k3 : off + sLen * de.size ≤ row.len := ble_iff.1 k2.1
        have k4 : row.t = elem := Nat.eq_of_beq_eq_true k2.2
        obtain ⟨row', k5, hq⟩ := ob_some.1 hq
        obtain ⟨p, k6, hq⟩ := ob_some.1 hq
        cases hq
        have hf := hf (by show S.nx < p.2.nx; rw [(newO_dead (rdO_lt (rdR_some.1 k1)) k6).2.2.1]; omega)
        simp only [VR] at hs
        obtain ⟨pl, hpl, rfl⟩ := hs
        obtain ⟨p1, hp1, c0, o1, o2, o3, o4, o5, o6⟩ := h.of_row k1
        rw [hpl] at hp1; cases hp1
        have hold : (Builtin.firstCells ie.size sLen (.slice (some ⟨pl.b, pl.s + off, none⟩) sLen sCap)).run E.P w.drew = .ok ((c0.toList.drop (pl.s + off)).take (sLen * de.size)).toArray w.drew := by
          have hl0 : ((c0.toList.drop (pl.s + off)).take (sLen * de.size)).length = sLen * de.size := by simp only [List.length_take, List.length_drop, Array.length_toList]; omega
          have := run_cells (P := E.P) (w := w.drew) (a := ⟨pl.b, pl.s + off, none⟩) rfl ((c0.toList.drop (pl.s + off)).take (sLen * de.size)) fun j v hj => by
            have hjl : j < sLen * de.size := by rw [← hl0]; exact (List.getElem?_eq_some_iff.1 hj).1
            rw [List.getElem?_take_of_lt hjl, List.getElem?_drop, Array.getElem?_toList] at hj
            exact cell_of (p := pl) (w := w.drew) o1 hj
          rw [hl0] at this
          simpa [Builtin.firstCells, hse] using this
        have hl0 : ((c0.toList.drop (pl.s + off)).take (sLen * de.size)).length = sLen * de.size := by simp only [List.length_take, List.length_drop, Array.length_toList]; omega
        obtain ⟨newCap, c1, c2⟩ := fresh _ sCap _ (by omega) hold hl0
        have hsz := size _ newCap hl0 c1
        obtain ⟨ρ', y1, y2, y3⟩ := app_put (m := sLen * de.size) (w' := w.drew.alloc (.cells (((c0.toList.drop (pl.s + off)).take (sLen * de.size) ++ new1).toArray ++ Builtin.zeroCells z.cells (newCap - (sLen + n))) elem)) (b := w.heap.size) (s := 0) (n := newCap * de.size) h k1 hpl (dd := false) k6 hf
          (appRow_spec (m := sLen * de.size) k5 k3 o5) n4 k3 (by rw [k4]; exact get_alloc_new w.drew _) hsz (by rw [g6, ← Nat.add_mul, Nat.zero_add]; exact Nat.mul_le_mul_right _ c1) hB (by simp) (by simp) (fun k hk hlt => Below.heap_alloc w.drew _ k hlt) (.inl rfl) (hbelA _)
          (fun c1' hc1 hc2 hc3 k hk => by
            rw [o1] at hc1
            cases hc1
            rw [Array.getElem?_append_left (by simp only [List.size_toArray, List.length_append, hl0]; omega), Nat.zero_add, List.getElem?_toArray, List.getElem?_append_left (by rw [hl0]; exact hk), List.getElem?_take_of_lt hk, List.getElem?_drop, Array.getElem?_toList])
          (fun k hk => by
            rw [Array.getElem?_append_left (by simp only [List.size_toArray, List.length_append, hl0]; omega), List.getElem?_toArray, List.getElem?_append_right (by rw [hl0]; omega), hl0]
            congr 1; omega)
        refine ⟨ρ', _, _, c2, ?_, y2, y3⟩
        simp only [VR]
        refine ⟨Nat.le_refl _, _, newCap, y1, c1, ?_, rfl⟩
        show 0 + 0 + newCap * E.P.cellsOf row.t ≤ newCap * de.size
        rw [k4, hco]; omega
      | some ⟨r, off, some 0⟩, hs, hq =>
        obtain ⟨row, k1, hq⟩ := ob_some.1 hq
        obtain ⟨k2, hq⟩ := iff_some.1 hq
        simp only [Bool.and_eq_true] at k2
        have k3 : off + sLen * de.size ≤ row.len := ble_iff.1 k2.1
        have k4 : row.t = elem := Nat.eq_of_beq_eq_true k2.2
        obtain ⟨row', k5, hq⟩ := ob_some.1 hq
        obtain ⟨p, k6, hq⟩ := ob_some.1 hq
        cases hq
        have hf := hf (by show S.nx < p.2.nx; rw [(newO_dead (rdO_lt (rdR_some.1 k1)) k6).2.2.1]; omega)
        simp only [VR] at hs
        obtain ⟨hlc, pl, cap', hpl, hcc, hbd, rfl⟩ := hs
        obtain ⟨p1, hp1, c0, o1, o2, o3, o4, o5, o6⟩ := h.of_row k1
        rw [hpl] at hp1; cases hp1
        have hbd : pl.s + off + cap' * de.size ≤ pl.n := by rw [o3, k4, hco] at hbd; exact hbd
        have hplc := h.plc r pl hpl
        by_cases hroom : sLen + n ≤ cap'
        · -- in its place
          have hrun := append_room_run (ty := ty) (base := some ⟨pl.b, pl.s + off, none⟩) h0 h1 hut hux hni hie hlen n1 hroom
          have hmul : (sLen + n) * de.size ≤ cap' * de.size := Nat.mul_le_mul_right _ hroom
          have hmul2 : (sLen + n) * de.size = sLen * de.size + n * de.size := Nat.add_mul _ _ _
          have happ := appRow_spec (m := sLen * de.size) k5 k3 o5
          have hst := run_storeCells_at E.P pl.b (pl.s + off + sLen * de.size) row.t new' 0 c0 w o1 (by omega) (oneCell_VRL happ.1 n2)
          simp only [Nat.add_zero] at hst
          have hadd : Addr.add ⟨pl.b, pl.s + off, none⟩ (sLen * ie.size) = ⟨pl.b, pl.s + off + sLen * de.size, none⟩ := by rw [Addr.add_lit, hse]
          simp only [hadd, hst] at hrun
          have hcc0 : ((c0.toList.take (pl.s + off + sLen * de.size) ++ new' ++ c0.toList.drop (pl.s + off + sLen * de.size + new'.length)).toArray).size = pl.n := by
            simp only [List.size_toArray, List.length_append, List.length_take, List.length_drop, Array.length_toList]; omega
          obtain ⟨ρ', y1, y2, y3⟩ := app_put (m := sLen * de.size) (w' := w.setRow pl.b _) (b := pl.b) (s := pl.s + off) (n := pl.n) h k1 hpl (dd := true) k6 hf happ n2 k3 (setRow_heap w pl.b c0 _ row.t (0, 0) o1) hcc0 (by omega) hplc.1 (by rw [setRow_size]; exact hplc.2)
            (by rw [setRow_size]; exact Nat.le_refl _) (fun k hk _ => setRow_other w pl.b k _ hk) (.inr ⟨rfl, rfl⟩) ⟨rfl, rfl, rfl, by rw [setRow_size]; exact Nat.le_refl _, fun k hk => setRow_other w pl.b k _ (by have := hplc.1; omega)⟩
            (fun c1' hc1 hc2 hc3 k hk => by
              rw [o1] at hc1
              cases hc1
              rw [List.getElem?_toArray, List.append_assoc, List.getElem?_append_left (by simp only [List.length_take, Array.length_toList]; omega), List.getElem?_take_of_lt (by omega), Array.getElem?_toList])
            (fun k hk => by
              have hlt : (c0.toList.take (pl.s + off + sLen * de.size)).length = pl.s + off + sLen * de.size := by simp only [List.length_take, Array.length_toList]; omega
              rw [List.getElem?_toArray, List.append_assoc, List.getElem?_append_right (by rw [hlt]; omega), hlt, List.getElem?_append_left (by omega)]
              congr 1; omega)
          refine ⟨ρ', _, _, hrun, ?_, y2, y3⟩
          simp only [VR]
          refine ⟨Nat.le_refl _, _, cap', y1, hroom, ?_, by simp⟩
          show pl.s + off + 0 + cap' * E.P.cellsOf row.t ≤ pl.n
          rw [k4, hco]; omega
        · have hl0 : ((c0.toList.drop (pl.s + off)).take (sLen * de.size)).length = sLen * de.size := by simp only [List.length_take, List.length_drop, Array.length_toList]; omega
          have hold : (Builtin.firstCells ie.size sLen (.slice (some ⟨pl.b, pl.s + off, none⟩) sLen cap')).run E.P w.drew = .ok ((c0.toList.drop (pl.s + off)).take (sLen * de.size)).toArray w.drew := by
            have := run_cells (P := E.P) (w := w.drew) (a := ⟨pl.b, pl.s + off, none⟩) rfl ((c0.toList.drop (pl.s + off)).take (sLen * de.size)) fun j v hj => by
              have hjl : j < sLen * de.size := by rw [← hl0]; exact (List.getElem?_eq_some_iff.1 hj).1
              rw [List.getElem?_take_of_lt hjl, List.getElem?_drop, Array.getElem?_toList] at hj
              exact cell_of (p := pl) (w := w.drew) o1 hj
            rw [hl0] at this
            simpa [Builtin.firstCells, hse] using this
          obtain ⟨newCap, c1, c2⟩ := fresh _ cap' _ (by omega) hold hl0
          have hsz := size _ newCap hl0 c1
          obtain ⟨ρ', y1, y2, y3⟩ := app_put (m := sLen * de.size) (w' := w.drew.alloc (.cells (((c0.toList.drop (pl.s + off)).take (sLen * de.size) ++ new1).toArray ++ Builtin.zeroCells z.cells (newCap - (sLen + n))) elem)) (b := w.heap.size) (s := 0) (n := newCap * de.size) h k1 hpl (dd := true) k6 hf
            (appRow_spec (m := sLen * de.size) k5 k3 o5) n4 k3 (by rw [k4]; exact get_alloc_new w.drew _) hsz (by rw [g6, ← Nat.add_mul, Nat.zero_add]; exact Nat.mul_le_mul_right _ c1) hB (by simp) (by simp) (fun k hk hlt => Below.heap_alloc w.drew _ k hlt) (.inl rfl) (hbelA _)
            (fun c1' hc1 hc2 hc3 k hk => by
              rw [o1] at hc1
              cases hc1
              rw [Array.getElem?_append_left (by simp only [List.size_toArray, List.length_append, hl0]; omega), Nat.zero_add, List.getElem?_toArray, List.getElem?_append_left (by rw [hl0]; exact hk), List.getElem?_take_of_lt hk, List.getElem?_drop, Array.getElem?_toList])
            (fun k hk => by
              rw [Array.getElem?_append_left (by simp only [List.size_toArray, List.length_append, hl0]; omega), List.getElem?_toArray, List.getElem?_append_right (by rw [hl0]; omega), hl0]
              congr 1; omega)
          refine ⟨ρ', _, _, c2, ?_, y2, y3⟩
          simp only [VR]
          refine ⟨Nat.le_refl _, _, newCap, y1, c1, ?_, rfl⟩
          show 0 + 0 + newCap * E.P.cellsOf row.t ≤ newCap * de.size
          rw [k4, hco]; omega
    · have hneed : sLen + n ≤ sCap := ble_iff.1 hneed
      match base, hs, hq with
      | none, hs, hq =>
        cases hq
        simp only [VR] at hs
        subst hs
        exact OkV.same h (append_room_run h0 h1 hut hux hni hie hlen n1 hneed) (by simp [VR])
      | some ⟨r, off, some (k + 1)⟩, hs, hq =>
        obtain ⟨hemp, hq⟩ := iff_some.1 hq
        cases hq
        simp only [VR] at hs
        obtain ⟨rfl, rfl, a, c', rfl⟩ := hs
        have hn0 : n = 0 := by omega
        subst hn0
        have hnew0 : (Builtin.firstCells ie.size 0 e).run E.P w = .ok (([] : List Value)).toArray w := by
          rw [n1]
          have : new' = [] := by
            have : new = [] := by simpa using hemp
            subst this
            exact n2
          rw [this]
        refine OkV.same h (v' := .slice (some a) 0 c') ?_ (by simp only [VR]; exact ⟨trivial, trivial, a, c', rfl⟩)
        rw [append_room_run h0 h1 hut hux hni hie hlen hnew0 (by omega)]
        rfl
      | some ⟨r, off, none⟩, hs, hq =>
        obtain ⟨S1, k1, hq⟩ := ob_some.1 hq
        cases hq
        simp only [VR] at hs
        obtain ⟨p, hp, rfl⟩ := hs
        obtain ⟨p', w', hp', k2, k3, k4, _⟩ := wrCs_spec h k1 n2
        rw [hp] at hp'; cases hp'
        refine ⟨ρ, w', .slice (some ⟨p.b, p.s + off, none⟩) (sLen + n) sCap, ?_, ?_, k3, k4⟩
        · rw [append_room_run h0 h1 hut hux hni hie hlen n1 hneed]
          have : Addr.add ⟨p.b, p.s + off, none⟩ (sLen * ie.size) = ⟨p.b, p.s + (off + sLen * de.size), none⟩ := by rw [Addr.add_lit, hse]; congr 1; omega
          simp only [this]
          have k2 : (storeCells ⟨p.b, p.s + (off + sLen * de.size), none⟩ new').run E.P w = .ok () w' := k2
          rw [k2]; rfl
        · simp only [VR]; exact ⟨p, hp, rfl⟩
      | some ⟨r, off, some 0⟩, hs, hq =>
        obtain ⟨S1, k1, hq⟩ := ob_some.1 hq
        cases hq
        simp only [VR] at hs
        obtain ⟨hlc, p, cap', hp, hcc, hbd, rfl⟩ := hs
        obtain ⟨p', w', hp', k2, k3, k4, _⟩ := wrCs_spec h k1 n2
        rw [hp] at hp'; cases hp'
        refine ⟨ρ, w', .slice (some ⟨p.b, p.s + off, none⟩) (sLen + n) cap', ?_, ?_, k3, k4⟩
        · rw [append_room_run h0 h1 hut hux hni hie hlen n1 (by omega)]
          have : Addr.add ⟨p.b, p.s + off, none⟩ (sLen * ie.size) = ⟨p.b, p.s + (off + sLen * de.size), none⟩ := by rw [Addr.add_lit, hse]; congr 1; omega
          simp only [this]
          have k2 : (storeCells ⟨p.b, p.s + (off + sLen * de.size), none⟩ new').run E.P w = .ok () w' := k2
          rw [k2]; rfl
        · simp only [VR]; exact ⟨hneed, p, cap', hp, hcc, hbd, rfl⟩
  | _ => cases hq
end
end Go.Proofs.YtemldmjpanmdbaaGreatDoor.Ev
