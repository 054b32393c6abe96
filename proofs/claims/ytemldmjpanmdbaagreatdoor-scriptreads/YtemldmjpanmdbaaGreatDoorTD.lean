/- ScriptReads, walked. -/
import Derived.Test.YtemldmjpanmdbaaGreatDoorTC
import Derived.Test.YtemldmjpanmdbaaGreatDoorTB
import Derived.Test.YtemldmjpanmdbaaGreatDoorSB
import Derived.Test.YtemldmjpanmdbaaGreatDoorKa
namespace Go.Proofs.YtemldmjpanmdbaaGreatDoor
open Go.RowKit
set_option linter.unusedVariables false

/-- What is read, and the error. -/
def rdS (zs : List Int) : Scr := (readP zs).getD sc0
def rdE (zs : List Int) : Int := if (readP zs).isSome then 0 else 231
theorem ReadR.is {zs : List Int} {w w' : World} {x : Ending} (h : ReadR zs w x w') : (∃ ao cap, x = .returned (.tuple #[scV (rdS zs) ao (rdS zs).ss.length cap, .int .i64 (rdE zs)]) ∧ RdR stC w' ao cap (rdS zs).ss) ∧ Below w.heap.size w w' := by
  obtain ⟨h1, h2⟩ := h
  refine ⟨?_, h2⟩
  unfold rdS rdE
  cases hr : readP zs with
  | none =>
    rw [hr] at h1
    exact ⟨none, 0, h1, RdR.empty w'⟩
  | some S =>
    rw [hr] at h1
    exact h1
theorem ReadQ.is {zs : List Int} {w w' : World} {x : Ending} (hb : ∀ z ∈ zs, 0 ≤ z ∧ z < 256) (h : ReadQ zs w x w') : (∃ ao cap, x = .returned (.tuple #[scV (rdS zs) ao (rdS zs).ss.length cap, .int .i64 (rdE zs)]) ∧ RdR stC w' ao cap (rdS zs).ss) ∧ Below w.heap.size w w' := by
  refine ReadR.is ?_
  unfold ReadR
  rw [read_same zs hb]
  exact h
theorem rd_words {zs : List Int} (hb : ∀ z ∈ zs, 0 ≤ z ∧ z < 256) : ∀ s ∈ (rdS zs).ss, wordB s.v := by
  unfold rdS
  cases hr : readP zs with
  | none => intro s hs; simp at hs
  | some S =>
    unfold readP at hr
    split at hr
    · split at hr
      · rename_i ss r ht
        split at hr
        · cases hr
          exact (takeS2_some _ (fun z hz => hb z (List.mem_of_mem_drop hz)) ht).2.2
        · cases hr
      · cases hr
    · cases hr

set_option maxHeartbeats 1600000 in
set_option maxRecDepth 100000 in
theorem reads_any (a0 : Option Addr) (c0 n0 : Nat) (zs : List Int) (w : World) (r0 : RdI w .u8 a0 c0 zs) (l0 : zs.length = n0) (hb : ∀ z ∈ zs, 0 ≤ z ∧ z < 256) :
    Calls Tryz.prog 4 #[.slice a0 n0 c0] w fun e w' => e = .returned (.bool true) ∧ Below w.heap.size w w' := by
  have HR : Hid (RdI w .u8 a0 c0 zs ∧ ∀ z ∈ zs, 0 ≤ z ∧ z < 256) := ⟨r0, hb⟩
  have hle := r0.le
  have HW : Hid (∀ s ∈ (rdS zs).ss, wordB s.v) := rd_words hb
  clear r0 hb
  by_cases h8 : 8000 < n0
  · go_enter Tryz.func4, Tryz.ntmps4
    go_wp2_with (first
      | (go_at_call 5; refine (alive_any _).mono ?_; rintro x w1 ⟨rfl, hb1⟩))
    go_ret
    exact ⟨rfl, hb1⟩
  · generalize hS : rdS zs = S at *
    generalize hE : rdE zs = E at *
    have HSE : Hid (rdS zs = S ∧ rdE zs = E) := ⟨hS, hE⟩
    clear hS hE
    obtain ⟨c, f, m, p, r, ss⟩ := S
    have H7 : Hid (∀ (U : World) (a : Option Addr) (d : Nat), RdI U .u8 a d zs → Calls Tryz.prog 7 #[.slice a n0 d] U fun x w' => (∃ ao cap, x = .returned (.tuple #[scV ⟨c, f, m, p, r, ss⟩ ao ss.length cap, .int .i64 E]) ∧ RdR stC w' ao cap ss) ∧ Below U.heap.size U w') := by
      intro U a d h
      refine (sread_any a d n0 zs U h l0 HR.out.2 (by omega)).mono fun x w' hx => ?_
      have := hx.is
      rw [HSE.out.1, HSE.out.2] at this
      exact this
    have H8 : Hid (∀ (U : World) (a : Option Addr) (d : Nat), RdI U .u8 a d zs → Calls Tryz.prog 8 #[.slice a n0 d] U fun x w' => (∃ ao cap, x = .returned (.tuple #[scV ⟨c, f, m, p, r, ss⟩ ao ss.length cap, .int .i64 E]) ∧ RdR stC w' ao cap ss) ∧ Below U.heap.size U w') := by
      intro U a d h
      refine (refRead_any a d n0 zs U h l0 HR.out.2 (by omega)).mono fun x w' hx => ?_
      have := hx.is HR.out.2
      rw [HSE.out.1, HSE.out.2] at this
      exact this
    go_enter Tryz.func4, Tryz.ntmps4
    go_upto_region 5 with (first
      | (go_at_call 5; refine (alive_any _).mono ?_; rintro x w1 ⟨rfl, hb1⟩))
    have HB1 : Hid (Below w.heap.size w w1) := hb1
    have hz1 := hb1.size
    clear hb1
    go_upto_region 6 with (first
      | (at_builtin; refine wpList_append_rdI _ rfl (.tmp 13) (.tmp 14) 29 rfl w1.heap.size 5 .u8 (.int .u8 0) 1 Tryz.underlying29 info5 rfl (n := 0) (m := n0) rfl rfl (OwnI.fresh w1 _ _ _ (Nat.le_refl _)) ((HR.out.1.below HB1.out).alloc _) rfl l0 (by omega) (by unfold maxLen; omega) (by simp) ?_
         intro a2 c2 w2 ho2 hb2)
      | (go_at_call 7; refine (H7.out _ _ _ ho2.rd).mono ?_; rintro x w3 ⟨⟨a3, c3, rfl, hr3⟩, hb3⟩))
    have hb12 : Below w1.heap.size w1 w2 := (below_box w1 (.cells #[] 5)).trans hb2
    have hb13 : Below w1.heap.size w1 w3 := hb12.trans (hb3.mono hb12.size)
    have HB3 : Hid (Below w.heap.size w w3) := HB1.out.trans (hb13.mono hz1)
    have hs3 := ScAt.new w3 ⟨c, f, m, p, r, ss⟩ a3 ss.length c3
    have hx3 := below_box w3 (scO ⟨c, f, m, p, r, ss⟩ a3 ss.length c3)
    generalize w3.alloc (scO ⟨c, f, m, p, r, ss⟩ a3 ss.length c3) = W3 at *
    have HS3 : Hid (ScAt W3 w3.heap.size ⟨c, f, m, p, r, ss⟩ a3 ss.length c3 ∧ RdR stC W3 a3 c3 ss ∧ Below w.heap.size w W3) := ⟨hs3, hr3.below hx3, HB3.out.trans (hx3.mono HB3.out.size)⟩
    clear hb12 hb2 hb3 hb13 hr3 hs3 hx3 ho2 HB3
    go_upto_region 7 with (first
      | (go_at_call 8; refine (H8.out _ _ _ (HR.out.1.below HS3.out.2.2)).mono ?_; rintro x w5 ⟨⟨a5, c5, rfl, hr5⟩, hb5⟩))
    have hs5 := ScAt.new w5 ⟨c, f, m, p, r, ss⟩ a5 ss.length c5
    have hx5 := below_box w5 (scO ⟨c, f, m, p, r, ss⟩ a5 ss.length c5)
    generalize w5.alloc (scO ⟨c, f, m, p, r, ss⟩ a5 ss.length c5) = W5 at *
    have hb35 : Below W3.heap.size W3 W5 := hb5.trans (hx5.mono hb5.size)
    have HS5 : Hid (ScAt W5 w5.heap.size ⟨c, f, m, p, r, ss⟩ a5 ss.length c5 ∧ RdR stC W5 a5 c5 ss ∧ RdR stC W5 a3 c3 ss ∧ Below w.heap.size w W5) := ⟨hs5, hr5.below hx5, HS3.out.2.1.below hb35, HS3.out.2.2.trans (hb35.mono HS3.out.2.2.size)⟩
    obtain ⟨x0, x1, x2, x3, x4, x5⟩ := (HS3.out.1.below hb35).cells
    obtain ⟨y0, y1, y2, y3, y4, y5⟩ := hs5.cells
    simp only at x0 x1 x2 x3 x4 x5 y0 y1 y2 y3 y4 y5
    clear hb5 hr5 hs5 hx5 hb35
    go_wp2_with (first
      | (go_at_call 9; refine (same_self c f m p r ss a3 a5 ss.length c3 c5 _ HS5.out.2.2.1 HS5.out.2.1 rfl HW.out).mono ?_; rintro x w6 ⟨rfl, hb6⟩))
    go_ret
    exact ⟨rfl, HS5.out.2.2.2.trans (hb6.mono HS5.out.2.2.2.size)⟩
end Go.Proofs.YtemldmjpanmdbaaGreatDoor
