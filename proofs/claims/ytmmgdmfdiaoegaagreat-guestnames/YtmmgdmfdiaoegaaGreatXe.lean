/- What Bytes of package page does, walked. What Read of package page does with the bytes of a page, walked. -/
import Derived.Test.YtmmgdmfdiaoegaaGreatXc
import Derived.Test.YtmmgdmfdiaoegaaGreatXd
import Derived.Test.YtmmgdmfdiaoegaaGreatXf
import Derived.Laws.Rows
import Derived.Deep.RegionHeld
import Derived.Deep.RegionHeldLaw
import Derived.Handy
namespace Go.Proofs.YtmmgdmfdiaoegaaGreat.Msg
open Go.RowKit
set_option linter.unusedVariables false
set_option maxRecDepth 8000

/-- Some numbers as bytes. -/
def nb (zs : List Int) : List Nat := zs.map Int.toNat

theorem nb_length (zs : List Int) : (nb zs).length = zs.length := by simp [nb]

theorem ci_nb {zs : List Int} (h : ∀ z ∈ zs, 0 ≤ z ∧ z < 256) : ci (nb zs) = zs := by
  simp only [ci, nb, List.map_map]
  conv => rhs; rw [← List.map_id zs]
  apply List.map_congr_left
  intro z hz
  have := h z hz
  simp
  omega

theorem nb_ci (bs : List Nat) : nb (ci bs) = bs := by simp [nb, ci, Function.comp_def]

theorem nb_bytes {zs : List Int} (h : ∀ z ∈ zs, 0 ≤ z ∧ z < 256) : ∀ b ∈ nb zs, b < 256 := by
  intro b hb
  obtain ⟨z, hz, rfl⟩ := List.mem_map.1 hb
  have := h z hz
  omega

theorem ci_bd {bs : List Nat} (h : ∀ b ∈ bs, b < 256) : ∀ z ∈ ci bs, 0 ≤ z ∧ z < 256 := by
  intro z hz
  obtain ⟨b, hb, rfl⟩ := List.mem_map.1 hz
  have := h b hb
  omega

theorem rd8_nb {w : World} {ao : Option Addr} {n cap : Nat} {zs : List Int} (r : RdI w .u8 ao cap zs) (l : zs.length = n) (h : ∀ z ∈ zs, 0 ≤ z ∧ z < 256) : Rd8 w ao n cap (nb zs) :=
  ⟨by rw [ci_nb h]; exact r, by rw [nb_length]; exact l, nb_bytes h⟩

/-- The bytes of some objects, one behind the other. -/
def objsZ (cs : List (Nat × Nat)) : List Int := cs.flatMap fun c => valN c.1 c.2

theorem objsZ_length (cs : List (Nat × Nat)) : (objsZ cs).length = 16 * cs.length := by
  induction cs with
  | nil => rfl
  | cons c cs ih => simp only [objsZ, List.flatMap_cons, List.length_append, valN_length, List.length_cons] at *; omega

end Go.Proofs.YtmmgdmfdiaoegaaGreat.Msg

namespace Go.Proofs.YtmmgdmfdiaoegaaGreat.Msg
open Go.RowKit
set_option linter.unusedVariables false
set_option maxRecDepth 8000

theorem formN_twice (a : Nat) : formN (formN a) = formN a := by
  unfold formN
  by_cases h : nanB a = true
  · have h2 : nanB 9221120237041090561 = true := by rw [nanB_eq]; decide
    simp [h, h2]
  · simp [h]

theorem rdW_wr {a : Nat} (h : a < 18446744073709551616) : rdW (wrN 8 (a : Int)) = a := by
  unfold rdW
  rw [rdN_wrN 8 _ (by omega) (by have : (256 : Int) ^ 8 = 18446744073709551616 := by decide
                                 omega)]
  simp

/-- What is read of an object's bytes. -/
def canO (x : Nat × Nat) : Nat × Nat := (formN x.1, formN x.2)

theorem valN_bd (a b : Nat) : ∀ z ∈ valN a b, 0 ≤ z ∧ z < 256 := by
  intro z hz
  rw [valN, List.mem_append] at hz
  rcases hz with h | h
  all_goals exact wrN_bd _ _ z h

theorem take_val (ao : Option Addr) (cap n m : Nat) (x : Nat × Nat) (zs : List Int) (w : World) (hrd : RdI w .u8 ao cap (valN x.1 x.2 ++ zs)) (hm : zs.length = m) (hn : n = 16 + m) (hx : wordB x) (hb : ∀ z ∈ zs, 0 ≤ z ∧ z < 256) (hlen : n ≤ 140737488355328) :
    Calls Tryz.prog 72 #[.slice ao n cap] w fun e w' => ∃ a2 c2, e = .returned (.tuple #[.complex .f64 (canO x).1 (canO x).2, .slice a2 m c2, .int .i64 0]) ∧ OwnI w' w.heap.size 5 .u8 a2 c2 zs ∧ Below w.heap.size w w' := by
  have hl := valN_length x.1 x.2
  have h1 : rdW ((valN x.1 x.2 ++ zs).take 8) = formN x.1 := by
    rw [valN, List.append_assoc, List.take_append_of_le_length (by simp), List.take_of_length_le (by simp), rdW_wr (formN_lt _ hx.1)]
  have h2 : rdW (((valN x.1 x.2 ++ zs).drop 8).take 8) = formN x.2 := by
    rw [valN, List.append_assoc, List.drop_append_of_le_length (by simp), List.drop_of_length_le (by simp), List.nil_append, List.take_append_of_le_length (by simp), List.take_of_length_le (by simp), rdW_wr (formN_lt _ hx.2)]
  refine (take_long ao cap n (valN x.1 x.2 ++ zs) w hrd (by rw [List.length_append, hl, hm, hn]) ?_ (by omega) hlen (by rw [h1, formN_twice]) (by rw [h2, formN_twice])).mono ?_
  · intro z hz
    rcases List.mem_append.1 hz with h | h
    · exact valN_bd _ _ z h
    · exact hb z h
  · rintro e w' ⟨a2, c2, rfl, ho, hbl⟩
    refine ⟨a2, c2, ?_, ?_, hbl⟩
    · rw [h1, h2, show n - 16 = m by omega]; rfl
    · rw [List.drop_append_of_le_length (by omega), List.drop_of_length_le (by omega), List.nil_append] at ho
      exact ho

/-- A store below what is the call's own. -/
theorem _root_.Go.Proofs.YtmmgdmfdiaoegaaGreat.OwnI.other {w : World} {base : Nat} {e : TypeId} {k : IntKind} {ao : Option Addr} {cap : Nat} {zs : List Int} (h : OwnI w base e k ao cap zs) (p : Addr) (v : Value) (hp : p.block < base) : OwnI (w.setCell p v) base e k ao cap zs := by
  obtain ⟨h1, h2⟩ := h
  refine ⟨h1, ?_⟩
  rcases h2 with h2 | ⟨g, cp, cur, hv, hg, hh, r⟩
  · exact .inl h2
  · exact .inr ⟨g, cp, cur, hv, hg, by rw [Below.heap_setCell w p v g (by omega)]; exact hh, r⟩

theorem _root_.Go.Proofs.YtmmgdmfdiaoegaaGreat.OwnI.alloc0 {w : World} {base : Nat} {e : TypeId} {k : IntKind} {ao : Option Addr} {cap : Nat} {zs : List Int} (h : OwnI w base e k ao cap zs) (o : Obj) : RdI (w.alloc o) k ao cap zs := (h.alloc o).rd

theorem objsZ_bd (cs : List (Nat × Nat)) : ∀ z ∈ objsZ cs, 0 ≤ z ∧ z < 256 := by
  intro z hz
  obtain ⟨c, _, h⟩ := List.mem_flatMap.1 hz
  exact valN_bd _ _ z h

end Go.Proofs.YtmmgdmfdiaoegaaGreat.Msg
