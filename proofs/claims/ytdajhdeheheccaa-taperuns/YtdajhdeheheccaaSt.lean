/- Strings made of bytes: their lengths, joined, cut. -/
import Derived.Test.YtdajhdeheheccaaSd
namespace Go.Proofs.Ytdajhdeheheccaa
open Go.RowKit
set_option linter.unusedVariables false

/-- The string of some bytes. -/
def st (bs : List Nat) : ByteArray := strOfNums (ci bs)

theorem st_size (bs : List Nat) : (st bs).size = bs.length := by unfold st; rw [strOfNums_size, ci_length]
theorem st_append (a b : List Nat) : st a ++ st b = st (a ++ b) := by
  apply ByteArray.ext
  simp [st, strOfNums, ci, ByteArray.data_append]
theorem st_extract (bs : List Nat) (i j : Nat) : (st bs).extract i j = st ((bs.take j).drop i) := by
  apply ByteArray.ext
  apply Array.toList_inj.1
  simp only [ByteArray.data_extract, Array.toList_extract, st, strOfNums, ci, List.map_map, List.map_take, List.map_drop, List.extract_eq_take_drop]
  rw [List.drop_take]
theorem st_nil : st [] = ⟨#[]⟩ := rfl
theorem Rd8.st {w : World} {ao : Option Addr} {n cap : Nat} {bs : List Nat} (h : Rd8 w ao n cap bs) : (convert 27 9 (.slice ao n cap)).run Try.prog w = .ok (.string (st bs)) w := h.str

end Go.Proofs.Ytdajhdeheheccaa
