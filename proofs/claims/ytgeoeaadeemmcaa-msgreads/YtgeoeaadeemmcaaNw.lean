/- What stands behind an append. -/
import Derived.Test.YtgeoeaadeemmcaaNz
import Derived.Test.YtgeoeaadeemmcaaM7
import Derived.Deep.RegionHeld
import Derived.Deep.RegionLaw
namespace Go.Proofs.Ytgeoeaadeemmcaa
open Go.RowKit
set_option linter.unusedVariables false

theorem own_after {W V w5 : World} {B k c c6 : Nat} {a a6 : Option Addr} {s : List Int} (hg5 : W.grownBy w5 (Value.ownBlock (.slice a k c))) (h : OwnI V B 5 .u8 a6 c6 s) (hb : ∀ y, a = some y → y.block < B) (hW : W.heap = V.heap) : OwnI w5 B 5 .u8 a6 c6 s :=
  h.keep fun y hy => by
    have e := grown_block (g := y.block) hg5 (by rw [hW]; exact (h.blk y hy).2) (fun z hz => by have := hb z hz; have := (h.blk y hy).1; omega)
    rw [hW] at e
    exact e


end Go.Proofs.Ytgeoeaadeemmcaa
