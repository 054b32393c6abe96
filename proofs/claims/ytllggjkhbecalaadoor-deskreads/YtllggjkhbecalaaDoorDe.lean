/- The chapter's example as mathematics: what each message leads to. -/
import Derived.Test.YtllggjkhbecalaaDoorD8
import Derived.KernelRfl
namespace Go.Proofs.YtllggjkhbecalaaDoor
open Go.RowKit Go.Maps
set_option linter.unusedVariables false
set_option maxRecDepth 8000

def T0 : Nat → Nat := fun _ => 0
def T1 : Nat → Nat := Tab.put (Tab.put T0 2 15) 3 0
def T2 : Nat → Nat := Tab.put (Tab.put T1 14 15) 15 0
def T5 : Nat → Nat := Tab.put (Tab.put T2 14 11) 15 0
def T6 : Nat → Nat := Tab.put (Tab.put T5 2 15) 3 4
def T7 : Nat → Nat := Tab.put (Tab.put T0 38 15) 39 15
def S0 : St := ⟨T0, [], []⟩
def S1 : St := ⟨T1, [], []⟩
def S2 : St := ⟨T2, [], []⟩
def S3 : St := ⟨T2, [⟨0, 1, 2, true⟩], [⟨⟨1, 1, 2, true⟩, false⟩]⟩
def S4 : St := ⟨T2, [⟨0, 1, 2, true⟩, ⟨1, 1, 2, true⟩], [⟨⟨1, 1, 2, true⟩, false⟩]⟩
def S5 : St := ⟨T2, [⟨0, 1, 2, true⟩], [⟨⟨1, 1, 2, true⟩, true⟩]⟩
def S6 : St := ⟨T6, [], []⟩
def S7 : St := ⟨T7, [], []⟩
theorem ex1 : setl (hanS S0 0 0 1 2 0 0 false) = (S1, [⟨0, 5, 1, 0, 15, 0, false⟩]) := by kernel_rfl
theorem ex2 : setl (hanS S1 1 0 1 2 0 0 false) = (S2, [⟨1, 5, 1, 0, 15, 0, false⟩]) := by kernel_rfl
theorem ex3 : setl (hanS S2 0 1 1 2 0 0 false) = (S3, [⟨1, 6, 1, 2, 0, 0, true⟩]) := by kernel_rfl
theorem ex4 : setl (hanS S3 1 1 1 2 0 0 false) = (S4, []) := by kernel_rfl
theorem ex5 : setl (hanS S4 1 4 1 2 0 0 true) = (S5, [⟨1, 8, 0, 0, 151, 0, false⟩]) := by kernel_rfl
theorem ex6 : setl (hanS S5 1 3 1 0 4 0 false) = (S6, [⟨0, 5, 1, 0, 15, 4, false⟩]) := by kernel_rfl
theorem ex7 : setl (hanS S0 3 1 1 2 0 0 false) = (S7, [⟨3, 5, 1, 0, 15, 15, false⟩]) := by kernel_rfl

end Go.Proofs.YtllggjkhbecalaaDoor
