/- A part of the run of function 3. Conditions: the variable of limits holds what the text lays. -/
import Derived.Test.YtnidhhcofhpbiafGreatDoorP3
namespace Go.Proofs.YtnidhhcofhpbiafGreatDoor
open Go Go.Proofs Go.Vm
set_option maxRecDepth 100000 in
theorem run3_0 : segOk Tryz.prog ih3 61 510 c3_0 13 l3_0 l3_1 vmH = true := by kernel_rfl
end Go.Proofs.YtnidhhcofhpbiafGreatDoor
