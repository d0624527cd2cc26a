/- A part of the run of function 3. Conditions: the variable of limits holds what the text lays. -/
import Derived.Test.YtnidhhcofhpbiafGreatDoorP3
namespace Go.Proofs.YtnidhhcofhpbiafGreatDoor
open Go Go.Proofs Go.Vm
set_option maxRecDepth 100000 in
theorem run3_2 : segOk Tryz.prog ih3 61 510 c3_2 8 l3_2 l3_3 vmH = true := by kernel_rfl
end Go.Proofs.YtnidhhcofhpbiafGreatDoor
