/- A part of the run of function 17. Conditions: the variable of limits holds what the text lays. -/
import Derived.Test.YtnidhhcofhpbiafGreatDoorP17
namespace Go.Proofs.YtnidhhcofhpbiafGreatDoor
open Go Go.Proofs Go.Vm
set_option maxRecDepth 100000 in
theorem run17_1 : endOk Tryz.prog ih17 16 144 c17_1 Tryz.f17.results.toList l17_1 vmH = true := by kernel_rfl
end Go.Proofs.YtnidhhcofhpbiafGreatDoor
