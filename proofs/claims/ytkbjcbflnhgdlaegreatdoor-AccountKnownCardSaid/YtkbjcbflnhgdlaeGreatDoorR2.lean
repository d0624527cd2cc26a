/- Parts of the run. Conditions: none. -/
import Derived.Test.YtkbjcbflnhgdlaeGreatDoorSt
namespace Go.Proofs.YtkbjcbflnhgdlaeGreatDoor
open Go Go.Proofs Go.Vm
set_option maxRecDepth 100000 in
theorem run4 : rndOk Tryz.prog (execC Tryz.prog vmN [] [] vmH 200) 50 511 x6 1 l4 l5 r4 r5 NG n4 n5 vmH = true := by kernel_rfl
end Go.Proofs.YtkbjcbflnhgdlaeGreatDoor
