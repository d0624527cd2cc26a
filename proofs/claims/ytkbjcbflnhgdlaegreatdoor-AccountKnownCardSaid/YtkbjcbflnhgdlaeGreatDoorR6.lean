/- Parts of the run. Conditions: none. -/
import Derived.Test.YtkbjcbflnhgdlaeGreatDoorSt
namespace Go.Proofs.YtkbjcbflnhgdlaeGreatDoor
open Go Go.Proofs Go.Vm
set_option maxRecDepth 100000 in
theorem run8 : rndOk Tryz.prog (execC Tryz.prog vmN [] [] vmH 200) 50 511 x6 1 l8 l9 r8 r9 NG n8 n9 vmH = true := by kernel_rfl
end Go.Proofs.YtkbjcbflnhgdlaeGreatDoor
