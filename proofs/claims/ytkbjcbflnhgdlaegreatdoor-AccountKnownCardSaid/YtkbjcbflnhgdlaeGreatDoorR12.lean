/- Parts of the run. Conditions: none. -/
import Derived.Test.YtkbjcbflnhgdlaeGreatDoorSt
namespace Go.Proofs.YtkbjcbflnhgdlaeGreatDoor
open Go Go.Proofs Go.Vm
set_option maxRecDepth 100000 in
theorem run14 : rndOk Tryz.prog (execC Tryz.prog vmN [] [] vmH 200) 50 511 x6 1 l14 l15 r14 r15 NG n14 n15 vmH = true := by kernel_rfl
set_option maxRecDepth 100000 in
theorem run15 : outOk Tryz.prog (execC Tryz.prog vmN [] [] vmH 200) 50 511 x6 2 d6 l15 l16 r15 r16 NG n15 n16 vmH = true := by kernel_rfl
end Go.Proofs.YtkbjcbflnhgdlaeGreatDoor
