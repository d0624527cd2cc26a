/- Parts of the run. Conditions: none. -/
import Derived.Test.YtkbjcbflnhgdlaeGreatDoorSt
namespace Go.Proofs.YtkbjcbflnhgdlaeGreatDoor
open Go Go.Proofs Go.Vm
set_option maxRecDepth 100000 in
theorem run0 : segOkH Tryz.prog (execC Tryz.prog vmN [] [] vmH 200) 50 511 c0 6 l0 l1 r0 r1 NG n0 n1 vmH = true := by kernel_rfl
set_option maxRecDepth 100000 in
theorem run1 : segOkH Tryz.prog (execC Tryz.prog vmN [] [] vmH 200) 50 511 (.seq a6 b6) 1 l1 l2 r1 r2 NG n1 n2 vmH = true := by kernel_rfl
set_option maxRecDepth 100000 in
theorem run2 : rndOk Tryz.prog (execC Tryz.prog vmN [] [] vmH 200) 50 511 x6 5 l2 l3 r2 r3 NG n2 n3 vmH = true := by kernel_rfl
end Go.Proofs.YtkbjcbflnhgdlaeGreatDoor
