/- Parts of the run. Conditions: none. -/
import Derived.Test.YtkbjcbflnhgdlacDoorSt
namespace Go.Proofs.YtkbjcbflnhgdlacDoor
open Go Go.Proofs Go.Vm
set_option maxRecDepth 100000 in
theorem run11 : outOk Tryd.prog (execC Tryd.prog vmN [] [] vmH 200) 61 551 x15 2 d15 l11 l12 r11 r12 NG n11 n12 vmH = true := by kernel_rfl
set_option maxRecDepth 100000 in
theorem run12 : segOkH Tryd.prog (execC Tryd.prog vmN [] [] vmH 200) 61 551 c16 1 l12 l13 r12 r13 NG n12 n13 vmH = true := by kernel_rfl
set_option maxRecDepth 100000 in
theorem run13 : segOkH Tryd.prog (execC Tryd.prog vmN [] [] vmH 200) 61 551 (.seq a17 b17) 1 l13 l14 r13 r14 NG n13 n14 vmH = true := by kernel_rfl
end Go.Proofs.YtkbjcbflnhgdlacDoor
