/- Parts of the run. Conditions: none. -/
import Derived.Test.YtkbjcbflnhgdlacDoorSt
namespace Go.Proofs.YtkbjcbflnhgdlacDoor
open Go Go.Proofs Go.Vm
set_option maxRecDepth 100000 in
theorem run22 : endOkH Tryd.prog (execC Tryd.prog vmN [] [kc0, kc1, kc4, kc3, kc2] vmH 200) 61 551 c40 Tryd.f3.results.toList l22 r22 NG n22 vmH = true := by kernel_rfl
end Go.Proofs.YtkbjcbflnhgdlacDoor
