/- Parts of the run. Conditions: none. -/
import Derived.Test.YtkbjcbflnhgdlaeGreatDoorSt
namespace Go.Proofs.YtkbjcbflnhgdlaeGreatDoor
open Go Go.Proofs Go.Vm
set_option maxRecDepth 100000 in
theorem run21 : segOkH Tryz.prog (execC Tryz.prog vmN [] [kc47, kc46, kc45, kc44, kc43, kc42, kc41, kc40, kc39, kc38, kc37, kc36] vmH 200) 50 511 c28 1 l21 l22 r21 r22 NG n21 n22 vmH = true := by kernel_rfl
end Go.Proofs.YtkbjcbflnhgdlaeGreatDoor
