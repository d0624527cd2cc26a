/- Parts of the run. Conditions: none. -/
import Derived.Test.YtkbjcbflnhgdlaeGreatDoorSt
namespace Go.Proofs.YtkbjcbflnhgdlaeGreatDoor
open Go Go.Proofs Go.Vm
set_option maxRecDepth 100000 in
theorem run19 : segOkH Tryz.prog (execC Tryz.prog vmN [] [kc20, kc19, kc18, kc23, kc22, kc21] vmH 200) 50 511 c25 1 l19 l20 r19 r20 NG n19 n20 vmH = true := by kernel_rfl
end Go.Proofs.YtkbjcbflnhgdlaeGreatDoor
