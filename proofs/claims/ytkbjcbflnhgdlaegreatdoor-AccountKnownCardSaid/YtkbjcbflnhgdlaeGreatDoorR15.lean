/- Parts of the run. Conditions: none. -/
import Derived.Test.YtkbjcbflnhgdlaeGreatDoorSt
namespace Go.Proofs.YtkbjcbflnhgdlaeGreatDoor
open Go Go.Proofs Go.Vm
set_option maxRecDepth 100000 in
theorem run18 : segOkH Tryz.prog (execC Tryz.prog vmN [] [kc3, kc2, kc1, kc6, kc5, kc4, kc15, kc10, kc9, kc14, kc12, kc8, kc13, kc11, kc7, kc17, kc16] vmH 200) 50 511 c23 2 l18 l19 r18 r19 NG n18 n19 vmH = true := by kernel_rfl
end Go.Proofs.YtkbjcbflnhgdlaeGreatDoor
