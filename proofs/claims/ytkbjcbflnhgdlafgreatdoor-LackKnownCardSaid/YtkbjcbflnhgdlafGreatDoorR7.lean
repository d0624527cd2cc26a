/- Parts of the run. Conditions: none. -/
import Derived.Test.YtkbjcbflnhgdlafGreatDoorSt
namespace Go.Proofs.YtkbjcbflnhgdlafGreatDoor
open Go Go.Proofs Go.Vm
set_option maxRecDepth 100000 in
theorem run10 : segOkH Tryz.prog (execC Tryz.prog vmN [] [] vmH 200) 50 483 c35 1 l10 l11 r10 r11 NG n10 n11 vmH = true := by kernel_rfl
end Go.Proofs.YtkbjcbflnhgdlafGreatDoor
