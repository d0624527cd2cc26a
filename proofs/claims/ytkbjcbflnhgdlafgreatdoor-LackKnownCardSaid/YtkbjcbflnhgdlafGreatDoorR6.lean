/- Parts of the run. Conditions: none. -/
import Derived.Test.YtkbjcbflnhgdlafGreatDoorSt
namespace Go.Proofs.YtkbjcbflnhgdlafGreatDoor
open Go Go.Proofs Go.Vm
set_option maxRecDepth 100000 in
theorem run9 : segOkH Tryz.prog (execC Tryz.prog vmN [] [kc155, kc80, kc79, kc81, kc83, kc78, kc1, kc0, kc2, kc4] vmH 200) 50 483 c32 3 l9 l10 r9 r10 NG n9 n10 vmH = true := by kernel_rfl
end Go.Proofs.YtkbjcbflnhgdlafGreatDoor
