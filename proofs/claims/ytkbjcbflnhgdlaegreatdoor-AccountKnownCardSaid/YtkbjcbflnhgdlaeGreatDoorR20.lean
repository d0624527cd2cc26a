/- Parts of the run. Conditions: none. -/
import Derived.Test.YtkbjcbflnhgdlaeGreatDoorSt
namespace Go.Proofs.YtkbjcbflnhgdlaeGreatDoor
open Go Go.Proofs Go.Vm
set_option maxRecDepth 100000 in
theorem run23 : endOkH Tryz.prog (execC Tryz.prog vmN [] [kc48, kc62, kc49, kc51, kc50] vmH 200) 50 511 c33 Tryz.f3.results.toList l23 r23 NG n23 vmH = true := by kernel_rfl
end Go.Proofs.YtkbjcbflnhgdlaeGreatDoor
