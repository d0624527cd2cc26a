/- Parts of the run. Conditions: none. -/
import Derived.Test.YtkbjcbflnhgdladGreatDoorSt
namespace Go.Proofs.YtkbjcbflnhgdladGreatDoor
open Go Go.Proofs Go.Vm
set_option maxRecDepth 100000 in
theorem run7 : endOkH Tryz.prog (execC Tryz.prog vmN [] [kc7, kc41, kc59, kc18, kc58, kc47, kc38, kc12, kc37, kc23, kc36, kc57, kc17, kc56, kc46, kc35, kc11, kc34, kc22, kc33, kc55, kc16, kc54, kc45, kc32, kc10, kc31, kc21, kc30, kc53, kc15, kc52, kc44, kc61, kc29, kc9, kc28, kc20, kc27, kc51, kc14, kc50, kc43, kc60, kc26, kc8, kc25, kc19, kc24, kc49, kc13, kc48, kc42, kc40, kc2, kc1, kc0, kc6, kc39, kc4, kc3, kc5] vmH 200) 55 540 c41 Tryz.f3.results.toList l7 r7 NG n7 vmH = true := by kernel_rfl
end Go.Proofs.YtkbjcbflnhgdladGreatDoor
