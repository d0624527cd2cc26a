/- Parts of the run. Conditions: none. -/
import Derived.Test.YtkbjcbflnhgdlafGreatDoorSt
namespace Go.Proofs.YtkbjcbflnhgdlafGreatDoor
open Go Go.Proofs Go.Vm
set_option maxRecDepth 100000 in
theorem run11 : segOkH Tryz.prog (execC Tryz.prog vmN [] [] vmH 200) 50 483 c36 4 l11 l12 r11 r12 NG n11 n12 vmH = true := by kernel_rfl
set_option maxRecDepth 100000 in
theorem run12 : endOkH Tryz.prog (execC Tryz.prog vmN [] [kc184, kc185, kc170, kc163, kc176, kc183, kc241, kc169, kc162, kc175, kc182, kc156, kc157, kc168, kc161, kc174, kc181, kc167, kc160, kc173, kc180, kc166, kc159, kc172, kc179, kc165, kc158, kc171, kc178, kc164] vmH 200) 50 483 c40 Tryz.f3.results.toList l12 r12 NG n12 vmH = true := by kernel_rfl
end Go.Proofs.YtkbjcbflnhgdlafGreatDoor
