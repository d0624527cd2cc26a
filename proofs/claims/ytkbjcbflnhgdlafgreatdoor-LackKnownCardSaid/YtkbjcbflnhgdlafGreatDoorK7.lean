/- Calls that are known: runs of the machine with arguments. Conditions: none. -/
import Derived.Test.YtkbjcbflnhgdlafGreatDoorKd0
import Derived.Test.YtkbjcbflnhgdlafGreatDoorK0
import Derived.Test.YtkbjcbflnhgdlafGreatDoorK1
import Derived.Test.YtkbjcbflnhgdlafGreatDoorK2
import Derived.Test.YtkbjcbflnhgdlafGreatDoorK3
import Derived.Test.YtkbjcbflnhgdlafGreatDoorK4
import Derived.Test.YtkbjcbflnhgdlafGreatDoorK5
import Derived.Test.YtkbjcbflnhgdlafGreatDoorK6
namespace Go.Proofs.YtkbjcbflnhgdlafGreatDoor
open Go Go.Proofs Go.Vm
set_option maxRecDepth 100000 in
theorem ok78 : kc78.Ok Tryz.prog vmH := kc_run1 mixed (nvs := vmN) (done := []) (ks := [kc3, kc77, kc76, kc75, kc74, kc73, kc72, kc71, kc70, kc69, kc68, kc67, kc66, kc65, kc64, kc63, kc62, kc61, kc60, kc59, kc58, kc57, kc56, kc55, kc54, kc53, kc52, kc51, kc50, kc49, kc48, kc47, kc46, kc45, kc44, kc43, kc42, kc41, kc40, kc39, kc38, kc37, kc36, kc35, kc34, kc33, kc32, kc31, kc30, kc29, kc28, kc27, kc26, kc25, kc24, kc23, kc22, kc21, kc20, kc19, kc18, kc17, kc16, kc15, kc14, kc13, kc12, kc11, kc10, kc9, kc8, kc7, kc6, kc5]) (fuel := 200) bare none_done (okAll_cons ok3 (okAll_cons ok77 (okAll_cons ok76 (okAll_cons ok75 (okAll_cons ok74 (okAll_cons ok73 (okAll_cons ok72 (okAll_cons ok71 (okAll_cons ok70 (okAll_cons ok69 (okAll_cons ok68 (okAll_cons ok67 (okAll_cons ok66 (okAll_cons ok65 (okAll_cons ok64 (okAll_cons ok63 (okAll_cons ok62 (okAll_cons ok61 (okAll_cons ok60 (okAll_cons ok59 (okAll_cons ok58 (okAll_cons ok57 (okAll_cons ok56 (okAll_cons ok55 (okAll_cons ok54 (okAll_cons ok53 (okAll_cons ok52 (okAll_cons ok51 (okAll_cons ok50 (okAll_cons ok49 (okAll_cons ok48 (okAll_cons ok47 (okAll_cons ok46 (okAll_cons ok45 (okAll_cons ok44 (okAll_cons ok43 (okAll_cons ok42 (okAll_cons ok41 (okAll_cons ok40 (okAll_cons ok39 (okAll_cons ok38 (okAll_cons ok37 (okAll_cons ok36 (okAll_cons ok35 (okAll_cons ok34 (okAll_cons ok33 (okAll_cons ok32 (okAll_cons ok31 (okAll_cons ok30 (okAll_cons ok29 (okAll_cons ok28 (okAll_cons ok27 (okAll_cons ok26 (okAll_cons ok25 (okAll_cons ok24 (okAll_cons ok23 (okAll_cons ok22 (okAll_cons ok21 (okAll_cons ok20 (okAll_cons ok19 (okAll_cons ok18 (okAll_cons ok17 (okAll_cons ok16 (okAll_cons ok15 (okAll_cons ok14 (okAll_cons ok13 (okAll_cons ok12 (okAll_cons ok11 (okAll_cons ok10 (okAll_cons ok9 (okAll_cons ok8 (okAll_cons ok7 (okAll_cons ok6 (okAll_cons ok5 (okAll_nil))))))))))))))))))))))))))))))))))))))))))))))))))))))))))))))))))))))))))) (by as_aux_lemma => kernel_rfl)
set_option maxRecDepth 100000 in
theorem ok79 : kc79.Ok Tryz.prog vmH := kc_run1 mixed (nvs := vmN) (done := []) (ks := []) (fuel := 200) bare none_done (okAll_nil) (by as_aux_lemma => kernel_rfl)
set_option maxRecDepth 100000 in
theorem ok80 : kc80.Ok Tryz.prog vmH := kc_run1 mixed (nvs := vmN) (done := []) (ks := []) (fuel := 200) bare none_done (okAll_nil) (by as_aux_lemma => kernel_rfl)
set_option maxRecDepth 100000 in
theorem ok81 : kc81.Ok Tryz.prog vmH := kc_run1 mixed (nvs := vmN) (done := []) (ks := []) (fuel := 200) bare none_done (okAll_nil) (by as_aux_lemma => kernel_rfl)
end Go.Proofs.YtkbjcbflnhgdlafGreatDoor
