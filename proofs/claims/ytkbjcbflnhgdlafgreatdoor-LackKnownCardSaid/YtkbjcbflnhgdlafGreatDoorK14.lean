/- Calls that are known: runs of the machine with arguments. Conditions: none. -/
import Derived.Test.YtkbjcbflnhgdlafGreatDoorKd0
import Derived.Test.YtkbjcbflnhgdlafGreatDoorK8
import Derived.Test.YtkbjcbflnhgdlafGreatDoorK9
import Derived.Test.YtkbjcbflnhgdlafGreatDoorK10
import Derived.Test.YtkbjcbflnhgdlafGreatDoorK11
import Derived.Test.YtkbjcbflnhgdlafGreatDoorK12
import Derived.Test.YtkbjcbflnhgdlafGreatDoorK13
namespace Go.Proofs.YtkbjcbflnhgdlafGreatDoor
open Go Go.Proofs Go.Vm
set_option maxRecDepth 100000 in
theorem ok154 : kc154.Ok Tryz.prog vmH := kc_run1 mixed (nvs := vmN) (done := []) (ks := []) (fuel := 200) bare none_done (okAll_nil) (by as_aux_lemma => kernel_rfl)
set_option maxRecDepth 100000 in
theorem ok155 : kc155.Ok Tryz.prog vmH := kc_run1 mixed (nvs := vmN) (done := []) (ks := [kc82, kc154, kc153, kc152, kc151, kc150, kc149, kc148, kc147, kc146, kc145, kc144, kc143, kc142, kc141, kc140, kc139, kc138, kc137, kc136, kc135, kc134, kc133, kc132, kc131, kc130, kc129, kc128, kc127, kc126, kc125, kc124, kc123, kc122, kc121, kc120, kc119, kc118, kc117, kc116, kc115, kc114, kc113, kc112, kc111, kc110, kc109, kc108, kc107, kc106, kc105, kc104, kc103, kc102, kc101, kc100, kc99, kc98, kc97, kc96, kc95, kc94, kc93, kc92, kc91, kc90, kc89, kc88, kc87, kc86, kc85, kc84]) (fuel := 200) bare none_done (okAll_cons ok82 (okAll_cons ok154 (okAll_cons ok153 (okAll_cons ok152 (okAll_cons ok151 (okAll_cons ok150 (okAll_cons ok149 (okAll_cons ok148 (okAll_cons ok147 (okAll_cons ok146 (okAll_cons ok145 (okAll_cons ok144 (okAll_cons ok143 (okAll_cons ok142 (okAll_cons ok141 (okAll_cons ok140 (okAll_cons ok139 (okAll_cons ok138 (okAll_cons ok137 (okAll_cons ok136 (okAll_cons ok135 (okAll_cons ok134 (okAll_cons ok133 (okAll_cons ok132 (okAll_cons ok131 (okAll_cons ok130 (okAll_cons ok129 (okAll_cons ok128 (okAll_cons ok127 (okAll_cons ok126 (okAll_cons ok125 (okAll_cons ok124 (okAll_cons ok123 (okAll_cons ok122 (okAll_cons ok121 (okAll_cons ok120 (okAll_cons ok119 (okAll_cons ok118 (okAll_cons ok117 (okAll_cons ok116 (okAll_cons ok115 (okAll_cons ok114 (okAll_cons ok113 (okAll_cons ok112 (okAll_cons ok111 (okAll_cons ok110 (okAll_cons ok109 (okAll_cons ok108 (okAll_cons ok107 (okAll_cons ok106 (okAll_cons ok105 (okAll_cons ok104 (okAll_cons ok103 (okAll_cons ok102 (okAll_cons ok101 (okAll_cons ok100 (okAll_cons ok99 (okAll_cons ok98 (okAll_cons ok97 (okAll_cons ok96 (okAll_cons ok95 (okAll_cons ok94 (okAll_cons ok93 (okAll_cons ok92 (okAll_cons ok91 (okAll_cons ok90 (okAll_cons ok89 (okAll_cons ok88 (okAll_cons ok87 (okAll_cons ok86 (okAll_cons ok85 (okAll_cons ok84 (okAll_nil))))))))))))))))))))))))))))))))))))))))))))))))))))))))))))))))))))))))) (by as_aux_lemma => kernel_rfl)
set_option maxRecDepth 100000 in
theorem ok156 : kc156.Ok Tryz.prog vmH := kc_run1 mixed (nvs := vmN) (done := []) (ks := []) (fuel := 200) bare none_done (okAll_nil) (by as_aux_lemma => kernel_rfl)
end Go.Proofs.YtkbjcbflnhgdlafGreatDoor
