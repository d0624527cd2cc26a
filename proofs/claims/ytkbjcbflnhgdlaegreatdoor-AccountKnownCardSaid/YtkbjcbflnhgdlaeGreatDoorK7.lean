/- Calls that are known: runs of the machine with arguments. Conditions: none. -/
import Derived.Test.YtkbjcbflnhgdlaeGreatDoorKd0
import Derived.Test.YtkbjcbflnhgdlaeGreatDoorK4
import Derived.Test.YtkbjcbflnhgdlaeGreatDoorK5
import Derived.Test.YtkbjcbflnhgdlaeGreatDoorK6
namespace Go.Proofs.YtkbjcbflnhgdlaeGreatDoor
open Go Go.Proofs Go.Vm
set_option maxRecDepth 100000 in
theorem ok34 : kc34.Ok Tryz.prog vmH := kc_run1 mixed (nvs := vmN) (done := []) (ks := []) (fuel := 200) bare none_done (okAll_nil) (by as_aux_lemma => kernel_rfl)
set_option maxRecDepth 100000 in
theorem ok35 : kc35.Ok Tryz.prog vmH := kc_run1 mixed (nvs := vmN) (done := []) (ks := [kc30, kc29, kc28, kc34, kc27, kc26, kc33, kc25, kc32, kc31, kc24]) (fuel := 200) bare none_done (okAll_cons ok30 (okAll_cons ok29 (okAll_cons ok28 (okAll_cons ok34 (okAll_cons ok27 (okAll_cons ok26 (okAll_cons ok33 (okAll_cons ok25 (okAll_cons ok32 (okAll_cons ok31 (okAll_cons ok24 (okAll_nil)))))))))))) (by as_aux_lemma => kernel_rfl)
end Go.Proofs.YtkbjcbflnhgdlaeGreatDoor
