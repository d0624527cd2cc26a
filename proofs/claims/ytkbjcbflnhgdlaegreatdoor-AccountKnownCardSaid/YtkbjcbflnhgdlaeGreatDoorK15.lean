/- Calls that are known: runs of the machine with arguments. Conditions: none. -/
import Derived.Test.YtkbjcbflnhgdlaeGreatDoorKd0
import Derived.Test.YtkbjcbflnhgdlaeGreatDoorK12
import Derived.Test.YtkbjcbflnhgdlaeGreatDoorK13
import Derived.Test.YtkbjcbflnhgdlaeGreatDoorK14
namespace Go.Proofs.YtkbjcbflnhgdlaeGreatDoor
open Go Go.Proofs Go.Vm
set_option maxRecDepth 100000 in
theorem ok62 : kc62.Ok Tryz.prog vmH := kc_run1 mixed (nvs := vmN) (done := []) (ks := [kc59, kc58, kc57, kc56, kc55, kc54, kc53, kc61, kc52, kc60]) (fuel := 200) bare none_done (okAll_cons ok59 (okAll_cons ok58 (okAll_cons ok57 (okAll_cons ok56 (okAll_cons ok55 (okAll_cons ok54 (okAll_cons ok53 (okAll_cons ok61 (okAll_cons ok52 (okAll_cons ok60 (okAll_nil))))))))))) (by as_aux_lemma => kernel_rfl)
end Go.Proofs.YtkbjcbflnhgdlaeGreatDoor
