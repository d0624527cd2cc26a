/- Calls that are known: runs of the machine with arguments. Conditions: none. -/
import Derived.Test.YtkbjcbflnhgdlafGreatDoorKd0
import Derived.Test.YtkbjcbflnhgdlafGreatDoorK18
import Derived.Test.YtkbjcbflnhgdlafGreatDoorK19
import Derived.Test.YtkbjcbflnhgdlafGreatDoorK20
import Derived.Test.YtkbjcbflnhgdlafGreatDoorK21
import Derived.Test.YtkbjcbflnhgdlafGreatDoorK22
namespace Go.Proofs.YtkbjcbflnhgdlafGreatDoor
open Go Go.Proofs Go.Vm
set_option maxRecDepth 100000 in
theorem ok238 : kc238.Ok Tryz.prog vmH := kc_run1 mixed (nvs := vmN) (done := []) (ks := []) (fuel := 200) bare none_done (okAll_nil) (by as_aux_lemma => kernel_rfl)
set_option maxRecDepth 100000 in
theorem ok239 : kc239.Ok Tryz.prog vmH := kc_run1 mixed (nvs := vmN) (done := []) (ks := []) (fuel := 200) bare none_done (okAll_nil) (by as_aux_lemma => kernel_rfl)
set_option maxRecDepth 100000 in
theorem ok240 : kc240.Ok Tryz.prog vmH := kc_run1 mixed (nvs := vmN) (done := []) (ks := []) (fuel := 200) bare none_done (okAll_nil) (by as_aux_lemma => kernel_rfl)
set_option maxRecDepth 100000 in
theorem ok241 : kc241.Ok Tryz.prog vmH := kc_run1 mixed (nvs := vmN) (done := []) (ks := [kc177, kc240, kc239, kc238, kc237, kc236, kc235, kc234, kc233, kc232, kc231, kc230, kc229, kc228, kc227, kc226, kc225, kc224, kc223, kc222, kc221, kc220, kc219, kc218, kc217, kc216, kc215, kc214, kc213, kc212, kc211, kc210, kc209, kc208, kc207, kc206, kc205, kc204, kc203, kc202, kc201, kc200, kc199, kc198, kc197, kc196, kc195, kc194, kc193, kc192, kc191, kc190, kc189, kc188, kc187, kc186]) (fuel := 200) bare none_done (okAll_cons ok177 (okAll_cons ok240 (okAll_cons ok239 (okAll_cons ok238 (okAll_cons ok237 (okAll_cons ok236 (okAll_cons ok235 (okAll_cons ok234 (okAll_cons ok233 (okAll_cons ok232 (okAll_cons ok231 (okAll_cons ok230 (okAll_cons ok229 (okAll_cons ok228 (okAll_cons ok227 (okAll_cons ok226 (okAll_cons ok225 (okAll_cons ok224 (okAll_cons ok223 (okAll_cons ok222 (okAll_cons ok221 (okAll_cons ok220 (okAll_cons ok219 (okAll_cons ok218 (okAll_cons ok217 (okAll_cons ok216 (okAll_cons ok215 (okAll_cons ok214 (okAll_cons ok213 (okAll_cons ok212 (okAll_cons ok211 (okAll_cons ok210 (okAll_cons ok209 (okAll_cons ok208 (okAll_cons ok207 (okAll_cons ok206 (okAll_cons ok205 (okAll_cons ok204 (okAll_cons ok203 (okAll_cons ok202 (okAll_cons ok201 (okAll_cons ok200 (okAll_cons ok199 (okAll_cons ok198 (okAll_cons ok197 (okAll_cons ok196 (okAll_cons ok195 (okAll_cons ok194 (okAll_cons ok193 (okAll_cons ok192 (okAll_cons ok191 (okAll_cons ok190 (okAll_cons ok189 (okAll_cons ok188 (okAll_cons ok187 (okAll_cons ok186 (okAll_nil))))))))))))))))))))))))))))))))))))))))))))))))))))))))) (by as_aux_lemma => kernel_rfl)
end Go.Proofs.YtkbjcbflnhgdlafGreatDoor
