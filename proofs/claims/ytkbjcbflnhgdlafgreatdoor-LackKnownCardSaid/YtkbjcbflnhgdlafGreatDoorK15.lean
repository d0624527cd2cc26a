/- Calls that are known: runs of the machine with arguments. Conditions: none. -/
import Derived.Test.YtkbjcbflnhgdlafGreatDoorKd0
namespace Go.Proofs.YtkbjcbflnhgdlafGreatDoor
open Go Go.Proofs Go.Vm
set_option maxRecDepth 100000 in
theorem ok157 : kc157.Ok Tryz.prog vmH := kc_run1 mixed (nvs := vmN) (done := []) (ks := []) (fuel := 200) bare none_done (okAll_nil) (by as_aux_lemma => kernel_rfl)
set_option maxRecDepth 100000 in
theorem ok158 : kc158.Ok Tryz.prog vmH := kc_run1 mixed (nvs := vmN) (done := []) (ks := []) (fuel := 200) bare none_done (okAll_nil) (by as_aux_lemma => kernel_rfl)
set_option maxRecDepth 100000 in
theorem ok159 : kc159.Ok Tryz.prog vmH := kc_run1 mixed (nvs := vmN) (done := []) (ks := []) (fuel := 200) bare none_done (okAll_nil) (by as_aux_lemma => kernel_rfl)
set_option maxRecDepth 100000 in
theorem ok160 : kc160.Ok Tryz.prog vmH := kc_run1 mixed (nvs := vmN) (done := []) (ks := []) (fuel := 200) bare none_done (okAll_nil) (by as_aux_lemma => kernel_rfl)
end Go.Proofs.YtkbjcbflnhgdlafGreatDoor
