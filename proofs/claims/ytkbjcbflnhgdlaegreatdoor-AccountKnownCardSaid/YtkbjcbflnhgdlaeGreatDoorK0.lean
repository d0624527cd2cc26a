/- Calls that are known: runs of the machine with arguments. Conditions: none. -/
import Derived.Test.YtkbjcbflnhgdlaeGreatDoorKd0
namespace Go.Proofs.YtkbjcbflnhgdlaeGreatDoor
open Go Go.Proofs Go.Vm
set_option maxRecDepth 100000 in
theorem ok0 : kc0.Ok Tryz.prog vmH := kc_run1 mixed (nvs := vmN) (done := []) (ks := []) (fuel := 200) bare none_done (okAll_nil) (by as_aux_lemma => kernel_rfl)
set_option maxRecDepth 100000 in
theorem ok1 : kc1.Ok Tryz.prog vmH := kc_run1 mixed (nvs := vmN) (done := []) (ks := []) (fuel := 200) bare none_done (okAll_nil) (by as_aux_lemma => kernel_rfl)
set_option maxRecDepth 100000 in
theorem ok2 : kc2.Ok Tryz.prog vmH := kc_run1 mixed (nvs := vmN) (done := []) (ks := []) (fuel := 200) bare none_done (okAll_nil) (by as_aux_lemma => kernel_rfl)
set_option maxRecDepth 100000 in
theorem ok3 : kc3.Ok Tryz.prog vmH := kc_run1 mixed (nvs := vmN) (done := []) (ks := []) (fuel := 200) bare none_done (okAll_nil) (by as_aux_lemma => kernel_rfl)
end Go.Proofs.YtkbjcbflnhgdlaeGreatDoor
