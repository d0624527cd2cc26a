/- Calls that are known: runs of the machine with arguments. Conditions: none. -/
import Derived.Test.YtkbjcbflnhgdlafGreatDoorKd0
namespace Go.Proofs.YtkbjcbflnhgdlafGreatDoor
open Go Go.Proofs Go.Vm
set_option maxRecDepth 100000 in
theorem ok69 : kc69.Ok Tryz.prog vmH := kc_run1 mixed (nvs := vmN) (done := []) (ks := []) (fuel := 200) bare none_done (okAll_nil) (by as_aux_lemma => kernel_rfl)
set_option maxRecDepth 100000 in
theorem ok70 : kc70.Ok Tryz.prog vmH := kc_run1 mixed (nvs := vmN) (done := []) (ks := []) (fuel := 200) bare none_done (okAll_nil) (by as_aux_lemma => kernel_rfl)
set_option maxRecDepth 100000 in
theorem ok71 : kc71.Ok Tryz.prog vmH := kc_run1 mixed (nvs := vmN) (done := []) (ks := []) (fuel := 200) bare none_done (okAll_nil) (by as_aux_lemma => kernel_rfl)
set_option maxRecDepth 100000 in
theorem ok72 : kc72.Ok Tryz.prog vmH := kc_run1 mixed (nvs := vmN) (done := []) (ks := []) (fuel := 200) bare none_done (okAll_nil) (by as_aux_lemma => kernel_rfl)
set_option maxRecDepth 100000 in
theorem ok73 : kc73.Ok Tryz.prog vmH := kc_run1 mixed (nvs := vmN) (done := []) (ks := []) (fuel := 200) bare none_done (okAll_nil) (by as_aux_lemma => kernel_rfl)
set_option maxRecDepth 100000 in
theorem ok74 : kc74.Ok Tryz.prog vmH := kc_run1 mixed (nvs := vmN) (done := []) (ks := []) (fuel := 200) bare none_done (okAll_nil) (by as_aux_lemma => kernel_rfl)
set_option maxRecDepth 100000 in
theorem ok75 : kc75.Ok Tryz.prog vmH := kc_run1 mixed (nvs := vmN) (done := []) (ks := []) (fuel := 200) bare none_done (okAll_nil) (by as_aux_lemma => kernel_rfl)
set_option maxRecDepth 100000 in
theorem ok76 : kc76.Ok Tryz.prog vmH := kc_run1 mixed (nvs := vmN) (done := []) (ks := []) (fuel := 200) bare none_done (okAll_nil) (by as_aux_lemma => kernel_rfl)
set_option maxRecDepth 100000 in
theorem ok77 : kc77.Ok Tryz.prog vmH := kc_run1 mixed (nvs := vmN) (done := []) (ks := []) (fuel := 200) bare none_done (okAll_nil) (by as_aux_lemma => kernel_rfl)
end Go.Proofs.YtkbjcbflnhgdlafGreatDoor
