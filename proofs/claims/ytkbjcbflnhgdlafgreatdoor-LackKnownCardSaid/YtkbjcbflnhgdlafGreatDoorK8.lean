/- Calls that are known: runs of the machine with arguments. Conditions: none. -/
import Derived.Test.YtkbjcbflnhgdlafGreatDoorKd0
namespace Go.Proofs.YtkbjcbflnhgdlafGreatDoor
open Go Go.Proofs Go.Vm
set_option maxRecDepth 100000 in
theorem ok82 : kc82.Ok Tryz.prog vmH := kc_run1 mixed (nvs := vmN) (done := []) (ks := []) (fuel := 200) bare none_done (okAll_nil) (by as_aux_lemma => kernel_rfl)
set_option maxRecDepth 100000 in
theorem ok83 : kc83.Ok Tryz.prog vmH := kc_run1 mixed (nvs := vmN) (done := []) (ks := []) (fuel := 200) bare none_done (okAll_nil) (by as_aux_lemma => kernel_rfl)
set_option maxRecDepth 100000 in
theorem ok84 : kc84.Ok Tryz.prog vmH := kc_run1 mixed (nvs := vmN) (done := []) (ks := []) (fuel := 200) bare none_done (okAll_nil) (by as_aux_lemma => kernel_rfl)
set_option maxRecDepth 100000 in
theorem ok85 : kc85.Ok Tryz.prog vmH := kc_run1 mixed (nvs := vmN) (done := []) (ks := []) (fuel := 200) bare none_done (okAll_nil) (by as_aux_lemma => kernel_rfl)
set_option maxRecDepth 100000 in
theorem ok86 : kc86.Ok Tryz.prog vmH := kc_run1 mixed (nvs := vmN) (done := []) (ks := []) (fuel := 200) bare none_done (okAll_nil) (by as_aux_lemma => kernel_rfl)
set_option maxRecDepth 100000 in
theorem ok87 : kc87.Ok Tryz.prog vmH := kc_run1 mixed (nvs := vmN) (done := []) (ks := []) (fuel := 200) bare none_done (okAll_nil) (by as_aux_lemma => kernel_rfl)
set_option maxRecDepth 100000 in
theorem ok88 : kc88.Ok Tryz.prog vmH := kc_run1 mixed (nvs := vmN) (done := []) (ks := []) (fuel := 200) bare none_done (okAll_nil) (by as_aux_lemma => kernel_rfl)
set_option maxRecDepth 100000 in
theorem ok89 : kc89.Ok Tryz.prog vmH := kc_run1 mixed (nvs := vmN) (done := []) (ks := []) (fuel := 200) bare none_done (okAll_nil) (by as_aux_lemma => kernel_rfl)
set_option maxRecDepth 100000 in
theorem ok90 : kc90.Ok Tryz.prog vmH := kc_run1 mixed (nvs := vmN) (done := []) (ks := []) (fuel := 200) bare none_done (okAll_nil) (by as_aux_lemma => kernel_rfl)
set_option maxRecDepth 100000 in
theorem ok91 : kc91.Ok Tryz.prog vmH := kc_run1 mixed (nvs := vmN) (done := []) (ks := []) (fuel := 200) bare none_done (okAll_nil) (by as_aux_lemma => kernel_rfl)
set_option maxRecDepth 100000 in
theorem ok92 : kc92.Ok Tryz.prog vmH := kc_run1 mixed (nvs := vmN) (done := []) (ks := []) (fuel := 200) bare none_done (okAll_nil) (by as_aux_lemma => kernel_rfl)
set_option maxRecDepth 100000 in
theorem ok93 : kc93.Ok Tryz.prog vmH := kc_run1 mixed (nvs := vmN) (done := []) (ks := []) (fuel := 200) bare none_done (okAll_nil) (by as_aux_lemma => kernel_rfl)
end Go.Proofs.YtkbjcbflnhgdlafGreatDoor
