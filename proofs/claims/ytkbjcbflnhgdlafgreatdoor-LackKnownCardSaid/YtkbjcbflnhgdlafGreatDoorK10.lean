/- Calls that are known: runs of the machine with arguments. Conditions: none. -/
import Derived.Test.YtkbjcbflnhgdlafGreatDoorKd0
namespace Go.Proofs.YtkbjcbflnhgdlafGreatDoor
open Go Go.Proofs Go.Vm
set_option maxRecDepth 100000 in
theorem ok106 : kc106.Ok Tryz.prog vmH := kc_run1 mixed (nvs := vmN) (done := []) (ks := []) (fuel := 200) bare none_done (okAll_nil) (by as_aux_lemma => kernel_rfl)
set_option maxRecDepth 100000 in
theorem ok107 : kc107.Ok Tryz.prog vmH := kc_run1 mixed (nvs := vmN) (done := []) (ks := []) (fuel := 200) bare none_done (okAll_nil) (by as_aux_lemma => kernel_rfl)
set_option maxRecDepth 100000 in
theorem ok108 : kc108.Ok Tryz.prog vmH := kc_run1 mixed (nvs := vmN) (done := []) (ks := []) (fuel := 200) bare none_done (okAll_nil) (by as_aux_lemma => kernel_rfl)
set_option maxRecDepth 100000 in
theorem ok109 : kc109.Ok Tryz.prog vmH := kc_run1 mixed (nvs := vmN) (done := []) (ks := []) (fuel := 200) bare none_done (okAll_nil) (by as_aux_lemma => kernel_rfl)
set_option maxRecDepth 100000 in
theorem ok110 : kc110.Ok Tryz.prog vmH := kc_run1 mixed (nvs := vmN) (done := []) (ks := []) (fuel := 200) bare none_done (okAll_nil) (by as_aux_lemma => kernel_rfl)
set_option maxRecDepth 100000 in
theorem ok111 : kc111.Ok Tryz.prog vmH := kc_run1 mixed (nvs := vmN) (done := []) (ks := []) (fuel := 200) bare none_done (okAll_nil) (by as_aux_lemma => kernel_rfl)
set_option maxRecDepth 100000 in
theorem ok112 : kc112.Ok Tryz.prog vmH := kc_run1 mixed (nvs := vmN) (done := []) (ks := []) (fuel := 200) bare none_done (okAll_nil) (by as_aux_lemma => kernel_rfl)
set_option maxRecDepth 100000 in
theorem ok113 : kc113.Ok Tryz.prog vmH := kc_run1 mixed (nvs := vmN) (done := []) (ks := []) (fuel := 200) bare none_done (okAll_nil) (by as_aux_lemma => kernel_rfl)
set_option maxRecDepth 100000 in
theorem ok114 : kc114.Ok Tryz.prog vmH := kc_run1 mixed (nvs := vmN) (done := []) (ks := []) (fuel := 200) bare none_done (okAll_nil) (by as_aux_lemma => kernel_rfl)
set_option maxRecDepth 100000 in
theorem ok115 : kc115.Ok Tryz.prog vmH := kc_run1 mixed (nvs := vmN) (done := []) (ks := []) (fuel := 200) bare none_done (okAll_nil) (by as_aux_lemma => kernel_rfl)
set_option maxRecDepth 100000 in
theorem ok116 : kc116.Ok Tryz.prog vmH := kc_run1 mixed (nvs := vmN) (done := []) (ks := []) (fuel := 200) bare none_done (okAll_nil) (by as_aux_lemma => kernel_rfl)
set_option maxRecDepth 100000 in
theorem ok117 : kc117.Ok Tryz.prog vmH := kc_run1 mixed (nvs := vmN) (done := []) (ks := []) (fuel := 200) bare none_done (okAll_nil) (by as_aux_lemma => kernel_rfl)
end Go.Proofs.YtkbjcbflnhgdlafGreatDoor
