/- The run of the law, by the machine, behind that of 'works'. Conditions: the variable of limits holds what the text lays. -/
import Derived.Test.YtcmpfjphiealhaaDoorWa
namespace Go.Proofs.YtcmpfjphiealhaaDoor
open Go Go.Proofs Go.Vm
set_option maxRecDepth 100000 in
theorem known_run : cameTrue (execO Tryd.prog vmN [9] vmH 200 (.call 7 []) vmH 1) = true := by kernel_rfl
end Go.Proofs.YtcmpfjphiealhaaDoor
