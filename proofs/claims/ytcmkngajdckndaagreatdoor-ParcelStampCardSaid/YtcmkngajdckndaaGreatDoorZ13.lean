/- The chapter's own examples come out as the document says, run by the kernel. Conditions: none. -/
import Derived.Test.YtcmkngajdckndaaGreatDoorZ10
set_option linter.unusedVariables false
set_option linter.unusedSimpArgs false
namespace Go.Proofs.YtcmkngajdckndaaGreatDoor.vk
open Go Go.Proofs Go.Vm
set_option maxRecDepth 100000 in
theorem run2 : segOkH Tryz.prog (execC Tryz.prog vmN [] [kc1, kc0] vmH 200) 15 141 c9 1 l2 l3 r2 r3 NG n2 n3 vmH = true := by kernel_rfl
end Go.Proofs.YtcmkngajdckndaaGreatDoor.vk
