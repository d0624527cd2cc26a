/- The chapter's own examples come out as the document says, run by the kernel. Conditions: none. -/
import Derived.Test.YtcmkngajdckndaaGreatDoorZ10
set_option linter.unusedVariables false
set_option linter.unusedSimpArgs false
namespace Go.Proofs.YtcmkngajdckndaaGreatDoor.vk
open Go Go.Proofs Go.Vm
set_option maxRecDepth 100000 in
theorem run3 : endOkH Tryz.prog (execC Tryz.prog vmN [] [] vmH 200) 15 141 c10 Tryz.f22.results.toList l3 r3 NG n3 vmH = true := by kernel_rfl
end Go.Proofs.YtcmkngajdckndaaGreatDoor.vk
