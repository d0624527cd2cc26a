/- The codes of the parts. Conditions: none. -/
import Derived.Test.YtkbjcbflnhgdlacDoorSt1
namespace Go.Proofs.YtkbjcbflnhgdlacDoor
open Go Go.Proofs Go.Vm
noncomputable def c0 : Code := bodyF
noncomputable def c15 : Code := dropS 15 c0
noncomputable def c16 : Code := dropS 1 c15
noncomputable def c17 : Code := dropS 1 c16
noncomputable def c18 : Code := dropS 1 c17
noncomputable def c29 : Code := dropS 11 c18
noncomputable def c34 : Code := dropS 5 c29
noncomputable def c39 : Code := dropS 5 c34
noncomputable def c40 : Code := dropS 1 c39
noncomputable def a15 : Code := match c15 with | .seq (.seq a _) _ => a | _ => .skip
noncomputable def b15 : Code := match c15 with | .seq (.seq _ b) _ => b | _ => .skip
noncomputable def x15 : Code := match b15 with | .block _ (.loop x) => x | _ => .skip
noncomputable def d15 : Nat := match b15 with | .block d _ => d | _ => 0
theorem hc15 : c15 = .seq (.seq a15 b15) c16 := by kernel_rfl
theorem hb15 : b15 = .block d15 (.loop x15) := by kernel_rfl
noncomputable def a17 : Code := match c17 with | .seq (.seq a _) _ => a | _ => .skip
noncomputable def b17 : Code := match c17 with | .seq (.seq _ b) _ => b | _ => .skip
noncomputable def x17 : Code := match b17 with | .block _ (.loop x) => x | _ => .skip
noncomputable def d17 : Nat := match b17 with | .block d _ => d | _ => 0
theorem hc17 : c17 = .seq (.seq a17 b17) c18 := by kernel_rfl
theorem hb17 : b17 = .block d17 (.loop x17) := by kernel_rfl
end Go.Proofs.YtkbjcbflnhgdlacDoor
