/- The codes of the parts. Conditions: none. -/
import Derived.Test.YtkbjcbflnhgdladGreatDoorSt0
namespace Go.Proofs.YtkbjcbflnhgdladGreatDoor
open Go Go.Proofs Go.Vm
noncomputable def c0 : Code := bodyF
noncomputable def c13 : Code := dropS 13 c0
noncomputable def c14 : Code := dropS 1 c13
noncomputable def c33 : Code := dropS 19 c14
noncomputable def c35 : Code := dropS 2 c33
noncomputable def c41 : Code := dropS 6 c35
noncomputable def a13 : Code := match c13 with | .seq (.seq a _) _ => a | _ => .skip
noncomputable def b13 : Code := match c13 with | .seq (.seq _ b) _ => b | _ => .skip
noncomputable def x13 : Code := match b13 with | .block _ (.loop x) => x | _ => .skip
noncomputable def d13 : Nat := match b13 with | .block d _ => d | _ => 0
theorem hc13 : c13 = .seq (.seq a13 b13) c14 := by kernel_rfl
theorem hb13 : b13 = .block d13 (.loop x13) := by kernel_rfl
end Go.Proofs.YtkbjcbflnhgdladGreatDoor
