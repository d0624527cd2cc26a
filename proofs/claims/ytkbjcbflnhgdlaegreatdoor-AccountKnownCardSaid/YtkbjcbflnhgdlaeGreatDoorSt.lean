/- The codes of the parts. Conditions: none. -/
import Derived.Test.YtkbjcbflnhgdlaeGreatDoorSt2
namespace Go.Proofs.YtkbjcbflnhgdlaeGreatDoor
open Go Go.Proofs Go.Vm
noncomputable def c0 : Code := bodyF
noncomputable def c6 : Code := dropS 6 c0
noncomputable def c7 : Code := dropS 1 c6
noncomputable def c19 : Code := dropS 12 c7
noncomputable def c23 : Code := dropS 4 c19
noncomputable def c25 : Code := dropS 2 c23
noncomputable def c26 : Code := dropS 1 c25
noncomputable def c28 : Code := dropS 2 c26
noncomputable def c29 : Code := dropS 1 c28
noncomputable def c33 : Code := dropS 4 c29
noncomputable def a6 : Code := match c6 with | .seq (.seq a _) _ => a | _ => .skip
noncomputable def b6 : Code := match c6 with | .seq (.seq _ b) _ => b | _ => .skip
noncomputable def x6 : Code := match b6 with | .block _ (.loop x) => x | _ => .skip
noncomputable def d6 : Nat := match b6 with | .block d _ => d | _ => 0
theorem hc6 : c6 = .seq (.seq a6 b6) c7 := by kernel_rfl
theorem hb6 : b6 = .block d6 (.loop x6) := by kernel_rfl
end Go.Proofs.YtkbjcbflnhgdlaeGreatDoor
