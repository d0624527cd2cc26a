/- The codes of the parts. Conditions: none. -/
import Derived.Test.YtkbjcbflnhgdlafGreatDoorSt0
namespace Go.Proofs.YtkbjcbflnhgdlafGreatDoor
open Go Go.Proofs Go.Vm
noncomputable def c0 : Code := bodyF
noncomputable def c13 : Code := dropS 13 c0
noncomputable def c14 : Code := dropS 1 c13
noncomputable def c26 : Code := dropS 12 c14
noncomputable def c27 : Code := dropS 1 c26
noncomputable def c31 : Code := dropS 4 c27
noncomputable def c32 : Code := dropS 1 c31
noncomputable def c35 : Code := dropS 3 c32
noncomputable def c36 : Code := dropS 1 c35
noncomputable def c40 : Code := dropS 4 c36
noncomputable def a13 : Code := match c13 with | .seq (.seq a _) _ => a | _ => .skip
noncomputable def b13 : Code := match c13 with | .seq (.seq _ b) _ => b | _ => .skip
noncomputable def x13 : Code := match b13 with | .block _ (.loop x) => x | _ => .skip
noncomputable def d13 : Nat := match b13 with | .block d _ => d | _ => 0
theorem hc13 : c13 = .seq (.seq a13 b13) c14 := by kernel_rfl
theorem hb13 : b13 = .block d13 (.loop x13) := by kernel_rfl
end Go.Proofs.YtkbjcbflnhgdlafGreatDoor
