/- What the parts of function 17 begin with. Conditions: none. -/
import Derived.Test.YtnidhhcofhpbiafGreatDoorW0
namespace Go.Proofs.YtnidhhcofhpbiafGreatDoor
open Go Go.Proofs Go.Vm
noncomputable def body17 : Code := (Tryz.f17.body).getD .skip
theorem hb17 : Tryz.f17.body = some body17 := by kernel_rfl
noncomputable def ih17 : Rec := execK Tryz.prog vmN [] vmH 200
noncomputable def l17_0 : List (Nat × Value) := []
noncomputable def c17_0 : Code := body17
noncomputable def l17_1 : List (Nat × Value) := [(0, .bool false), (2, .int .i64 0), (4, .int .i64 0), (6, .int .i64 0), (8, .int .i64 0)]
noncomputable def c17_1 : Code := (dropS 6 c17_0)
end Go.Proofs.YtnidhhcofhpbiafGreatDoor
