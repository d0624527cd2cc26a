/- What the parts of function 3 begin with. Conditions: none. -/
import Derived.Test.YtnidhhcofhpbiafGreatDoorQ17
namespace Go.Proofs.YtnidhhcofhpbiafGreatDoor
open Go Go.Proofs Go.Vm
noncomputable def body3 : Code := (Tryz.f3.body).getD .skip
theorem hb3 : Tryz.f3.body = some body3 := by kernel_rfl
noncomputable def ih3 : Rec := execK Tryz.prog vmN [17] vmH 200
noncomputable def l3_0 : List (Nat × Value) := []
noncomputable def c3_0 : Code := body3
noncomputable def l3_1 : List (Nat × Value) := [(0, .bool false)]
noncomputable def c3_1 : Code := (dropS 13 c3_0)
noncomputable def l3_2 : List (Nat × Value) := [(0, .bool false), (31, .int .i64 81), (33, .int .i64 82), (35, .int .i64 82), (37, .int .i64 82), (39, .int .i64 82), (42, .int .i64 82), (43, .int .i64 0), (44, .int .i64 0), (46, .int .i64 4)]
noncomputable def c3_2 : Code := (dropS 10 c3_1)
noncomputable def l3_3 : List (Nat × Value) := [(0, .bool false), (31, .int .i64 0), (33, .int .i64 0), (35, .int .i64 0), (37, .int .i64 0), (39, .int .i64 0), (42, .int .i64 0), (44, .int .i64 0), (46, .int .i64 4), (49, .int .i64 4), (50, .bool false), (51, .bool true), (52, .int .i64 1), (53, .int .i64 0), (54, .int .i64 2), (55, .int .i64 4)]
noncomputable def c3_3 : Code := (dropS 8 c3_2)
end Go.Proofs.YtnidhhcofhpbiafGreatDoor
