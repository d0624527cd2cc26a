/- Where the runs begin. Conditions: none. -/
import Derived.Test.YtkbjcbflnhgdladGreatDoorVm2
import Derived.Test.YtkbjcbflnhgdladGreatDoorProg
import Derived.KernelRfl
namespace Go.Proofs.YtkbjcbflnhgdladGreatDoor
open Go Go.Proofs Go.Vm
noncomputable def vmH : Hp := hset (Lv.nil _ _) 0 (.ro [.int .i64 1, .int .i64 7, .int .i64 1, .int .i64 500, .int .i64 1, .int .i64 5000, .int .i64 0, .int .i64 10000, .int .i64 1, .int .i64 4, .int .i64 0, .int .i64 4, .int .i64 1, .int .i64 1000, .int .i64 0, .int .i64 1000, .int .i64 1, .int .i64 10000, .int .i64 1, .int .i64 5, .int .i64 0, .int .i64 20000])
def vmN : List (Nat × Nat) := [(0, 0), (1, 0), (2, 0), (3, 55), (4, 1), (5, 8), (6, 5), (7, 10), (8, 7), (9, 8), (10, 8), (11, 6), (12, 5), (13, 8), (14, 10), (15, 3), (16, 7), (17, 15), (18, 9), (19, 13), (20, 3), (21, 5), (22, 3), (23, 3), (24, 8), (25, 14), (26, 10), (27, 5), (28, 34), (29, 3), (30, 5), (31, 10), (32, 3), (33, 10), (34, 16), (35, 36), (36, 3), (37, 5), (38, 5), (39, 5), (40, 5), (41, 11), (42, 4), (43, 1), (44, 3), (45, 5), (46, 5), (47, 3), (48, 5), (49, 9), (50, 15), (51, 3), (52, 3), (53, 5), (54, 5), (55, 5), (56, 3), (57, 7), (58, 3), (59, 7), (60, 3), (61, 7), (62, 3), (63, 8), (64, 6), (65, 3), (66, 3), (67, 4), (68, 3), (69, 12), (70, 3), (71, 3), (72, 3), (73, 3), (74, 25), (75, 5), (76, 7), (77, 9), (78, 5), (79, 5), (80, 5), (81, 9), (82, 5), (83, 5), (84, 20), (85, 11), (86, 18), (87, 5), (88, 4), (89, 4), (90, 3), (91, 5), (92, 4), (93, 3), (94, 5), (95, 10), (96, 14), (97, 3), (98, 9), (99, 7), (100, 3), (101, 12), (102, 9), (103, 9), (104, 7), (105, 3), (106, 11), (107, 3), (108, 0), (109, 0), (110, 0), (111, 0), (112, 0), (113, 0), (114, 0), (115, 0), (116, 0), (117, 0), (118, 0), (119, 0), (120, 0), (121, 0), (122, 0), (123, 0), (124, 0), (125, 0), (126, 0), (127, 0), (128, 0)]
theorem mixed : Tryz.prog.follows .mixedOrders = true := by kernel_rfl
theorem bare : ∀ r, NG ≤ r → r < 4096 → hget vmH r = none := by
  intro r h1 h2
  have hn : NG = 1 := rfl
  unfold vmH
  rw [hget_hset (by omega) h2, if_neg (by omega)]
  exact Lv.get_nil HD r
noncomputable def bodyF : Code := (Tryz.f3.body).getD .skip
theorem hbF : Tryz.f3.body = some bodyF := by kernel_rfl
end Go.Proofs.YtkbjcbflnhgdladGreatDoor
