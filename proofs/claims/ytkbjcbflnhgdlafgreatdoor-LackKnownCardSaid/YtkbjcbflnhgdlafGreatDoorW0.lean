/- Where the runs begin. Conditions: none. -/
import Derived.Test.YtkbjcbflnhgdlafGreatDoorVm2
import Derived.Test.YtkbjcbflnhgdlafGreatDoorProg
import Derived.KernelRfl
namespace Go.Proofs.YtkbjcbflnhgdlafGreatDoor
open Go Go.Proofs Go.Vm
noncomputable def vmH : Hp := hset (Lv.nil _ _) 0 (.ro [.int .i64 1, .int .i64 5, .int .i64 0, .int .i64 50, .int .i64 1, .int .i64 10, .int .i64 0, .int .i64 9, .int .i64 1, .int .i64 20, .int .i64 0, .int .i64 100, .int .i64 0, .int .i64 6, .int .i64 1, .int .i64 100, .int .i64 0, .int .i64 50])
def vmN : List (Nat × Nat) := [(0, 0), (1, 0), (2, 0), (3, 50), (4, 1), (5, 5), (6, 10), (7, 4), (8, 4), (9, 6), (10, 4), (11, 12), (12, 6), (13, 7), (14, 7), (15, 3), (16, 1), (17, 7), (18, 16), (19, 11), (20, 11), (21, 13), (22, 3), (23, 18), (24, 10), (25, 3), (26, 10), (27, 3), (28, 10), (29, 12), (30, 43), (31, 3), (32, 21), (33, 35), (34, 11), (35, 10), (36, 5), (37, 3), (38, 34), (39, 7), (40, 1), (41, 3), (42, 5), (43, 5), (44, 12), (45, 5), (46, 5), (47, 6), (48, 9), (49, 3), (50, 10), (51, 5), (52, 7), (53, 6), (54, 3), (55, 7), (56, 8), (57, 3), (58, 37), (59, 7), (60, 3), (61, 7), (62, 5), (63, 7), (64, 5), (65, 8), (66, 4), (67, 21), (68, 3), (69, 3), (70, 7), (71, 6), (72, 3), (73, 9), (74, 4), (75, 11), (76, 3), (77, 5), (78, 3), (79, 5), (80, 4), (81, 5), (82, 4), (83, 5), (84, 4), (85, 5), (86, 1), (87, 9), (88, 3), (89, 3), (90, 3), (91, 5), (92, 8), (93, 9), (94, 9), (95, 9), (96, 7), (97, 7), (98, 7), (99, 8), (100, 21), (101, 3), (102, 8), (103, 6), (104, 10), (105, 13), (106, 13), (107, 56), (108, 10), (109, 13), (110, 13), (111, 14), (112, 3), (113, 3), (114, 10), (115, 12), (116, 3), (117, 3), (118, 9), (119, 13), (120, 12), (121, 0), (122, 0), (123, 0), (124, 0), (125, 0), (126, 0), (127, 0), (128, 0), (129, 0), (130, 0), (131, 0), (132, 0), (133, 0), (134, 0), (135, 0), (136, 0), (137, 0), (138, 0), (139, 0), (140, 0)]
theorem mixed : Tryz.prog.follows .mixedOrders = true := by kernel_rfl
theorem bare : ∀ r, NG ≤ r → r < 4096 → hget vmH r = none := by
  intro r h1 h2
  have hn : NG = 1 := rfl
  unfold vmH
  rw [hget_hset (by omega) h2, if_neg (by omega)]
  exact Lv.get_nil HD r
noncomputable def bodyF : Code := (Tryz.f3.body).getD .skip
theorem hbF : Tryz.f3.body = some bodyF := by kernel_rfl
end Go.Proofs.YtkbjcbflnhgdlafGreatDoor
