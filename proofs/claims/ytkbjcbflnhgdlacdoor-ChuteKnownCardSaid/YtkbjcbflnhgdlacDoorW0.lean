/- Where the runs begin. Conditions: none. -/
import Derived.Test.YtkbjcbflnhgdlacDoorVm2
import Derived.Test.YtkbjcbflnhgdlacDoorProg
import Derived.KernelRfl
namespace Go.Proofs.YtkbjcbflnhgdlacDoor
open Go Go.Proofs Go.Vm
noncomputable def vmH : Hp := hset (hset (Lv.nil _ _) 0 (.ro [.int .i64 1, .int .i64 3, .int .i64 0, .int .i64 2000, .int .i64 1, .int .i64 5000, .int .i64 1, .int .i64 6, .int .i64 0, .int .i64 1000, .int .i64 1, .int .i64 6, .int .i64 0, .int .i64 7])) 1 (.ro [.int .i64 1, .int .i64 12, .int .i64 0, .int .i64 500, .int .i64 1, .int .i64 10, .int .i64 0, .int .i64 300, .int .i64 1, .int .i64 20, .int .i64 0, .int .i64 9, .int .i64 0, .int .i64 100000, .int .i64 1, .int .i64 12, .int .i64 1, .int .i64 20, .int .i64 1, .int .i64 5])
def vmN : List (Nat × Nat) := [(0, 0), (1, 0), (2, 0), (3, 61), (4, 3), (5, 5), (6, 10), (7, 8), (8, 8), (9, 28), (10, 8), (11, 7), (12, 7), (13, 11), (14, 3), (15, 2), (16, 5), (17, 7), (18, 7), (19, 14), (20, 5), (21, 13), (22, 3), (23, 10), (24, 3), (25, 15), (26, 19), (27, 13), (28, 5), (29, 24), (30, 27), (31, 3), (32, 12), (33, 3), (34, 5), (35, 37), (36, 5), (37, 3), (38, 10), (39, 5), (40, 10), (41, 9), (42, 15), (43, 5), (44, 3), (45, 42), (46, 7), (47, 11), (48, 28), (49, 22), (50, 7), (51, 5), (52, 1), (53, 5), (54, 31), (55, 5), (56, 5), (57, 4), (58, 3), (59, 25), (60, 26), (61, 3), (62, 3), (63, 9), (64, 39), (65, 5), (66, 5), (67, 5), (68, 3), (69, 3), (70, 7), (71, 3), (72, 5), (73, 3), (74, 29), (75, 17), (76, 3), (77, 18), (78, 1), (79, 5), (80, 8), (81, 3), (82, 3), (83, 6), (84, 9), (85, 12), (86, 9), (87, 29), (88, 10), (89, 0), (90, 0), (91, 0), (92, 0), (93, 0), (94, 0), (95, 0), (96, 0), (97, 0), (98, 0), (99, 0), (100, 0), (101, 0), (102, 0), (103, 0), (104, 0), (105, 0), (106, 0), (107, 0), (108, 0), (109, 0), (110, 0)]
theorem mixed : Tryd.prog.follows .mixedOrders = true := by kernel_rfl
theorem bare : ∀ r, NG ≤ r → r < 4096 → hget vmH r = none := by
  intro r h1 h2
  have hn : NG = 2 := rfl
  unfold vmH
  rw [hget_hset (by omega) h2, if_neg (by omega)]
  rw [hget_hset (by omega) h2, if_neg (by omega)]
  exact Lv.get_nil HD r
noncomputable def bodyF : Code := (Tryd.f3.body).getD .skip
theorem hbF : Tryd.f3.body = some bodyF := by kernel_rfl
end Go.Proofs.YtkbjcbflnhgdlacDoor
