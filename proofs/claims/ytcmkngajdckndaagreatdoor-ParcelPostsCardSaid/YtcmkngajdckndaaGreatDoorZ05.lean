/- The program's functions as the machine runs them, and closed facts of its types; Rules by which a run of that machine is computed. Conditions: none. -/
import Derived.Test.YtcmkngajdckndaaGreatDoorZ04
import Derived.Test.YtcmkngajdckndaaGreatDoorProg
import Derived.KernelRfl
set_option linter.unusedVariables false
set_option linter.unusedSimpArgs false
noncomputable section
namespace Go.Proofs.YtcmkngajdckndaaGreatDoor
open Go Go.Proofs Go.Lm
def vmL : List (Nat × Nat) := [(0, 0), (1, 0), (2, 1), (3, 85), (4, 139), (5, 32), (6, 36), (7, 178), (8, 143), (9, 143), (10, 213), (11, 177), (12, 199), (13, 26), (14, 18), (15, 6), (16, 147), (17, 37), (18, 29), (19, 13), (20, 44), (21, 31), (22, 141), (23, 16), (24, 62), (25, 20), (26, 52), (27, 20), (28, 19), (29, 33), (30, 21), (31, 93), (32, 27), (33, 90), (34, 17), (35, 154), (36, 31), (37, 116), (38, 81), (39, 31), (40, 15), (41, 8), (42, 58), (43, 19), (44, 83), (45, 20), (46, 42), (47, 15), (48, 10), (49, 41), (50, 29), (51, 25), (52, 20), (53, 7), (54, 17), (55, 8), (56, 13), (57, 26), (58, 69), (59, 7), (60, 24), (61, 75), (62, 34), (63, 13), (64, 43), (65, 19), (66, 30), (67, 10), (68, 9), (69, 18), (70, 40), (71, 103), (72, 7), (73, 49), (74, 44), (75, 24), (76, 63), (77, 25), (78, 11), (79, 10), (80, 12), (81, 63), (82, 9), (83, 21), (84, 29), (85, 15), (86, 21), (87, 7), (88, 2), (89, 9), (90, 17), (91, 14), (92, 8), (93, 8), (94, 10), (95, 9), (96, 34), (97, 54), (98, 8), (99, 4), (100, 24), (101, 6), (102, 9), (103, 5), (104, 17), (105, 22), (106, 17), (107, 28), (108, 17), (109, 7), (110, 24), (111, 15), (112, 5), (113, 5), (114, 14), (115, 6), (116, 32), (117, 10), (118, 17), (119, 26), (120, 19), (121, 9), (122, 6), (123, 59), (124, 6), (125, 16), (126, 11), (127, 16), (128, 18), (129, 10), (130, 9), (131, 41), (132, 21), (133, 37), (134, 9), (135, 8), (136, 8), (137, 6), (138, 9), (139, 8), (140, 5), (141, 11), (142, 18), (143, 23), (144, 4), (145, 18), (146, 20), (147, 5), (148, 36), (149, 19), (150, 19), (151, 22), (152, 6), (153, 21), (154, 4), (155, 1), (156, 1), (157, 1), (158, 1), (159, 1), (160, 1), (161, 1), (162, 1), (163, 1), (164, 1), (165, 1), (166, 1), (167, 1), (168, 1), (169, 1), (170, 1), (171, 1), (172, 0), (173, 0), (174, 0), (175, 12)]
theorem zfw : z5h Tryz.prog 105 = some (some 11, true, 2) := by kernel_rfl
theorem zfv : z5h Tryz.prog 113 = some (none, true, 2) := by kernel_rfl
theorem zfu : z5h Tryz.prog 119 = some (some 7, false, 1) := by kernel_rfl
theorem zft : z5h Tryz.prog 120 = some (some 7, false, 1) := by kernel_rfl
theorem zfs : z5h Tryz.prog 122 = some (none, false, 1) := by kernel_rfl
theorem zfr : z5h Tryz.prog 124 = some (some 7, false, 1) := by kernel_rfl
theorem zfq : z5h Tryz.prog 136 = some (none, false, 1) := by kernel_rfl
theorem zfp : z5h Tryz.prog 149 = some (some 5, false, 1) := by kernel_rfl
theorem zim : z5h Tryz.prog 22 = some (none, true, 4) := by kernel_rfl
theorem zil : z5h Tryz.prog 23 = some (none, true, 4) := by kernel_rfl
theorem zik : z5h Tryz.prog 24 = some (none, false, 1) := by kernel_rfl
theorem zij : z5h Tryz.prog 40 = some (none, true, 2) := by kernel_rfl
theorem zii : z5h Tryz.prog 62 = some (some 3, false, 1) := by kernel_rfl
theorem zih : z5h Tryz.prog 67 = some (some 4, false, 1) := by kernel_rfl
theorem z9c : zif Tryz.prog 108 0 = some ((false, 1), 0) := by kernel_rfl
theorem z9b : zif Tryz.prog 108 1 = some ((false, 1), 1) := by kernel_rfl
theorem zqy : hasBody Tryz.prog 102 = true := by kernel_rfl
theorem zqx : hasBody Tryz.prog 104 = true := by kernel_rfl
theorem zqw : hasBody Tryz.prog 106 = true := by kernel_rfl
theorem zqv : hasBody Tryz.prog 108 = true := by kernel_rfl
theorem zqu : hasBody Tryz.prog 110 = true := by kernel_rfl
theorem zqt : hasBody Tryz.prog 111 = true := by kernel_rfl
theorem zqs : hasBody Tryz.prog 114 = true := by kernel_rfl
theorem zqr : hasBody Tryz.prog 115 = true := by kernel_rfl
theorem zqq : hasBody Tryz.prog 116 = true := by kernel_rfl
theorem zqp : hasBody Tryz.prog 120 = true := by kernel_rfl
theorem zqo : hasBody Tryz.prog 121 = true := by kernel_rfl
theorem zqn : hasBody Tryz.prog 129 = true := by kernel_rfl
theorem zvv : hasBody Tryz.prog 13 = true := by kernel_rfl
theorem zqm : hasBody Tryz.prog 132 = true := by kernel_rfl
theorem zql : hasBody Tryz.prog 133 = true := by kernel_rfl
theorem zqk : hasBody Tryz.prog 134 = true := by kernel_rfl
theorem zqj : hasBody Tryz.prog 137 = true := by kernel_rfl
theorem zqi : hasBody Tryz.prog 138 = true := by kernel_rfl
theorem zsy : hasBody Tryz.prog 14 = true := by kernel_rfl
theorem zqh : hasBody Tryz.prog 141 = true := by kernel_rfl
theorem zqg : hasBody Tryz.prog 142 = true := by kernel_rfl
theorem zqf : hasBody Tryz.prog 149 = true := by kernel_rfl
theorem zvu : hasBody Tryz.prog 15 = true := by kernel_rfl
theorem zqe : hasBody Tryz.prog 150 = true := by kernel_rfl
theorem zfg : hasBody Tryz.prog 16 = true := by kernel_rfl
theorem zvt : hasBody Tryz.prog 17 = true := by kernel_rfl
theorem zsx : hasBody Tryz.prog 18 = true := by kernel_rfl
theorem zsw : hasBody Tryz.prog 19 = true := by kernel_rfl
theorem zsv : hasBody Tryz.prog 20 = true := by kernel_rfl
theorem zsu : hasBody Tryz.prog 21 = true := by kernel_rfl
theorem zvs : hasBody Tryz.prog 22 = true := by kernel_rfl
theorem zst : hasBody Tryz.prog 34 = true := by kernel_rfl
theorem zss : hasBody Tryz.prog 36 = true := by kernel_rfl
theorem z5e : hasBody Tryz.prog 40 = true := by kernel_rfl
theorem zok : hasBody Tryz.prog 48 = true := by kernel_rfl
theorem zvr : hasBody Tryz.prog 52 = true := by kernel_rfl
theorem zvq : hasBody Tryz.prog 54 = true := by kernel_rfl
theorem zvp : hasBody Tryz.prog 55 = true := by kernel_rfl
theorem zbw : hasBody Tryz.prog 56 = true := by kernel_rfl
theorem zbv : hasBody Tryz.prog 57 = true := by kernel_rfl
theorem zmo : hasBody Tryz.prog 58 = true := by kernel_rfl
theorem zvo : hasBody Tryz.prog 60 = true := by kernel_rfl
theorem zsr : hasBody Tryz.prog 61 = true := by kernel_rfl
theorem zvn : hasBody Tryz.prog 62 = true := by kernel_rfl
theorem zoj : hasBody Tryz.prog 77 = true := by kernel_rfl
theorem zsq : hasBody Tryz.prog 80 = true := by kernel_rfl
theorem zvm : hasBody Tryz.prog 81 = true := by kernel_rfl
theorem zvl : hasBody Tryz.prog 82 = true := by kernel_rfl
theorem zvk : hasBody Tryz.prog 83 = true := by kernel_rfl
theorem zvj : hasBody Tryz.prog 84 = true := by kernel_rfl
theorem zvi : hasBody Tryz.prog 85 = true := by kernel_rfl
theorem zvh : hasBody Tryz.prog 86 = true := by kernel_rfl
theorem zvg : hasBody Tryz.prog 88 = true := by kernel_rfl
theorem zvf : hasBody Tryz.prog 89 = true := by kernel_rfl
theorem zve : hasBody Tryz.prog 90 = true := by kernel_rfl
theorem zi9 : lenK Tryz.prog 113 = some 0 := by kernel_rfl
theorem zi8 : lenK Tryz.prog 122 = some 0 := by kernel_rfl
theorem zi7 : lenK Tryz.prog 136 = some 0 := by kernel_rfl
theorem zm3 : lenK Tryz.prog 22 = some 0 := by kernel_rfl
theorem zm2 : lenK Tryz.prog 23 = some 0 := by kernel_rfl
theorem zm1 : lenK Tryz.prog 24 = some 0 := by kernel_rfl
theorem zm0 : lenK Tryz.prog 40 = some 0 := by kernel_rfl
theorem zcq : offF Tryz.prog 100 0 = some 0 := by kernel_rfl
theorem zcp : offF Tryz.prog 100 1 = some 7 := by kernel_rfl
theorem zco : offF Tryz.prog 100 2 = some 8 := by kernel_rfl
theorem zcn : offF Tryz.prog 104 0 = some 0 := by kernel_rfl
theorem zcm : offF Tryz.prog 104 1 = some 1 := by kernel_rfl
theorem zcl : offF Tryz.prog 108 0 = some 0 := by kernel_rfl
theorem zck : offF Tryz.prog 108 1 = some 1 := by kernel_rfl
theorem zcj : offF Tryz.prog 108 2 = some 2 := by kernel_rfl
theorem zci : offF Tryz.prog 112 0 = some 0 := by kernel_rfl
theorem zch : offF Tryz.prog 112 1 = some 1 := by kernel_rfl
theorem zcg : offF Tryz.prog 126 0 = some 0 := by kernel_rfl
theorem zcf : offF Tryz.prog 126 1 = some 7 := by kernel_rfl
theorem zce : offF Tryz.prog 132 0 = some 0 := by kernel_rfl
theorem zcd : offF Tryz.prog 132 1 = some 14 := by kernel_rfl
theorem zcc : offF Tryz.prog 132 2 = some 18 := by kernel_rfl
theorem zf5 : offF Tryz.prog 26 0 = some 0 := by kernel_rfl
theorem zf4 : offF Tryz.prog 26 1 = some 1 := by kernel_rfl
theorem zf3 : offF Tryz.prog 26 2 = some 2 := by kernel_rfl
theorem zf2 : offF Tryz.prog 26 3 = some 3 := by kernel_rfl
theorem zf1 : offF Tryz.prog 26 4 = some 4 := by kernel_rfl
theorem zf0 : offF Tryz.prog 26 5 = some 5 := by kernel_rfl
theorem zez : offF Tryz.prog 26 6 = some 6 := by kernel_rfl
theorem zey : offF Tryz.prog 28 0 = some 0 := by kernel_rfl
theorem zex : offF Tryz.prog 28 1 = some 1 := by kernel_rfl
theorem zew : offF Tryz.prog 71 0 = some 0 := by kernel_rfl
theorem zev : offF Tryz.prog 71 1 = some 1 := by kernel_rfl
theorem zeu : offF Tryz.prog 71 2 = some 2 := by kernel_rfl
theorem zet : offF Tryz.prog 71 3 = some 3 := by kernel_rfl
theorem zes : offF Tryz.prog 77 0 = some 0 := by kernel_rfl
theorem zer : offF Tryz.prog 79 0 = some 0 := by kernel_rfl
theorem zeq : offF Tryz.prog 79 1 = some 7 := by kernel_rfl
theorem zep : offF Tryz.prog 84 0 = some 0 := by kernel_rfl
theorem zeo : offF Tryz.prog 84 1 = some 1 := by kernel_rfl
theorem zen : offF Tryz.prog 89 0 = some 0 := by kernel_rfl
theorem zem : offF Tryz.prog 89 1 = some 1 := by kernel_rfl
theorem zel : offF Tryz.prog 89 2 = some 2 := by kernel_rfl
theorem zek : offF Tryz.prog 89 3 = some 3 := by kernel_rfl
theorem zke : tyS Tryz.prog 100 = some (true, 9) := by kernel_rfl
theorem zkd : tyS Tryz.prog 104 = some (true, 2) := by kernel_rfl
theorem zkc : tyS Tryz.prog 108 = some (true, 4) := by kernel_rfl
theorem zkb : tyS Tryz.prog 112 = some (true, 2) := by kernel_rfl
theorem zka : tyS Tryz.prog 124 = some (true, 7) := by kernel_rfl
theorem zk9 : tyS Tryz.prog 126 = some (true, 14) := by kernel_rfl
theorem zk8 : tyS Tryz.prog 128 = some (false, 1) := by kernel_rfl
theorem zk7 : tyS Tryz.prog 132 = some (true, 19) := by kernel_rfl
theorem zk6 : tyS Tryz.prog 134 = some (false, 1) := by kernel_rfl
theorem zk5 : tyS Tryz.prog 143 = some (false, 1) := by kernel_rfl
theorem zk4 : tyS Tryz.prog 149 = some (true, 5) := by kernel_rfl
theorem zk3 : tyS Tryz.prog 161 = some (false, 1) := by kernel_rfl
theorem zk2 : tyS Tryz.prog 164 = some (false, 1) := by kernel_rfl
theorem zpv : tyS Tryz.prog 22 = some (false, 1) := by kernel_rfl
theorem zpu : tyS Tryz.prog 23 = some (false, 1) := by kernel_rfl
theorem zpt : tyS Tryz.prog 24 = some (false, 1) := by kernel_rfl
theorem zps : tyS Tryz.prog 26 = some (true, 7) := by kernel_rfl
theorem zpr : tyS Tryz.prog 28 = some (true, 2) := by kernel_rfl
theorem ztj : tyS Tryz.prog 3 = some (false, 1) := by kernel_rfl
theorem zpq : tyS Tryz.prog 37 = some (false, 1) := by kernel_rfl
theorem zpp : tyS Tryz.prog 38 = some (false, 1) := by kernel_rfl
theorem zti : tyS Tryz.prog 4 = some (false, 1) := by kernel_rfl
theorem zpo : tyS Tryz.prog 71 = some (true, 4) := by kernel_rfl
theorem zpn : tyS Tryz.prog 77 = some (true, 7) := by kernel_rfl
theorem zpm : tyS Tryz.prog 79 = some (true, 9) := by kernel_rfl
theorem zpl : tyS Tryz.prog 81 = some (false, 1) := by kernel_rfl
theorem zpk : tyS Tryz.prog 82 = some (false, 1) := by kernel_rfl
theorem zpj : tyS Tryz.prog 84 = some (true, 2) := by kernel_rfl
theorem zpi : tyS Tryz.prog 89 = some (true, 4) := by kernel_rfl
theorem zph : tyS Tryz.prog 97 = some (false, 1) := by kernel_rfl
theorem zpg : tyS Tryz.prog 98 = some (false, 1) := by kernel_rfl
theorem zk1 : tyZ Tryz.prog 100 = some [(.slice none 0 0), (.slice none 0 0), (.int .i64 0), (.int .i64 0), (.int .i64 0), (.int .i64 0), (.slice none 0 0), (.map none), .nilFunc] := by kernel_rfl
theorem zk0 : tyZ Tryz.prog 104 = some [(.int .i64 0), (.int .i64 0)] := by kernel_rfl
theorem zjz : tyZ Tryz.prog 108 = some [(.int .i64 0), (.int .i64 0), (.int .i64 0), (.int .i64 0)] := by kernel_rfl
theorem zjy : tyZ Tryz.prog 112 = some [(.int .i64 0), (.int .i64 0)] := by kernel_rfl
theorem zjx : tyZ Tryz.prog 119 = some [(.slice none 0 0), (.slice none 0 0), (.slice none 0 0), (.slice none 0 0), (.slice none 0 0), (.slice none 0 0), (.slice none 0 0)] := by kernel_rfl
theorem zjw : tyZ Tryz.prog 120 = some [(.int .i64 0), (.int .i64 0), (.int .i64 0), (.int .i64 0), (.int .i64 0), (.int .i64 0), (.int .i64 0)] := by kernel_rfl
theorem zjv : tyZ Tryz.prog 124 = some [(.bool false), (.bool false), (.bool false), (.bool false), (.bool false), (.bool false), (.bool false)] := by kernel_rfl
theorem zju : tyZ Tryz.prog 126 = some [(.slice none 0 0), (.slice none 0 0), (.int .i64 0), (.int .i64 0), (.int .i64 0), (.int .i64 0), (.slice none 0 0), (.bool false), (.bool false), (.bool false), (.bool false), (.bool false), (.bool false), (.bool false)] := by kernel_rfl
theorem zjt : tyZ Tryz.prog 132 = some [(.slice none 0 0), (.slice none 0 0), (.int .i64 0), (.int .i64 0), (.int .i64 0), (.int .i64 0), (.slice none 0 0), (.bool false), (.bool false), (.bool false), (.bool false), (.bool false), (.bool false), (.bool false), (.int .i64 0), (.int .i64 0), (.slice none 0 0), (.int .i64 0), (.int .i64 0)] := by kernel_rfl
theorem zjs : tyZ Tryz.prog 143 = some [.nilFunc] := by kernel_rfl
theorem zjr : tyZ Tryz.prog 149 = some [(.int .i64 0), (.int .i64 0), (.int .i64 0), (.int .i64 0), (.int .i64 0)] := by kernel_rfl
theorem zpf : tyZ Tryz.prog 24 = some [(.slice none 0 0)] := by kernel_rfl
theorem zpe : tyZ Tryz.prog 26 = some [(.slice none 0 0), (.slice none 0 0), (.int .i64 0), (.int .i64 0), (.int .i64 0), (.int .i64 0), (.slice none 0 0)] := by kernel_rfl
theorem zpd : tyZ Tryz.prog 28 = some [(.int .i64 0), (.slice none 0 0)] := by kernel_rfl
theorem zth : tyZ Tryz.prog 3 = some [(.int .i64 0)] := by kernel_rfl
theorem zpc : tyZ Tryz.prog 37 = some [.nilFunc] := by kernel_rfl
theorem zpb : tyZ Tryz.prog 71 = some [(.int .i64 0), (.int .i64 0), (.slice none 0 0), (.int .i64 0)] := by kernel_rfl
theorem zpa : tyZ Tryz.prog 77 = some [(.slice none 0 0), (.slice none 0 0), (.int .i64 0), (.int .i64 0), (.int .i64 0), (.int .i64 0), (.slice none 0 0)] := by kernel_rfl
theorem zp9 : tyZ Tryz.prog 79 = some [(.slice none 0 0), (.slice none 0 0), (.int .i64 0), (.int .i64 0), (.int .i64 0), (.int .i64 0), (.slice none 0 0), (.int .i64 0), (.slice none 0 0)] := by kernel_rfl
theorem zp8 : tyZ Tryz.prog 84 = some [(.int .i64 0), (.int .i64 0)] := by kernel_rfl
theorem zp7 : tyZ Tryz.prog 89 = some [(.int .i64 0), (.int .i64 0), (.int .i64 0), (.bool false)] := by kernel_rfl
def s3 : SC :=
 (.seq (.reg [⟨some 3, (.box 26 (.tmp 0)), none⟩,
 ⟨some 4, (.box 28 (.tmp 1)), none⟩,
 ⟨some 6, (.assign (.const (.bool false))), none⟩])
 (.seq (.reg [⟨some 16, (.load 26 (.tmp 3)), none⟩,
 ⟨some 17, (.load 28 (.tmp 4)), none⟩,
 ⟨some 18, (.call ⟨(.value (.func 13)), #[(.tmp 16), (.tmp 17)], #[26, 28]⟩), none⟩,
 ⟨some 15, (.move (.tmp 18)), none⟩,
 ⟨some 19, (.extract (.tmp 15) 0), none⟩,
 ⟨some 20, (.extract (.tmp 15) 1), none⟩,
 ⟨some 7, (.assign (.tmp 19)), none⟩,
 ⟨some 8, (.assign (.tmp 20)), none⟩])
 (.seq (.reg [⟨some 22, (.load 26 (.tmp 3)), none⟩,
 ⟨some 23, (.load 28 (.tmp 4)), none⟩,
 ⟨some 24, (.call ⟨(.value (.func 14)), #[(.tmp 22), (.tmp 23)], #[26, 28]⟩), none⟩,
 ⟨some 21, (.move (.tmp 24)), none⟩,
 ⟨some 25, (.extract (.tmp 21) 0), none⟩,
 ⟨some 26, (.extract (.tmp 21) 1), none⟩,
 ⟨some 9, (.assign (.tmp 25)), none⟩,
 ⟨some 10, (.assign (.tmp 26)), none⟩])
 (.seq (.seq (.regD [⟨some 27, (.move (.tmp 7)), none⟩,
 ⟨some 28, (.move (.tmp 9)), none⟩,
 ⟨some 29, (.binOp .neq 4 (.tmp 27) (.tmp 28) 4), none⟩,
 ⟨some 30, (.move (.tmp 29)), none⟩,
 ⟨some 31, (.move (.tmp 8)), some (30, false)⟩,
 ⟨some 32, (.move (.tmp 10)), some (30, false)⟩,
 ⟨some 33, (.binOp .neq 29 (.tmp 31) (.tmp 32) 29), some (30, false)⟩,
 ⟨some 34, (.pick (.tmp 30) (.const (.bool true)) (.tmp 33)), none⟩,
 ⟨some 35, (.move (.tmp 34)), none⟩,
 ⟨some 36, (.load 26 (.tmp 3)), some (35, false)⟩,
 ⟨some 37, (.call ⟨(.value (.func 15)), #[(.tmp 36)], #[26]⟩), some (35, false)⟩,
 ⟨some 38, (.load 26 (.tmp 3)), some (35, false)⟩,
 ⟨some 39, (.call ⟨(.value (.func 16)), #[(.tmp 38)], #[26]⟩), some (35, false)⟩,
 ⟨some 40, (.binOp .neq 29 (.tmp 37) (.tmp 39) 29), some (35, false)⟩,
 ⟨some 41, (.pick (.tmp 35) (.const (.bool true)) (.tmp 40)), none⟩] [0, 0, 3, 7, 15, 15, 63, 127, 255, 511, 1023, 511, 4095, 8191, 16383])
 (.cond (.tmp 41) (.seq (.reg [⟨some 6, (.assign (.const (.bool false))), none⟩])
 .ret) .skip))
 (.seq (.reg [⟨some 43, (.load 26 (.tmp 3)), none⟩,
 ⟨some 44, (.load 28 (.tmp 4)), none⟩,
 ⟨some 45, (.move (.tmp 2)), none⟩,
 ⟨some 46, (.call ⟨(.value (.func 17)), #[(.tmp 43), (.tmp 44), (.tmp 45)], #[26, 28, 3]⟩), none⟩,
 ⟨some 42, (.move (.tmp 46)), none⟩,
 ⟨some 47, (.extract (.tmp 42) 0), none⟩,
 ⟨some 48, (.extract (.tmp 42) 1), none⟩,
 ⟨some 11, (.assign (.tmp 47)), none⟩,
 ⟨some 8, (.assign (.tmp 48)), none⟩])
 (.seq (.reg [⟨some 50, (.load 26 (.tmp 3)), none⟩,
 ⟨some 51, (.load 28 (.tmp 4)), none⟩,
 ⟨some 52, (.move (.tmp 2)), none⟩,
 ⟨some 53, (.call ⟨(.value (.func 18)), #[(.tmp 50), (.tmp 51), (.tmp 52)], #[26, 28, 3]⟩), none⟩,
 ⟨some 49, (.move (.tmp 53)), none⟩,
 ⟨some 54, (.extract (.tmp 49) 0), none⟩,
 ⟨some 55, (.extract (.tmp 49) 1), none⟩,
 ⟨some 12, (.assign (.tmp 54)), none⟩,
 ⟨some 10, (.assign (.tmp 55)), none⟩])
 (.seq (.seq (.reg [⟨some 56, (.move (.tmp 11)), none⟩,
 ⟨some 57, (.move (.tmp 12)), none⟩,
 ⟨some 58, (.binOp .neq 3 (.tmp 56) (.tmp 57) 3), none⟩,
 ⟨some 59, (.move (.tmp 58)), none⟩,
 ⟨some 60, (.move (.tmp 8)), some (59, false)⟩,
 ⟨some 61, (.move (.tmp 10)), some (59, false)⟩,
 ⟨some 62, (.binOp .neq 29 (.tmp 60) (.tmp 61) 29), some (59, false)⟩,
 ⟨some 63, (.pick (.tmp 59) (.const (.bool true)) (.tmp 62)), none⟩])
 (.cond (.tmp 63) (.seq (.reg [⟨some 6, (.assign (.const (.bool false))), none⟩])
 .ret) .skip))
 (.seq (.reg [⟨some 65, (.load 26 (.tmp 3)), none⟩,
 ⟨some 66, (.call ⟨(.value (.func 19)), #[(.tmp 65)], #[26]⟩), none⟩,
 ⟨some 64, (.move (.tmp 66)), none⟩,
 ⟨some 67, (.extract (.tmp 64) 0), none⟩,
 ⟨some 68, (.extract (.tmp 64) 1), none⟩,
 ⟨some 13, (.assign (.tmp 67)), none⟩,
 ⟨some 8, (.assign (.tmp 68)), none⟩])
 (.seq (.reg [⟨some 70, (.load 26 (.tmp 3)), none⟩,
 ⟨some 71, (.call ⟨(.value (.func 20)), #[(.tmp 70)], #[26]⟩), none⟩,
 ⟨some 69, (.move (.tmp 71)), none⟩,
 ⟨some 72, (.extract (.tmp 69) 0), none⟩,
 ⟨some 73, (.extract (.tmp 69) 1), none⟩,
 ⟨some 14, (.assign (.tmp 72)), none⟩,
 ⟨some 10, (.assign (.tmp 73)), none⟩])
 (.seq (.reg [⟨some 74, (.move (.tmp 13)), none⟩,
 ⟨some 75, (.move (.tmp 14)), none⟩,
 ⟨some 76, (.call ⟨(.value (.func 21)), #[(.tmp 74), (.tmp 75)], #[24, 24]⟩), none⟩,
 ⟨some 77, (.move (.tmp 76)), none⟩,
 ⟨some 78, (.move (.tmp 8)), some (77, true)⟩,
 ⟨some 79, (.move (.tmp 10)), some (77, true)⟩,
 ⟨some 80, (.binOp .eql 29 (.tmp 78) (.tmp 79) 29), some (77, true)⟩,
 ⟨some 81, (.pick (.tmp 77) (.tmp 80) (.const (.bool false))), none⟩,
 ⟨some 82, (.move (.tmp 81)), none⟩,
 ⟨some 83, (.call ⟨(.value (.func 22)), #[], #[]⟩), some (82, true)⟩,
 ⟨some 84, (.pick (.tmp 82) (.tmp 83) (.const (.bool false))), none⟩,
 ⟨some 6, (.assign (.tmp 84)), none⟩])
 .ret))))))))))
theorem fun3 : Fun Tryz.prog vmL 3 85 [(.tmp 6)] s3 := Fun.of Tryz.func3 (by kernel_rfl) (by kernel_rfl) rfl rfl (by decide)
def s13 : SC :=
 (.seq (.reg [⟨some 2, (.box 26 (.tmp 0)), none⟩,
 ⟨some 3, (.box 28 (.tmp 1)), none⟩,
 ⟨some 4, (.assign (.const (.bool false))), none⟩,
 ⟨some 5, (.assign (.const (.int .i64 0))), none⟩])
 (.seq (.reg [⟨some 8, (.load 26 (.tmp 2)), none⟩,
 ⟨some 9, (.build 77 #[(0, (.tmp 8))]), none⟩,
 ⟨some 10, (.load 28 (.tmp 3)), none⟩,
 ⟨some 11, (.build 79 #[(0, (.tmp 9)), (1, (.tmp 10))]), none⟩,
 ⟨some 6, (.alloc 79), none⟩,
 ⟨none, (.store 79 (.tmp 6) (.tmp 11)), none⟩])
 (.seq (.seq (.reg [⟨some 12, (.fieldAddr 79 (.tmp 6) 0), none⟩,
 ⟨some 13, (.load 77 (.tmp 12)), none⟩,
 ⟨some 14, (.load 79 (.tmp 6)), none⟩,
 ⟨some 15, (.makeFunc (.func 53) #[(.tmp 14)] #[]), none⟩,
 ⟨some 16, (.buildSlice 122 1 #[(0, (.tmp 15))]), none⟩,
 ⟨some 17, (.call ⟨(.value (.func 52)), #[(.tmp 13), (.tmp 16)], #[77, 122]⟩), none⟩,
 ⟨some 7, (.assign (.tmp 17)), none⟩])
 (.seq (.reg [⟨some 18, (.move (.tmp 7)), none⟩,
 ⟨some 19, (.binOp .neq 29 (.tmp 18) (.const (.int .i64 0)) 29), none⟩])
 (.cond (.tmp 19) (.seq (.reg [⟨some 20, (.move (.tmp 7)), none⟩,
 ⟨some 4, (.assign (.const (.bool false))), none⟩,
 ⟨some 5, (.assign (.tmp 20)), none⟩])
 .ret) .skip)))
 (.seq (.regD [⟨some 21, (.fieldAddr 79 (.tmp 6) 0), none⟩,
 ⟨some 22, (.load 77 (.tmp 21)), none⟩,
 ⟨some 23, (.load 79 (.tmp 6)), none⟩,
 ⟨some 24, (.call ⟨(.value (.func 55)), #[(.tmp 23)], #[79]⟩), none⟩,
 ⟨some 25, (.call ⟨(.value (.func 54)), #[(.tmp 22), (.tmp 24)], #[77, 84]⟩), none⟩,
 ⟨some 4, (.assign (.tmp 25)), none⟩,
 ⟨some 5, (.assign (.const (.int .i64 0))), none⟩] [0, 1, 0, 4, 15, 31, 63])
 .ret))))
theorem fun13 : Fun Tryz.prog vmL 13 26 [(.tmp 4), (.tmp 5)] s13 := Fun.of Tryz.func13 (by kernel_rfl) (by kernel_rfl) rfl rfl (by decide)
def s14 : SC :=
 (.seq (.reg [⟨some 2, (.box 26 (.tmp 0)), none⟩,
 ⟨some 3, (.box 28 (.tmp 1)), none⟩,
 ⟨some 4, (.assign (.const (.bool false))), none⟩,
 ⟨some 5, (.assign (.const (.int .i64 0))), none⟩])
 (.seq (.seq (.regD [⟨some 7, (.load 26 (.tmp 2)), none⟩,
 ⟨some 8, (.load 26 (.tmp 2)), none⟩,
 ⟨some 9, (.load 28 (.tmp 3)), none⟩,
 ⟨some 10, (.call ⟨(.value (.func 57)), #[(.tmp 8), (.tmp 9)], #[26, 28]⟩), none⟩,
 ⟨some 11, (.call ⟨(.value (.func 56)), #[(.tmp 7), (.tmp 10)], #[26, 4]⟩), none⟩,
 ⟨some 6, (.assign (.tmp 11)), none⟩] [0, 0, 0, 6, 15, 31])
 (.seq (.reg [⟨some 12, (.move (.tmp 6)), none⟩,
 ⟨some 13, (.binOp .neq 29 (.tmp 12) (.const (.int .i64 0)) 29), none⟩])
 (.cond (.tmp 13) (.seq (.reg [⟨some 14, (.move (.tmp 6)), none⟩,
 ⟨some 4, (.assign (.const (.bool false))), none⟩,
 ⟨some 5, (.assign (.tmp 14)), none⟩])
 .ret) .skip)))
 (.seq (.reg [⟨some 15, (.load 26 (.tmp 2)), none⟩,
 ⟨some 16, (.load 28 (.tmp 3)), none⟩,
 ⟨some 17, (.call ⟨(.value (.func 58)), #[(.tmp 15), (.tmp 16)], #[26, 28]⟩), none⟩,
 ⟨some 4, (.assign (.tmp 17)), none⟩,
 ⟨some 5, (.assign (.const (.int .i64 0))), none⟩])
 .ret)))
theorem fun14 : Fun Tryz.prog vmL 14 18 [(.tmp 4), (.tmp 5)] s14 := Fun.of Tryz.func14 (by kernel_rfl) (by kernel_rfl) rfl rfl (by decide)
def s15 : SC :=
 (.seq (.reg [⟨some 1, (.box 26 (.tmp 0)), none⟩,
 ⟨some 2, (.assign (.const (.int .i64 0))), none⟩])
 (.seq (.reg [⟨some 3, (.load 26 (.tmp 1)), none⟩,
 ⟨some 4, (.build 77 #[(0, (.tmp 3))]), none⟩,
 ⟨some 5, (.call ⟨(.value (.func 52)), #[(.tmp 4), (.const (.slice none 0 0))], #[77, 122]⟩), none⟩,
 ⟨some 2, (.assign (.tmp 5)), none⟩])
 .ret))
theorem fun15 : Fun Tryz.prog vmL 15 6 [(.tmp 2)] s15 := Fun.of Tryz.func15 (by kernel_rfl) (by kernel_rfl) rfl rfl (by decide)
def zjb : SC :=
 (.seq (.seq (.reg [⟨some 47, (.move (.tmp 3)), none⟩,
 ⟨some 48, (.move (.tmp 47)), none⟩,
 ⟨some 49, (.move (.tmp 4)), some (48, true)⟩,
 ⟨some 50, (.fieldAddr 26 (.tmp 1) 0), some (48, true)⟩,
 ⟨some 51, (.load 22 (.tmp 50)), some (48, true)⟩,
 ⟨some 52, (.call ⟨(.builtin .len), #[(.tmp 51)], #[22]⟩), some (48, true)⟩,
 ⟨some 53, (.binOp .lss 3 (.tmp 49) (.tmp 52) 3), some (48, true)⟩,
 ⟨some 54, (.pick (.tmp 48) (.tmp 53) (.const (.bool false))), none⟩])
 (.cond (.tmp 54) .skip (.exit 0)))
 (.seq (.block 1 (.seq (.reg [⟨some 57, (.fieldAddr 26 (.tmp 1) 0), none⟩,
 ⟨some 58, (.load 22 (.tmp 57)), none⟩,
 ⟨some 59, (.move (.tmp 4)), none⟩,
 ⟨some 60, (.indexAddr 22 (.tmp 58) (.tmp 59)), none⟩,
 ⟨some 61, (.load 89 (.tmp 60)), none⟩,
 ⟨some 5, (.alloc 89), none⟩,
 ⟨none, (.store 89 (.tmp 5) (.tmp 61)), none⟩])
 (.reg [⟨some 62, (.fieldAddr 89 (.tmp 5) 0), none⟩,
 ⟨some 63, (.load 3 (.tmp 62)), none⟩,
 ⟨some 64, (.call ⟨(.value (.func 40)), #[(.tmp 63), (.const (.int .i64 1)), (.const (.int .i64 500))], #[3, 3, 3]⟩), none⟩,
 ⟨some 65, (.move (.tmp 64)), none⟩,
 ⟨some 66, (.fieldAddr 89 (.tmp 5) 1), some (65, true)⟩,
 ⟨some 67, (.load 3 (.tmp 66)), some (65, true)⟩,
 ⟨some 68, (.call ⟨(.value (.func 40)), #[(.tmp 67), (.const (.int .i64 1)), (.const (.int .i64 5000))], #[3, 3, 3]⟩), some (65, true)⟩,
 ⟨some 69, (.pick (.tmp 65) (.tmp 68) (.const (.bool false))), none⟩,
 ⟨some 70, (.move (.tmp 69)), none⟩,
 ⟨some 71, (.fieldAddr 89 (.tmp 5) 2), some (70, true)⟩,
 ⟨some 72, (.load 3 (.tmp 71)), some (70, true)⟩,
 ⟨some 73, (.call ⟨(.value (.func 40)), #[(.tmp 72), (.const (.int .i64 0)), (.const (.int .i64 10000))], #[3, 3, 3]⟩), some (70, true)⟩,
 ⟨some 74, (.pick (.tmp 70) (.tmp 73) (.const (.bool false))), none⟩,
 ⟨some 3, (.assign (.tmp 74)), none⟩])))
 (.reg [⟨some 55, (.move (.tmp 4)), none⟩,
 ⟨some 56, (.binOp .add 3 (.tmp 55) (.const (.int .i64 1)) 3), none⟩,
 ⟨some 4, (.assign (.tmp 56)), none⟩])))
def zja : SC :=
 (.seq (.seq (.reg [⟨some 109, (.move (.tmp 3)), none⟩,
 ⟨some 110, (.move (.tmp 109)), none⟩,
 ⟨some 111, (.move (.tmp 8)), some (110, true)⟩,
 ⟨some 112, (.binOp .lss 3 (.tmp 111) (.const (.int .i64 5)) 3), some (110, true)⟩,
 ⟨some 113, (.pick (.tmp 110) (.tmp 112) (.const (.bool false))), none⟩])
 (.cond (.tmp 113) .skip (.exit 4)))
 (.seq (.block 5 (.reg [⟨some 116, (.fieldAddr 71 (.tmp 7) 2), none⟩,
 ⟨some 117, (.load 24 (.tmp 116)), none⟩,
 ⟨some 118, (.move (.tmp 8)), none⟩,
 ⟨some 119, (.indexAddr 24 (.tmp 117) (.tmp 118)), none⟩,
 ⟨some 120, (.load 3 (.tmp 119)), none⟩,
 ⟨some 121, (.call ⟨(.value (.func 40)), #[(.tmp 120), (.const (.int .i64 1)), (.const (.int .i64 1000))], #[3, 3, 3]⟩), none⟩,
 ⟨some 3, (.assign (.tmp 121)), none⟩]))
 (.reg [⟨some 114, (.move (.tmp 8)), none⟩,
 ⟨some 115, (.binOp .add 3 (.tmp 114) (.const (.int .i64 1)) 3), none⟩,
 ⟨some 8, (.assign (.tmp 115)), none⟩])))
def zgy : SC :=
 (.seq (.seq (.reg [⟨some 75, (.move (.tmp 3)), none⟩,
 ⟨some 76, (.move (.tmp 75)), none⟩,
 ⟨some 77, (.move (.tmp 6)), some (76, true)⟩,
 ⟨some 78, (.fieldAddr 26 (.tmp 1) 1), some (76, true)⟩,
 ⟨some 79, (.load 23 (.tmp 78)), some (76, true)⟩,
 ⟨some 80, (.call ⟨(.builtin .len), #[(.tmp 79)], #[23]⟩), some (76, true)⟩,
 ⟨some 81, (.binOp .lss 3 (.tmp 77) (.tmp 80) 3), some (76, true)⟩,
 ⟨some 82, (.pick (.tmp 76) (.tmp 81) (.const (.bool false))), none⟩])
 (.cond (.tmp 82) .skip (.exit 2)))
 (.seq (.block 3 (.seq (.reg [⟨some 85, (.fieldAddr 26 (.tmp 1) 1), none⟩,
 ⟨some 86, (.load 23 (.tmp 85)), none⟩,
 ⟨some 87, (.move (.tmp 6)), none⟩,
 ⟨some 88, (.indexAddr 23 (.tmp 86) (.tmp 87)), none⟩,
 ⟨some 89, (.load 71 (.tmp 88)), none⟩,
 ⟨some 7, (.alloc 71), none⟩,
 ⟨none, (.store 71 (.tmp 7) (.tmp 89)), none⟩])
 (.seq (.reg [⟨some 90, (.fieldAddr 71 (.tmp 7) 0), none⟩,
 ⟨some 91, (.load 3 (.tmp 90)), none⟩,
 ⟨some 92, (.call ⟨(.value (.func 40)), #[(.tmp 91), (.const (.int .i64 1)), (.const (.int .i64 500))], #[3, 3, 3]⟩), none⟩,
 ⟨some 93, (.move (.tmp 92)), none⟩,
 ⟨some 94, (.fieldAddr 71 (.tmp 7) 1), some (93, true)⟩,
 ⟨some 95, (.load 3 (.tmp 94)), some (93, true)⟩,
 ⟨some 96, (.call ⟨(.value (.func 40)), #[(.tmp 95), (.const (.int .i64 1)), (.const (.int .i64 5000))], #[3, 3, 3]⟩), some (93, true)⟩,
 ⟨some 97, (.pick (.tmp 93) (.tmp 96) (.const (.bool false))), none⟩,
 ⟨some 98, (.move (.tmp 97)), none⟩,
 ⟨some 99, (.fieldAddr 71 (.tmp 7) 2), some (98, true)⟩,
 ⟨some 100, (.load 24 (.tmp 99)), some (98, true)⟩,
 ⟨some 101, (.call ⟨(.builtin .len), #[(.tmp 100)], #[24]⟩), some (98, true)⟩,
 ⟨some 102, (.binOp .eql 3 (.tmp 101) (.const (.int .i64 5)) 3), some (98, true)⟩,
 ⟨some 103, (.pick (.tmp 98) (.tmp 102) (.const (.bool false))), none⟩,
 ⟨some 104, (.move (.tmp 103)), none⟩,
 ⟨some 105, (.fieldAddr 71 (.tmp 7) 3), some (104, true)⟩,
 ⟨some 106, (.load 3 (.tmp 105)), some (104, true)⟩,
 ⟨some 107, (.call ⟨(.value (.func 40)), #[(.tmp 106), (.const (.int .i64 0)), (.const (.int .i64 1000))], #[3, 3, 3]⟩), some (104, true)⟩,
 ⟨some 108, (.pick (.tmp 104) (.tmp 107) (.const (.bool false))), none⟩,
 ⟨some 3, (.assign (.tmp 108)), none⟩])
 (.seq (.reg [⟨some 8, (.assign (.const (.int .i64 0))), none⟩])
 (.block 4 (.loop zja))))))
 (.reg [⟨some 83, (.move (.tmp 6)), none⟩,
 ⟨some 84, (.binOp .add 3 (.tmp 83) (.const (.int .i64 1)) 3), none⟩,
 ⟨some 6, (.assign (.tmp 84)), none⟩])))
def zj9 : SC :=
 (.seq (.seq (.reg [⟨some 122, (.move (.tmp 3)), none⟩,
 ⟨some 123, (.move (.tmp 122)), none⟩,
 ⟨some 124, (.move (.tmp 10)), some (123, true)⟩,
 ⟨some 125, (.fieldAddr 26 (.tmp 1) 6), some (123, true)⟩,
 ⟨some 126, (.load 24 (.tmp 125)), some (123, true)⟩,
 ⟨some 127, (.call ⟨(.builtin .len), #[(.tmp 126)], #[24]⟩), some (123, true)⟩,
 ⟨some 128, (.binOp .lss 3 (.tmp 124) (.tmp 127) 3), some (123, true)⟩,
 ⟨some 129, (.pick (.tmp 123) (.tmp 128) (.const (.bool false))), none⟩])
 (.cond (.tmp 129) .skip (.exit 6)))
 (.seq (.block 7 (.seq (.reg [⟨some 132, (.fieldAddr 26 (.tmp 1) 6), none⟩,
 ⟨some 133, (.load 24 (.tmp 132)), none⟩,
 ⟨some 134, (.move (.tmp 10)), none⟩,
 ⟨some 135, (.indexAddr 24 (.tmp 133) (.tmp 134)), none⟩,
 ⟨some 136, (.load 3 (.tmp 135)), none⟩,
 ⟨some 137, (.move (.tmp 9)), none⟩,
 ⟨some 138, (.call ⟨(.value (.func 40)), #[(.tmp 136), (.tmp 137), (.const (.int .i64 1000))], #[3, 3, 3]⟩), none⟩,
 ⟨some 3, (.assign (.tmp 138)), none⟩])
 (.reg [⟨some 139, (.fieldAddr 26 (.tmp 1) 6), none⟩,
 ⟨some 140, (.load 24 (.tmp 139)), none⟩,
 ⟨some 141, (.move (.tmp 10)), none⟩,
 ⟨some 142, (.indexAddr 24 (.tmp 140) (.tmp 141)), none⟩,
 ⟨some 143, (.load 3 (.tmp 142)), none⟩,
 ⟨some 144, (.binOp .add 3 (.tmp 143) (.const (.int .i64 1)) 3), none⟩,
 ⟨some 9, (.assign (.tmp 144)), none⟩])))
 (.reg [⟨some 130, (.move (.tmp 10)), none⟩,
 ⟨some 131, (.binOp .add 3 (.tmp 130) (.const (.int .i64 1)) 3), none⟩,
 ⟨some 10, (.assign (.tmp 131)), none⟩])))
def s16 : SC :=
 (.seq (.reg [⟨some 1, (.box 26 (.tmp 0)), none⟩,
 ⟨some 2, (.assign (.const (.int .i64 0))), none⟩])
 (.seq (.reg [⟨some 11, (.fieldAddr 26 (.tmp 1) 0), none⟩,
 ⟨some 12, (.load 22 (.tmp 11)), none⟩,
 ⟨some 13, (.call ⟨(.builtin .len), #[(.tmp 12)], #[22]⟩), none⟩,
 ⟨some 14, (.call ⟨(.value (.func 40)), #[(.tmp 13), (.const (.int .i64 1)), (.const (.int .i64 7))], #[3, 3, 3]⟩), none⟩,
 ⟨some 15, (.move (.tmp 14)), none⟩,
 ⟨some 16, (.fieldAddr 26 (.tmp 1) 1), some (15, true)⟩,
 ⟨some 17, (.load 23 (.tmp 16)), some (15, true)⟩,
 ⟨some 18, (.call ⟨(.builtin .len), #[(.tmp 17)], #[23]⟩), some (15, true)⟩,
 ⟨some 19, (.call ⟨(.value (.func 40)), #[(.tmp 18), (.const (.int .i64 1)), (.const (.int .i64 4))], #[3, 3, 3]⟩), some (15, true)⟩,
 ⟨some 20, (.pick (.tmp 15) (.tmp 19) (.const (.bool false))), none⟩,
 ⟨some 21, (.move (.tmp 20)), none⟩,
 ⟨some 22, (.fieldAddr 26 (.tmp 1) 2), some (21, true)⟩,
 ⟨some 23, (.load 3 (.tmp 22)), some (21, true)⟩,
 ⟨some 24, (.call ⟨(.value (.func 40)), #[(.tmp 23), (.const (.int .i64 1)), (.const (.int .i64 5000))], #[3, 3, 3]⟩), some (21, true)⟩,
 ⟨some 25, (.pick (.tmp 21) (.tmp 24) (.const (.bool false))), none⟩,
 ⟨some 26, (.move (.tmp 25)), none⟩,
 ⟨some 27, (.fieldAddr 26 (.tmp 1) 3), some (26, true)⟩,
 ⟨some 28, (.load 3 (.tmp 27)), some (26, true)⟩,
 ⟨some 29, (.call ⟨(.value (.func 40)), #[(.tmp 28), (.const (.int .i64 0)), (.const (.int .i64 10000))], #[3, 3, 3]⟩), some (26, true)⟩,
 ⟨some 30, (.pick (.tmp 26) (.tmp 29) (.const (.bool false))), none⟩,
 ⟨some 31, (.move (.tmp 30)), none⟩,
 ⟨some 32, (.fieldAddr 26 (.tmp 1) 4), some (31, true)⟩,
 ⟨some 33, (.load 3 (.tmp 32)), some (31, true)⟩,
 ⟨some 34, (.call ⟨(.value (.func 40)), #[(.tmp 33), (.const (.int .i64 1)), (.const (.int .i64 10000))], #[3, 3, 3]⟩), some (31, true)⟩,
 ⟨some 35, (.pick (.tmp 31) (.tmp 34) (.const (.bool false))), none⟩,
 ⟨some 36, (.move (.tmp 35)), none⟩,
 ⟨some 37, (.fieldAddr 26 (.tmp 1) 5), some (36, true)⟩,
 ⟨some 38, (.load 3 (.tmp 37)), some (36, true)⟩,
 ⟨some 39, (.call ⟨(.value (.func 40)), #[(.tmp 38), (.const (.int .i64 0)), (.const (.int .i64 1000))], #[3, 3, 3]⟩), some (36, true)⟩,
 ⟨some 40, (.pick (.tmp 36) (.tmp 39) (.const (.bool false))), none⟩,
 ⟨some 41, (.move (.tmp 40)), none⟩,
 ⟨some 42, (.fieldAddr 26 (.tmp 1) 6), some (41, true)⟩,
 ⟨some 43, (.load 24 (.tmp 42)), some (41, true)⟩,
 ⟨some 44, (.call ⟨(.builtin .len), #[(.tmp 43)], #[24]⟩), some (41, true)⟩,
 ⟨some 45, (.call ⟨(.value (.func 40)), #[(.tmp 44), (.const (.int .i64 1)), (.const (.int .i64 5))], #[3, 3, 3]⟩), some (41, true)⟩,
 ⟨some 46, (.pick (.tmp 41) (.tmp 45) (.const (.bool false))), none⟩,
 ⟨some 3, (.assign (.tmp 46)), none⟩])
 (.seq (.seq (.reg [⟨some 4, (.assign (.const (.int .i64 0))), none⟩])
 (.block 0 (.loop zjb)))
 (.seq (.seq (.reg [⟨some 6, (.assign (.const (.int .i64 0))), none⟩])
 (.block 2 (.loop zgy)))
 (.seq (.reg [⟨some 9, (.assign (.const (.int .i64 1))), none⟩])
 (.seq (.seq (.reg [⟨some 10, (.assign (.const (.int .i64 0))), none⟩])
 (.block 6 (.loop zj9)))
 (.seq (.seq (.reg [⟨some 145, (.move (.tmp 3)), none⟩,
 ⟨some 146, (.unOp .not 4 (.tmp 145)), none⟩])
 (.cond (.tmp 146) (.seq (.reg [⟨some 2, (.assign (.const (.int .i64 60))), none⟩])
 .ret) .skip))
 (.seq (.reg [⟨some 2, (.assign (.const (.int .i64 0))), none⟩])
 .ret))))))))
theorem fun16 : Fun Tryz.prog vmL 16 147 [(.tmp 2)] s16 := Fun.of Tryz.func16 (by kernel_rfl) (by kernel_rfl) rfl rfl (by decide)
def s17 : SC :=
 (.seq (.reg [⟨some 3, (.box 26 (.tmp 0)), none⟩,
 ⟨some 4, (.box 28 (.tmp 1)), none⟩,
 ⟨some 6, (.assign (.const (.int .i64 0))), none⟩,
 ⟨some 7, (.assign (.const (.int .i64 0))), none⟩])
 (.seq (.reg [⟨some 10, (.load 26 (.tmp 3)), none⟩,
 ⟨some 11, (.build 77 #[(0, (.tmp 10))]), none⟩,
 ⟨some 12, (.load 28 (.tmp 4)), none⟩,
 ⟨some 13, (.build 79 #[(0, (.tmp 11)), (1, (.tmp 12))]), none⟩,
 ⟨some 8, (.alloc 79), none⟩,
 ⟨none, (.store 79 (.tmp 8) (.tmp 13)), none⟩])
 (.seq (.seq (.reg [⟨some 14, (.fieldAddr 79 (.tmp 8) 0), none⟩,
 ⟨some 15, (.load 77 (.tmp 14)), none⟩,
 ⟨some 16, (.load 79 (.tmp 8)), none⟩,
 ⟨some 17, (.makeFunc (.func 53) #[(.tmp 16)] #[]), none⟩,
 ⟨some 18, (.move (.tmp 2)), none⟩,
 ⟨some 19, (.makeFunc (.func 59) #[(.tmp 18)] #[]), none⟩,
 ⟨some 20, (.buildSlice 122 2 #[(0, (.tmp 17)), (1, (.tmp 19))]), none⟩,
 ⟨some 21, (.call ⟨(.value (.func 52)), #[(.tmp 15), (.tmp 20)], #[77, 122]⟩), none⟩,
 ⟨some 9, (.assign (.tmp 21)), none⟩])
 (.seq (.reg [⟨some 22, (.move (.tmp 9)), none⟩,
 ⟨some 23, (.binOp .neq 29 (.tmp 22) (.const (.int .i64 0)) 29), none⟩])
 (.cond (.tmp 23) (.seq (.reg [⟨some 24, (.move (.tmp 9)), none⟩,
 ⟨some 6, (.assign (.const (.int .i64 0))), none⟩,
 ⟨some 7, (.assign (.tmp 24)), none⟩])
 .ret) .skip)))
 (.seq (.seq (.regD [⟨some 25, (.fieldAddr 79 (.tmp 8) 0), none⟩,
 ⟨some 26, (.load 77 (.tmp 25)), none⟩,
 ⟨some 27, (.load 79 (.tmp 8)), none⟩,
 ⟨some 28, (.call ⟨(.value (.func 55)), #[(.tmp 27)], #[79]⟩), none⟩,
 ⟨some 29, (.call ⟨(.value (.func 54)), #[(.tmp 26), (.tmp 28)], #[77, 84]⟩), none⟩,
 ⟨some 30, (.unOp .not 4 (.tmp 29)), none⟩] [0, 1, 0, 4, 15, 31])
 (.cond (.tmp 30) (.seq (.reg [⟨some 6, (.assign (.const (.int .i64 0))), none⟩,
 ⟨some 7, (.assign (.const (.int .i64 4))), none⟩])
 .ret) .skip))
 (.seq (.regD [⟨some 31, (.fieldAddr 79 (.tmp 8) 0), none⟩,
 ⟨some 32, (.load 77 (.tmp 31)), none⟩,
 ⟨some 33, (.load 79 (.tmp 8)), none⟩,
 ⟨some 34, (.call ⟨(.value (.func 55)), #[(.tmp 33)], #[79]⟩), none⟩,
 ⟨some 35, (.move (.tmp 2)), none⟩,
 ⟨some 36, (.call ⟨(.value (.func 60)), #[(.tmp 32), (.tmp 34), (.tmp 35)], #[77, 84, 3]⟩), none⟩,
 ⟨some 6, (.assign (.tmp 36)), none⟩,
 ⟨some 7, (.assign (.const (.int .i64 0))), none⟩] [0, 1, 0, 4, 0, 31, 63, 127])
 .ret)))))
theorem fun17 : Fun Tryz.prog vmL 17 37 [(.tmp 6), (.tmp 7)] s17 := Fun.of Tryz.func17 (by kernel_rfl) (by kernel_rfl) rfl rfl (by decide)
def s18 : SC :=
 (.seq (.reg [⟨some 3, (.box 26 (.tmp 0)), none⟩,
 ⟨some 4, (.box 28 (.tmp 1)), none⟩,
 ⟨some 6, (.assign (.const (.int .i64 0))), none⟩,
 ⟨some 7, (.assign (.const (.int .i64 0))), none⟩])
 (.seq (.seq (.regD [⟨some 9, (.load 26 (.tmp 3)), none⟩,
 ⟨some 10, (.load 26 (.tmp 3)), none⟩,
 ⟨some 11, (.load 28 (.tmp 4)), none⟩,
 ⟨some 12, (.call ⟨(.value (.func 57)), #[(.tmp 10), (.tmp 11)], #[26, 28]⟩), none⟩,
 ⟨some 13, (.move (.tmp 12)), none⟩,
 ⟨some 14, (.move (.tmp 2)), some (13, true)⟩,
 ⟨some 15, (.call ⟨(.value (.func 40)), #[(.tmp 14), (.const (.int .i64 0)), (.const (.int .i64 4))], #[3, 3, 3]⟩), some (13, true)⟩,
 ⟨some 16, (.pick (.tmp 13) (.tmp 15) (.const (.bool false))), none⟩,
 ⟨some 17, (.call ⟨(.value (.func 56)), #[(.tmp 9), (.tmp 16)], #[26, 4]⟩), none⟩,
 ⟨some 8, (.assign (.tmp 17)), none⟩] [0, 0, 0, 6, 14, 30, 62, 126, 255, 511])
 (.seq (.reg [⟨some 18, (.move (.tmp 8)), none⟩,
 ⟨some 19, (.binOp .neq 29 (.tmp 18) (.const (.int .i64 0)) 29), none⟩])
 (.cond (.tmp 19) (.seq (.reg [⟨some 20, (.move (.tmp 8)), none⟩,
 ⟨some 6, (.assign (.const (.int .i64 0))), none⟩,
 ⟨some 7, (.assign (.tmp 20)), none⟩])
 .ret) .skip)))
 (.seq (.seq (.reg [⟨some 21, (.load 26 (.tmp 3)), none⟩,
 ⟨some 22, (.load 28 (.tmp 4)), none⟩,
 ⟨some 23, (.call ⟨(.value (.func 58)), #[(.tmp 21), (.tmp 22)], #[26, 28]⟩), none⟩,
 ⟨some 24, (.unOp .not 4 (.tmp 23)), none⟩])
 (.cond (.tmp 24) (.seq (.reg [⟨some 6, (.assign (.const (.int .i64 0))), none⟩,
 ⟨some 7, (.assign (.const (.int .i64 4))), none⟩])
 .ret) .skip))
 (.seq (.reg [⟨some 25, (.load 26 (.tmp 3)), none⟩,
 ⟨some 26, (.load 28 (.tmp 4)), none⟩,
 ⟨some 27, (.move (.tmp 2)), none⟩,
 ⟨some 28, (.call ⟨(.value (.func 61)), #[(.tmp 25), (.tmp 26), (.tmp 27)], #[26, 28, 3]⟩), none⟩,
 ⟨some 6, (.assign (.tmp 28)), none⟩,
 ⟨some 7, (.assign (.const (.int .i64 0))), none⟩])
 .ret))))
theorem fun18 : Fun Tryz.prog vmL 18 29 [(.tmp 6), (.tmp 7)] s18 := Fun.of Tryz.func18 (by kernel_rfl) (by kernel_rfl) rfl rfl (by decide)
def s19 : SC :=
 (.seq (.reg [⟨some 1, (.box 26 (.tmp 0)), none⟩,
 ⟨some 2, (.assign (.const (.slice none 0 0))), none⟩,
 ⟨some 3, (.assign (.const (.int .i64 0))), none⟩])
 (.seq (.seq (.reg [⟨some 5, (.load 26 (.tmp 1)), none⟩,
 ⟨some 6, (.call ⟨(.value (.func 15)), #[(.tmp 5)], #[26]⟩), none⟩,
 ⟨some 4, (.assign (.tmp 6)), none⟩])
 (.seq (.reg [⟨some 7, (.move (.tmp 4)), none⟩,
 ⟨some 8, (.binOp .neq 29 (.tmp 7) (.const (.int .i64 0)) 29), none⟩])
 (.cond (.tmp 8) (.seq (.reg [⟨some 9, (.move (.tmp 4)), none⟩,
 ⟨some 2, (.assign (.const (.slice none 0 0))), none⟩,
 ⟨some 3, (.assign (.tmp 9)), none⟩])
 .ret) .skip)))
 (.seq (.reg [⟨some 10, (.load 26 (.tmp 1)), none⟩,
 ⟨some 11, (.build 77 #[(0, (.tmp 10))]), none⟩,
 ⟨some 12, (.call ⟨(.value (.func 62)), #[(.tmp 11)], #[77]⟩), none⟩,
 ⟨some 2, (.assign (.tmp 12)), none⟩,
 ⟨some 3, (.assign (.const (.int .i64 0))), none⟩])
 .ret)))
theorem fun19 : Fun Tryz.prog vmL 19 13 [(.tmp 2), (.tmp 3)] s19 := Fun.of Tryz.func19 (by kernel_rfl) (by kernel_rfl) rfl rfl (by decide)
def zj8 : SC :=
 (.seq (.seq (.reg [⟨some 21, (.move (.tmp 8)), none⟩,
 ⟨some 22, (.fieldAddr 26 (.tmp 1) 1), none⟩,
 ⟨some 23, (.load 23 (.tmp 22)), none⟩,
 ⟨some 24, (.call ⟨(.builtin .len), #[(.tmp 23)], #[23]⟩), none⟩,
 ⟨some 25, (.binOp .lss 3 (.tmp 21) (.tmp 24) 3), none⟩])
 (.cond (.tmp 25) .skip (.exit 2)))
 (.seq (.block 3 (.reg [⟨some 28, (.move (.tmp 7)), none⟩,
 ⟨some 29, (.move (.tmp 28)), none⟩,
 ⟨some 30, (.load 26 (.tmp 1)), some (29, true)⟩,
 ⟨some 31, (.move (.tmp 8)), some (29, true)⟩,
 ⟨some 32, (.move (.tmp 6)), some (29, true)⟩,
 ⟨some 33, (.buildSlice 24 1 #[(0, (.tmp 32))]), some (29, true)⟩,
 ⟨some 34, (.build 28 #[(0, (.tmp 31)), (1, (.tmp 33))]), some (29, true)⟩,
 ⟨some 35, (.call ⟨(.value (.func 58)), #[(.tmp 30), (.tmp 34)], #[26, 28]⟩), some (29, true)⟩,
 ⟨some 36, (.unOp .not 4 (.tmp 35)), some (29, true)⟩,
 ⟨some 37, (.pick (.tmp 29) (.tmp 36) (.const (.bool false))), none⟩,
 ⟨some 7, (.assign (.tmp 37)), none⟩]))
 (.reg [⟨some 26, (.move (.tmp 8)), none⟩,
 ⟨some 27, (.binOp .add 3 (.tmp 26) (.const (.int .i64 1)) 3), none⟩,
 ⟨some 8, (.assign (.tmp 27)), none⟩])))
def zj7 : SC :=
 (.seq (.seq (.reg [⟨some 14, (.move (.tmp 6)), none⟩,
 ⟨some 15, (.fieldAddr 26 (.tmp 1) 0), none⟩,
 ⟨some 16, (.load 22 (.tmp 15)), none⟩,
 ⟨some 17, (.call ⟨(.builtin .len), #[(.tmp 16)], #[22]⟩), none⟩,
 ⟨some 18, (.binOp .lss 3 (.tmp 14) (.tmp 17) 3), none⟩])
 (.cond (.tmp 18) .skip (.exit 0)))
 (.seq (.block 1 (.seq (.reg [⟨some 7, (.assign (.const (.bool true))), none⟩])
 (.seq (.seq (.reg [⟨some 8, (.assign (.const (.int .i64 0))), none⟩])
 (.block 2 (.loop zj8)))
 (.seq (.reg [⟨some 38, (.move (.tmp 7)), none⟩])
 (.cond (.tmp 38) (.reg [⟨some 39, (.move (.tmp 5)), none⟩,
 ⟨some 40, (.move (.tmp 6)), none⟩,
 ⟨some 41, (.buildSlice 24 1 #[(0, (.tmp 40))]), none⟩,
 ⟨some 42, (.call ⟨(.builtin .append), #[(.tmp 39), (.tmp 41)], #[24, 24]⟩), none⟩,
 ⟨some 5, (.assign (.tmp 42)), none⟩]) .skip)))))
 (.reg [⟨some 19, (.move (.tmp 6)), none⟩,
 ⟨some 20, (.binOp .add 3 (.tmp 19) (.const (.int .i64 1)) 3), none⟩,
 ⟨some 6, (.assign (.tmp 20)), none⟩])))
def s20 : SC :=
 (.seq (.reg [⟨some 1, (.box 26 (.tmp 0)), none⟩,
 ⟨some 2, (.assign (.const (.slice none 0 0))), none⟩,
 ⟨some 3, (.assign (.const (.int .i64 0))), none⟩])
 (.seq (.seq (.reg [⟨some 9, (.load 26 (.tmp 1)), none⟩,
 ⟨some 10, (.call ⟨(.value (.func 16)), #[(.tmp 9)], #[26]⟩), none⟩,
 ⟨some 4, (.assign (.tmp 10)), none⟩])
 (.seq (.reg [⟨some 11, (.move (.tmp 4)), none⟩,
 ⟨some 12, (.binOp .neq 29 (.tmp 11) (.const (.int .i64 0)) 29), none⟩])
 (.cond (.tmp 12) (.seq (.reg [⟨some 13, (.move (.tmp 4)), none⟩,
 ⟨some 2, (.assign (.const (.slice none 0 0))), none⟩,
 ⟨some 3, (.assign (.tmp 13)), none⟩])
 .ret) .skip)))
 (.seq (.reg [⟨some 5, (.assign (.const (.slice none 0 0))), none⟩])
 (.seq (.seq (.reg [⟨some 6, (.assign (.const (.int .i64 0))), none⟩])
 (.block 0 (.loop zj7)))
 (.seq (.reg [⟨some 43, (.move (.tmp 5)), none⟩,
 ⟨some 2, (.assign (.tmp 43)), none⟩,
 ⟨some 3, (.assign (.const (.int .i64 0))), none⟩])
 .ret)))))
theorem fun20 : Fun Tryz.prog vmL 20 44 [(.tmp 2), (.tmp 3)] s20 := Fun.of Tryz.func20 (by kernel_rfl) (by kernel_rfl) rfl rfl (by decide)
def zm9 : SC :=
 (.seq (.seq (.reg [⟨some 12, (.move (.tmp 5)), none⟩,
 ⟨some 13, (.move (.tmp 12)), none⟩,
 ⟨some 14, (.move (.tmp 6)), some (13, true)⟩,
 ⟨some 15, (.move (.tmp 0)), some (13, true)⟩,
 ⟨some 16, (.call ⟨(.builtin .len), #[(.tmp 15)], #[24]⟩), some (13, true)⟩,
 ⟨some 17, (.binOp .lss 3 (.tmp 14) (.tmp 16) 3), some (13, true)⟩,
 ⟨some 18, (.pick (.tmp 13) (.tmp 17) (.const (.bool false))), none⟩])
 (.cond (.tmp 18) .skip (.exit 0)))
 (.seq (.block 1 (.regD [⟨some 21, (.move (.tmp 0)), none⟩,
 ⟨some 22, (.move (.tmp 6)), none⟩,
 ⟨some 23, (.indexAddr 24 (.tmp 21) (.tmp 22)), none⟩,
 ⟨some 24, (.load 3 (.tmp 23)), none⟩,
 ⟨some 25, (.move (.tmp 1)), none⟩,
 ⟨some 26, (.move (.tmp 6)), none⟩,
 ⟨some 27, (.indexAddr 24 (.tmp 25) (.tmp 26)), none⟩,
 ⟨some 28, (.load 3 (.tmp 27)), none⟩,
 ⟨some 29, (.binOp .eql 3 (.tmp 24) (.tmp 28) 3), none⟩,
 ⟨some 5, (.assign (.tmp 29)), none⟩] [0, 0, 3, 7, 0, 0, 48, 112, 255, 511]))
 (.reg [⟨some 19, (.move (.tmp 6)), none⟩,
 ⟨some 20, (.binOp .add 3 (.tmp 19) (.const (.int .i64 1)) 3), none⟩,
 ⟨some 6, (.assign (.tmp 20)), none⟩])))
def s21 : SC :=
 (.seq (.reg [⟨some 4, (.assign (.const (.bool false))), none⟩])
 (.seq (.reg [⟨some 7, (.move (.tmp 0)), none⟩,
 ⟨some 8, (.call ⟨(.builtin .len), #[(.tmp 7)], #[24]⟩), none⟩,
 ⟨some 9, (.move (.tmp 1)), none⟩,
 ⟨some 10, (.call ⟨(.builtin .len), #[(.tmp 9)], #[24]⟩), none⟩,
 ⟨some 11, (.binOp .eql 3 (.tmp 8) (.tmp 10) 3), none⟩,
 ⟨some 5, (.assign (.tmp 11)), none⟩])
 (.seq (.seq (.reg [⟨some 6, (.assign (.const (.int .i64 0))), none⟩])
 (.block 0 (.loop zm9)))
 (.seq (.reg [⟨some 30, (.move (.tmp 5)), none⟩,
 ⟨some 4, (.assign (.tmp 30)), none⟩])
 .ret))))
theorem fun21 : Fun Tryz.prog vmL 21 31 [(.tmp 4)] s21 := Fun.of Tryz.func21 (by kernel_rfl) (by kernel_rfl) rfl rfl (by decide)
def s34 : SC :=
 (.seq (.reg [⟨some 4, (.assign (.const (.int .i64 0))), none⟩])
 (.seq (.seq (.reg [⟨some 6, (.move (.tmp 1)), none⟩,
 ⟨some 7, (.binOp .lss 3 (.tmp 6) (.const (.int .i64 1)) 3), none⟩])
 (.cond (.tmp 7) (.seq (.reg [⟨some 4, (.assign (.const (.int .i64 0))), none⟩])
 .ret) .skip))
 (.seq (.reg [⟨some 8, (.move (.tmp 0)), none⟩,
 ⟨some 9, (.move (.tmp 1)), none⟩,
 ⟨some 10, (.binOp .rem 3 (.tmp 8) (.tmp 9) 3), none⟩,
 ⟨some 5, (.assign (.tmp 10)), none⟩])
 (.seq (.seq (.reg [⟨some 11, (.move (.tmp 5)), none⟩,
 ⟨some 12, (.binOp .lss 3 (.tmp 11) (.const (.int .i64 0)) 3), none⟩])
 (.cond (.tmp 12) (.reg [⟨some 13, (.move (.tmp 5)), none⟩,
 ⟨some 14, (.move (.tmp 1)), none⟩,
 ⟨some 15, (.binOp .add 3 (.tmp 13) (.tmp 14) 3), none⟩,
 ⟨some 5, (.assign (.tmp 15)), none⟩]) .skip))
 (.seq (.reg [⟨some 16, (.move (.tmp 5)), none⟩,
 ⟨some 4, (.assign (.tmp 16)), none⟩])
 .ret)))))
theorem fun34 : Fun Tryz.prog vmL 34 17 [(.tmp 4)] s34 := Fun.of Tryz.func34 (by kernel_rfl) (by kernel_rfl) rfl rfl (by decide)
def zdl : SC :=
 (.seq (.seq (.reg [⟨some 7, (.move (.tmp 6)), none⟩,
 ⟨some 8, (.move (.tmp 0)), none⟩,
 ⟨some 9, (.call ⟨(.builtin .len), #[(.tmp 8)], #[24]⟩), none⟩,
 ⟨some 10, (.binOp .lss 3 (.tmp 7) (.tmp 9) 3), none⟩])
 (.cond (.tmp 10) .skip (.exit 0)))
 (.seq (.block 1 (.seq (.seq (.reg [⟨some 13, (.move (.tmp 0)), none⟩,
 ⟨some 14, (.move (.tmp 6)), none⟩,
 ⟨some 15, (.indexAddr 24 (.tmp 13) (.tmp 14)), none⟩,
 ⟨some 16, (.load 3 (.tmp 15)), none⟩,
 ⟨some 17, (.move (.tmp 5)), none⟩,
 ⟨some 18, (.binOp .leq 3 (.tmp 16) (.tmp 17) 3), none⟩,
 ⟨some 19, (.move (.tmp 18)), none⟩,
 ⟨some 20, (.move (.tmp 0)), some (19, false)⟩,
 ⟨some 21, (.move (.tmp 6)), some (19, false)⟩,
 ⟨some 22, (.indexAddr 24 (.tmp 20) (.tmp 21)), some (19, false)⟩,
 ⟨some 23, (.load 3 (.tmp 22)), some (19, false)⟩,
 ⟨some 24, (.move (.tmp 1)), some (19, false)⟩,
 ⟨some 25, (.binOp .geq 3 (.tmp 23) (.tmp 24) 3), some (19, false)⟩,
 ⟨some 26, (.pick (.tmp 19) (.const (.bool true)) (.tmp 25)), none⟩])
 (.cond (.tmp 26) (.seq (.reg [⟨some 4, (.assign (.const (.bool false))), none⟩])
 .ret) .skip))
 (.reg [⟨some 27, (.move (.tmp 0)), none⟩,
 ⟨some 28, (.move (.tmp 6)), none⟩,
 ⟨some 29, (.indexAddr 24 (.tmp 27) (.tmp 28)), none⟩,
 ⟨some 30, (.load 3 (.tmp 29)), none⟩,
 ⟨some 5, (.assign (.tmp 30)), none⟩])))
 (.reg [⟨some 11, (.move (.tmp 6)), none⟩,
 ⟨some 12, (.binOp .add 3 (.tmp 11) (.const (.int .i64 1)) 3), none⟩,
 ⟨some 6, (.assign (.tmp 12)), none⟩])))
def s36 : SC :=
 (.seq (.reg [⟨some 4, (.assign (.const (.bool false))), none⟩])
 (.seq (.reg [⟨some 5, (.assign (.const (.int .i64 (-1)))), none⟩])
 (.seq (.seq (.reg [⟨some 6, (.assign (.const (.int .i64 0))), none⟩])
 (.block 0 (.loop zdl)))
 (.seq (.reg [⟨some 4, (.assign (.const (.bool true))), none⟩])
 .ret))))
theorem fun36 : Fun Tryz.prog vmL 36 31 [(.tmp 4)] s36 := Fun.of Tryz.func36 (by kernel_rfl) (by kernel_rfl) rfl rfl (by decide)
def s40 : SC :=
 (.seq (.reg [⟨some 6, (.assign (.const (.bool false))), none⟩])
 (.seq (.reg [⟨some 7, (.move (.tmp 1)), none⟩,
 ⟨some 8, (.move (.tmp 0)), none⟩,
 ⟨some 9, (.binOp .leq 3 (.tmp 7) (.tmp 8) 3), none⟩,
 ⟨some 10, (.move (.tmp 9)), none⟩,
 ⟨some 11, (.move (.tmp 0)), some (10, true)⟩,
 ⟨some 12, (.move (.tmp 2)), some (10, true)⟩,
 ⟨some 13, (.binOp .leq 3 (.tmp 11) (.tmp 12) 3), some (10, true)⟩,
 ⟨some 14, (.pick (.tmp 10) (.tmp 13) (.const (.bool false))), none⟩,
 ⟨some 6, (.assign (.tmp 14)), none⟩])
 .ret))
theorem fun40 : Fun Tryz.prog vmL 40 15 [(.tmp 6)] s40 := Fun.of Tryz.func40 (by kernel_rfl) (by kernel_rfl) rfl rfl (by decide)
def s48 : SC :=
 (.seq (.reg [⟨some 4, (.assign (.const (.int .i64 0))), none⟩])
 (.seq (.reg [⟨some 5, (.move (.tmp 0)), none⟩,
 ⟨some 6, (.unOp .neg 3 (.tmp 5)), none⟩,
 ⟨some 7, (.move (.tmp 1)), none⟩,
 ⟨some 8, (.call ⟨(.value (.func 80)), #[(.tmp 6), (.tmp 7)], #[3, 3]⟩), none⟩,
 ⟨some 9, (.unOp .neg 3 (.tmp 8)), none⟩,
 ⟨some 4, (.assign (.tmp 9)), none⟩])
 .ret))
theorem fun48 : Fun Tryz.prog vmL 48 10 [(.tmp 4)] s48 := Fun.of Tryz.func48 (by kernel_rfl) (by kernel_rfl) rfl rfl (by decide)
def zgx : SC :=
 (.seq (.reg [⟨some 13, (.binOp .lss 3 (.tmp 12) (.tmp 11) 3), none⟩])
 (.seq (.cond (.tmp 13) .skip (.exit 0))
 (.seq (.block 1 (.seq (.reg [⟨some 14, (.indexAddr 122 (.tmp 10) (.tmp 12)), none⟩,
 ⟨some 15, (.load 38 (.tmp 14)), none⟩,
 ⟨some 6, (.assign (.tmp 15)), none⟩])
 (.seq (.reg [⟨some 16, (.move (.tmp 6)), none⟩,
 ⟨some 17, (.call ⟨(.value (.tmp 16)), #[], #[]⟩), none⟩,
 ⟨some 18, (.unOp .not 4 (.tmp 17)), none⟩])
 (.cond (.tmp 18) (.seq (.reg [⟨some 4, (.assign (.const (.int .i64 61))), none⟩])
 .ret) .skip))))
 (.reg [⟨some 19, (.binOp .add 3 (.tmp 12) (.const (.int .i64 1)) 3), none⟩,
 ⟨some 12, (.move (.tmp 19)), none⟩]))))
def s52 : SC :=
 (.seq (.reg [⟨some 2, (.box 77 (.tmp 0)), none⟩,
 ⟨some 4, (.assign (.const (.int .i64 0))), none⟩])
 (.seq (.seq (.reg [⟨some 7, (.load 77 (.tmp 2)), none⟩,
 ⟨some 8, (.call ⟨(.value (.func 81)), #[(.tmp 7)], #[77]⟩), none⟩,
 ⟨some 9, (.unOp .not 4 (.tmp 8)), none⟩])
 (.cond (.tmp 9) (.seq (.reg [⟨some 4, (.assign (.const (.int .i64 60))), none⟩])
 .ret) .skip))
 (.seq (.seq (.reg [⟨some 10, (.move (.tmp 1)), none⟩,
 ⟨some 11, (.call ⟨(.builtin .len), #[(.tmp 10)], #[122]⟩), none⟩,
 ⟨some 12, (.move (.const (.int .i64 0))), none⟩])
 (.block 0 (.loop zgx)))
 (.seq (.reg [⟨some 4, (.assign (.const (.int .i64 0))), none⟩])
 .ret))))
theorem fun52 : Fun Tryz.prog vmL 52 20 [(.tmp 4)] s52 := Fun.of Tryz.func52 (by kernel_rfl) (by kernel_rfl) rfl rfl (by decide)
def s53 : SC :=
 (.seq (.reg [⟨some 1, (.box 79 (.tmp 0)), none⟩,
 ⟨some 2, (.assign (.const (.bool false))), none⟩])
 (.seq (.reg [⟨some 3, (.load 79 (.tmp 1)), none⟩,
 ⟨some 4, (.call ⟨(.value (.func 55)), #[(.tmp 3)], #[79]⟩), none⟩,
 ⟨some 5, (.build 84 #[]), none⟩,
 ⟨some 6, (.binOp .neq 84 (.tmp 4) (.tmp 5) 84), none⟩,
 ⟨some 2, (.assign (.tmp 6)), none⟩])
 .ret))
theorem fun53 : Fun Tryz.prog vmL 53 7 [(.tmp 2)] s53 := Fun.of Tryz.func53 (by kernel_rfl) (by kernel_rfl) rfl rfl (by decide)
def s54 : SC :=
 (.seq (.reg [⟨some 2, (.box 77 (.tmp 0)), none⟩,
 ⟨some 3, (.box 84 (.tmp 1)), none⟩,
 ⟨some 4, (.assign (.const (.bool false))), none⟩])
 (.seq (.regD [⟨some 5, (.load 77 (.tmp 2)), none⟩,
 ⟨some 6, (.fieldAddr 84 (.tmp 3) 1), none⟩,
 ⟨some 7, (.load 82 (.tmp 6)), none⟩,
 ⟨some 8, (.call ⟨(.value (.func 82)), #[(.tmp 5), (.tmp 7)], #[77, 82]⟩), none⟩,
 ⟨some 9, (.fieldAddr 77 (.tmp 2) 0), none⟩,
 ⟨some 10, (.fieldAddr 26 (.tmp 9) 1), none⟩,
 ⟨some 11, (.load 23 (.tmp 10)), none⟩,
 ⟨some 12, (.fieldAddr 84 (.tmp 3) 0), none⟩,
 ⟨some 13, (.load 3 (.tmp 12)), none⟩,
 ⟨some 14, (.indexAddr 23 (.tmp 11) (.tmp 13)), none⟩,
 ⟨some 15, (.load 71 (.tmp 14)), none⟩,
 ⟨some 16, (.call ⟨(.value (.func 83)), #[(.tmp 8), (.tmp 15)], #[126, 71]⟩), none⟩,
 ⟨some 4, (.assign (.tmp 16)), none⟩] [0, 0, 2, 7, 0, 16, 48, 0, 128, 496, 1008, 2047, 4095])
 .ret))
theorem fun54 : Fun Tryz.prog vmL 54 17 [(.tmp 4)] s54 := Fun.of Tryz.func54 (by kernel_rfl) (by kernel_rfl) rfl rfl (by decide)
def s55 : SC :=
 (.seq (.reg [⟨some 1, (.box 79 (.tmp 0)), none⟩,
 ⟨some 2, (.alloc 84), none⟩])
 (.seq (.reg [⟨some 3, (.fieldAddr 79 (.tmp 1) 0), none⟩,
 ⟨some 4, (.load 77 (.tmp 3)), none⟩,
 ⟨some 5, (.fieldAddr 79 (.tmp 1) 1), none⟩,
 ⟨some 6, (.load 28 (.tmp 5)), none⟩,
 ⟨some 7, (.call ⟨(.value (.func 84)), #[(.tmp 4), (.tmp 6)], #[77, 28]⟩), none⟩,
 ⟨none, (.store 84 (.tmp 2) (.tmp 7)), none⟩])
 .ret))
theorem fun55 : Fun Tryz.prog vmL 55 8 [(.cell 2 84)] s55 := Fun.of Tryz.func55 (by kernel_rfl) (by kernel_rfl) rfl rfl (by decide)
def s56 : SC :=
 (.seq (.reg [⟨some 2, (.box 26 (.tmp 0)), none⟩,
 ⟨some 4, (.assign (.const (.int .i64 0))), none⟩])
 (.seq (.seq (.reg [⟨some 6, (.load 26 (.tmp 2)), none⟩,
 ⟨some 7, (.call ⟨(.value (.func 16)), #[(.tmp 6)], #[26]⟩), none⟩,
 ⟨some 5, (.assign (.tmp 7)), none⟩])
 (.seq (.reg [⟨some 8, (.move (.tmp 5)), none⟩,
 ⟨some 9, (.binOp .neq 29 (.tmp 8) (.const (.int .i64 0)) 29), none⟩])
 (.cond (.tmp 9) (.seq (.reg [⟨some 10, (.move (.tmp 5)), none⟩,
 ⟨some 4, (.assign (.tmp 10)), none⟩])
 .ret) .skip)))
 (.seq (.seq (.reg [⟨some 11, (.move (.tmp 1)), none⟩,
 ⟨some 12, (.unOp .not 4 (.tmp 11)), none⟩])
 (.cond (.tmp 12) (.seq (.reg [⟨some 4, (.assign (.const (.int .i64 61))), none⟩])
 .ret) .skip))
 (.seq (.reg [⟨some 4, (.assign (.const (.int .i64 0))), none⟩])
 .ret))))
theorem fun56 : Fun Tryz.prog vmL 56 13 [(.tmp 4)] s56 := Fun.of Tryz.func56 (by kernel_rfl) (by kernel_rfl) rfl rfl (by decide)
def s57 : SC :=
 (.seq (.reg [⟨some 2, (.box 26 (.tmp 0)), none⟩,
 ⟨some 3, (.box 28 (.tmp 1)), none⟩,
 ⟨some 4, (.assign (.const (.bool false))), none⟩])
 (.seq (.reg [⟨some 5, (.fieldAddr 28 (.tmp 3) 0), none⟩,
 ⟨some 6, (.load 3 (.tmp 5)), none⟩,
 ⟨some 7, (.fieldAddr 26 (.tmp 2) 1), none⟩,
 ⟨some 8, (.load 23 (.tmp 7)), none⟩,
 ⟨some 9, (.call ⟨(.builtin .len), #[(.tmp 8)], #[23]⟩), none⟩,
 ⟨some 10, (.binOp .sub 3 (.tmp 9) (.const (.int .i64 1)) 3), none⟩,
 ⟨some 11, (.call ⟨(.value (.func 40)), #[(.tmp 6), (.const (.int .i64 0)), (.tmp 10)], #[3, 3, 3]⟩), none⟩,
 ⟨some 12, (.move (.tmp 11)), none⟩,
 ⟨some 13, (.fieldAddr 28 (.tmp 3) 1), some (12, true)⟩,
 ⟨some 14, (.load 24 (.tmp 13)), some (12, true)⟩,
 ⟨some 15, (.call ⟨(.builtin .len), #[(.tmp 14)], #[24]⟩), some (12, true)⟩,
 ⟨some 16, (.binOp .gtr 3 (.tmp 15) (.const (.int .i64 0)) 3), some (12, true)⟩,
 ⟨some 17, (.pick (.tmp 12) (.tmp 16) (.const (.bool false))), none⟩,
 ⟨some 18, (.move (.tmp 17)), none⟩,
 ⟨some 19, (.fieldAddr 28 (.tmp 3) 1), some (18, true)⟩,
 ⟨some 20, (.load 24 (.tmp 19)), some (18, true)⟩,
 ⟨some 21, (.fieldAddr 26 (.tmp 2) 0), some (18, true)⟩,
 ⟨some 22, (.load 22 (.tmp 21)), some (18, true)⟩,
 ⟨some 23, (.call ⟨(.builtin .len), #[(.tmp 22)], #[22]⟩), some (18, true)⟩,
 ⟨some 24, (.call ⟨(.value (.func 36)), #[(.tmp 20), (.tmp 23)], #[24, 3]⟩), some (18, true)⟩,
 ⟨some 25, (.pick (.tmp 18) (.tmp 24) (.const (.bool false))), none⟩,
 ⟨some 4, (.assign (.tmp 25)), none⟩])
 .ret))
theorem fun57 : Fun Tryz.prog vmL 57 26 [(.tmp 4)] s57 := Fun.of Tryz.func57 (by kernel_rfl) (by kernel_rfl) rfl rfl (by decide)
def zm8 : SC :=
 (.seq (.seq (.reg [⟨some 10, (.move (.tmp 8)), none⟩,
 ⟨some 11, (.fieldAddr 28 (.tmp 3) 1), none⟩,
 ⟨some 12, (.load 24 (.tmp 11)), none⟩,
 ⟨some 13, (.call ⟨(.builtin .len), #[(.tmp 12)], #[24]⟩), none⟩,
 ⟨some 14, (.binOp .lss 3 (.tmp 10) (.tmp 13) 3), none⟩])
 (.cond (.tmp 14) .skip (.exit 0)))
 (.seq (.block 1 (.seq (.regD [⟨some 17, (.fieldAddr 26 (.tmp 2) 0), none⟩,
 ⟨some 18, (.load 22 (.tmp 17)), none⟩,
 ⟨some 19, (.fieldAddr 28 (.tmp 3) 1), none⟩,
 ⟨some 20, (.load 24 (.tmp 19)), none⟩,
 ⟨some 21, (.move (.tmp 8)), none⟩,
 ⟨some 22, (.indexAddr 24 (.tmp 20) (.tmp 21)), none⟩,
 ⟨some 23, (.load 3 (.tmp 22)), none⟩,
 ⟨some 24, (.indexAddr 22 (.tmp 18) (.tmp 23)), none⟩,
 ⟨some 25, (.load 89 (.tmp 24)), none⟩,
 ⟨some 9, (.alloc 89), none⟩,
 ⟨none, (.store 89 (.tmp 9) (.tmp 25)), none⟩] [0, 1, 0, 4, 0, 28, 60, 127, 255, 0, 1023])
 (.seq (.regD [⟨some 26, (.move (.tmp 5)), none⟩,
 ⟨some 27, (.fieldAddr 89 (.tmp 9) 0), none⟩,
 ⟨some 28, (.load 3 (.tmp 27)), none⟩,
 ⟨some 29, (.binOp .add 3 (.tmp 26) (.tmp 28) 3), none⟩,
 ⟨some 30, (.move (.tmp 6)), none⟩,
 ⟨some 31, (.fieldAddr 89 (.tmp 9) 1), none⟩,
 ⟨some 32, (.load 3 (.tmp 31)), none⟩,
 ⟨some 33, (.binOp .add 3 (.tmp 30) (.tmp 32) 3), none⟩,
 ⟨some 5, (.assign (.tmp 29)), none⟩,
 ⟨some 6, (.assign (.tmp 33)), none⟩] [0, 0, 2, 7, 0, 0, 32, 112, 15, 511])
 (.reg [⟨some 34, (.move (.tmp 7)), none⟩,
 ⟨some 35, (.move (.tmp 34)), none⟩,
 ⟨some 36, (.fieldAddr 89 (.tmp 9) 3), some (35, false)⟩,
 ⟨some 37, (.load 4 (.tmp 36)), some (35, false)⟩,
 ⟨some 38, (.pick (.tmp 35) (.const (.bool true)) (.tmp 37)), none⟩,
 ⟨some 7, (.assign (.tmp 38)), none⟩]))))
 (.reg [⟨some 15, (.move (.tmp 8)), none⟩,
 ⟨some 16, (.binOp .add 3 (.tmp 15) (.const (.int .i64 1)) 3), none⟩,
 ⟨some 8, (.assign (.tmp 16)), none⟩])))
def s58 : SC :=
 (.seq (.reg [⟨some 2, (.box 26 (.tmp 0)), none⟩,
 ⟨some 3, (.box 28 (.tmp 1)), none⟩,
 ⟨some 4, (.assign (.const (.bool false))), none⟩])
 (.seq (.reg [⟨some 5, (.assign (.const (.int .i64 0))), none⟩,
 ⟨some 6, (.assign (.const (.int .i64 0))), none⟩])
 (.seq (.reg [⟨some 7, (.assign (.const (.bool false))), none⟩])
 (.seq (.seq (.reg [⟨some 8, (.assign (.const (.int .i64 0))), none⟩])
 (.block 0 (.loop zm8)))
 (.seq (.reg [⟨some 39, (.move (.tmp 5)), none⟩,
 ⟨some 40, (.fieldAddr 26 (.tmp 2) 1), none⟩,
 ⟨some 41, (.load 23 (.tmp 40)), none⟩,
 ⟨some 42, (.fieldAddr 28 (.tmp 3) 0), none⟩,
 ⟨some 43, (.load 3 (.tmp 42)), none⟩,
 ⟨some 44, (.indexAddr 23 (.tmp 41) (.tmp 43)), none⟩,
 ⟨some 45, (.fieldAddr 71 (.tmp 44) 0), none⟩,
 ⟨some 46, (.load 3 (.tmp 45)), none⟩,
 ⟨some 47, (.binOp .leq 3 (.tmp 39) (.tmp 46) 3), none⟩,
 ⟨some 48, (.move (.tmp 47)), none⟩,
 ⟨some 49, (.move (.tmp 6)), some (48, true)⟩,
 ⟨some 50, (.fieldAddr 26 (.tmp 2) 1), some (48, true)⟩,
 ⟨some 51, (.load 23 (.tmp 50)), some (48, true)⟩,
 ⟨some 52, (.fieldAddr 28 (.tmp 3) 0), some (48, true)⟩,
 ⟨some 53, (.load 3 (.tmp 52)), some (48, true)⟩,
 ⟨some 54, (.indexAddr 23 (.tmp 51) (.tmp 53)), some (48, true)⟩,
 ⟨some 55, (.fieldAddr 71 (.tmp 54) 1), some (48, true)⟩,
 ⟨some 56, (.load 3 (.tmp 55)), some (48, true)⟩,
 ⟨some 57, (.binOp .leq 3 (.tmp 49) (.tmp 56) 3), some (48, true)⟩,
 ⟨some 58, (.pick (.tmp 48) (.tmp 57) (.const (.bool false))), none⟩,
 ⟨some 59, (.move (.tmp 58)), none⟩,
 ⟨some 60, (.move (.tmp 7)), some (59, true)⟩,
 ⟨some 61, (.unOp .not 4 (.tmp 60)), some (59, true)⟩,
 ⟨some 62, (.move (.tmp 61)), some (59, true)⟩,
 ⟨some 63, (.fieldAddr 28 (.tmp 3) 1), some (62, false)⟩,
 ⟨some 64, (.load 24 (.tmp 63)), some (62, false)⟩,
 ⟨some 65, (.call ⟨(.builtin .len), #[(.tmp 64)], #[24]⟩), some (62, false)⟩,
 ⟨some 66, (.binOp .eql 3 (.tmp 65) (.const (.int .i64 1)) 3), some (62, false)⟩,
 ⟨some 67, (.pick (.tmp 62) (.const (.bool true)) (.tmp 66)), some (59, true)⟩,
 ⟨some 68, (.pick (.tmp 59) (.tmp 67) (.const (.bool false))), none⟩,
 ⟨some 4, (.assign (.tmp 68)), none⟩])
 .ret)))))
theorem fun58 : Fun Tryz.prog vmL 58 69 [(.tmp 4)] s58 := Fun.of Tryz.func58 (by kernel_rfl) (by kernel_rfl) rfl rfl (by decide)
def s59 : SC :=
 (.seq (.reg [⟨some 2, (.assign (.const (.bool false))), none⟩])
 (.seq (.reg [⟨some 3, (.indexAddr 105 (.global 0) (.const (.int .i64 5))), none⟩,
 ⟨some 4, (.load 104 (.tmp 3)), none⟩,
 ⟨some 5, (.move (.tmp 0)), none⟩,
 ⟨some 6, (.call ⟨(.value (.func 85)), #[(.tmp 4), (.tmp 5)], #[104, 3]⟩), none⟩,
 ⟨some 2, (.assign (.tmp 6)), none⟩])
 .ret))
theorem fun59 : Fun Tryz.prog vmL 59 7 [(.tmp 2)] s59 := Fun.of Tryz.func59 (by kernel_rfl) (by kernel_rfl) rfl rfl (by decide)
def s60 : SC :=
 (.seq (.reg [⟨some 3, (.box 77 (.tmp 0)), none⟩,
 ⟨some 4, (.box 84 (.tmp 1)), none⟩,
 ⟨some 6, (.assign (.const (.int .i64 0))), none⟩])
 (.seq (.regD [⟨some 8, (.load 77 (.tmp 3)), none⟩,
 ⟨some 9, (.fieldAddr 84 (.tmp 4) 1), none⟩,
 ⟨some 10, (.load 82 (.tmp 9)), none⟩,
 ⟨some 11, (.call ⟨(.value (.func 82)), #[(.tmp 8), (.tmp 10)], #[77, 82]⟩), none⟩,
 ⟨some 12, (.fieldAddr 77 (.tmp 3) 0), none⟩,
 ⟨some 13, (.fieldAddr 26 (.tmp 12) 1), none⟩,
 ⟨some 14, (.load 23 (.tmp 13)), none⟩,
 ⟨some 15, (.fieldAddr 84 (.tmp 4) 0), none⟩,
 ⟨some 16, (.load 3 (.tmp 15)), none⟩,
 ⟨some 17, (.indexAddr 23 (.tmp 14) (.tmp 16)), none⟩,
 ⟨some 18, (.load 71 (.tmp 17)), none⟩,
 ⟨some 19, (.move (.tmp 2)), none⟩,
 ⟨some 20, (.build 132 #[(0, (.tmp 11)), (1, (.tmp 18)), (2, (.tmp 19))]), none⟩,
 ⟨some 7, (.alloc 132), none⟩,
 ⟨none, (.store 132 (.tmp 7) (.tmp 20)), none⟩] [0, 0, 2, 7, 0, 16, 48, 0, 128, 496, 1008, 0, 4095, 0, 16383])
 (.seq (.reg [⟨some 21, (.makeFunc (.func 87) #[] #[(.tmp 7)]), none⟩,
 ⟨some 22, (.call ⟨(.value (.func 88)), #[], #[]⟩), none⟩,
 ⟨some 23, (.call ⟨(.value (.func 86)), #[(.tmp 21), (.tmp 22)], #[135, 136]⟩), none⟩,
 ⟨some 6, (.assign (.tmp 23)), none⟩])
 .ret)))
theorem fun60 : Fun Tryz.prog vmL 60 24 [(.tmp 6)] s60 := Fun.of Tryz.func60 (by kernel_rfl) (by kernel_rfl) rfl rfl (by decide)
def zm7 : SC :=
 (.seq (.seq (.reg [⟨some 11, (.move (.tmp 8)), none⟩,
 ⟨some 12, (.fieldAddr 28 (.tmp 4) 1), none⟩,
 ⟨some 13, (.load 24 (.tmp 12)), none⟩,
 ⟨some 14, (.call ⟨(.builtin .len), #[(.tmp 13)], #[24]⟩), none⟩,
 ⟨some 15, (.binOp .lss 3 (.tmp 11) (.tmp 14) 3), none⟩])
 (.cond (.tmp 15) .skip (.exit 0)))
 (.seq (.block 1 (.regD [⟨some 18, (.move (.tmp 7)), none⟩,
 ⟨some 19, (.fieldAddr 26 (.tmp 3) 0), none⟩,
 ⟨some 20, (.load 22 (.tmp 19)), none⟩,
 ⟨some 21, (.fieldAddr 28 (.tmp 4) 1), none⟩,
 ⟨some 22, (.load 24 (.tmp 21)), none⟩,
 ⟨some 23, (.move (.tmp 8)), none⟩,
 ⟨some 24, (.indexAddr 24 (.tmp 22) (.tmp 23)), none⟩,
 ⟨some 25, (.load 3 (.tmp 24)), none⟩,
 ⟨some 26, (.indexAddr 22 (.tmp 20) (.tmp 25)), none⟩,
 ⟨some 27, (.fieldAddr 89 (.tmp 26) 1), none⟩,
 ⟨some 28, (.load 3 (.tmp 27)), none⟩,
 ⟨some 29, (.binOp .add 3 (.tmp 18) (.tmp 28) 3), none⟩,
 ⟨some 7, (.assign (.tmp 29)), none⟩] [0, 0, 2, 0, 8, 0, 56, 120, 254, 510, 1022, 2047, 4095]))
 (.reg [⟨some 16, (.move (.tmp 8)), none⟩,
 ⟨some 17, (.binOp .add 3 (.tmp 16) (.const (.int .i64 1)) 3), none⟩,
 ⟨some 8, (.assign (.tmp 17)), none⟩])))
def s61 : SC :=
 (.seq (.reg [⟨some 3, (.box 26 (.tmp 0)), none⟩,
 ⟨some 4, (.box 28 (.tmp 1)), none⟩,
 ⟨some 6, (.assign (.const (.int .i64 0))), none⟩])
 (.seq (.reg [⟨some 7, (.assign (.const (.int .i64 0))), none⟩])
 (.seq (.seq (.reg [⟨some 8, (.assign (.const (.int .i64 0))), none⟩])
 (.block 0 (.loop zm7)))
 (.seq (.regD [⟨some 30, (.fieldAddr 26 (.tmp 3) 1), none⟩,
 ⟨some 31, (.load 23 (.tmp 30)), none⟩,
 ⟨some 32, (.fieldAddr 28 (.tmp 4) 0), none⟩,
 ⟨some 33, (.load 3 (.tmp 32)), none⟩,
 ⟨some 34, (.indexAddr 23 (.tmp 31) (.tmp 33)), none⟩,
 ⟨some 35, (.fieldAddr 71 (.tmp 34) 2), none⟩,
 ⟨some 36, (.load 24 (.tmp 35)), none⟩,
 ⟨some 37, (.move (.tmp 2)), none⟩,
 ⟨some 38, (.indexAddr 24 (.tmp 36) (.tmp 37)), none⟩,
 ⟨some 39, (.load 3 (.tmp 38)), none⟩,
 ⟨some 40, (.fieldAddr 26 (.tmp 3) 1), none⟩,
 ⟨some 41, (.load 23 (.tmp 40)), none⟩,
 ⟨some 42, (.fieldAddr 28 (.tmp 4) 0), none⟩,
 ⟨some 43, (.load 3 (.tmp 42)), none⟩,
 ⟨some 44, (.indexAddr 23 (.tmp 41) (.tmp 43)), none⟩,
 ⟨some 45, (.fieldAddr 71 (.tmp 44) 3), none⟩,
 ⟨some 46, (.load 3 (.tmp 45)), none⟩,
 ⟨some 47, (.move (.tmp 7)), none⟩,
 ⟨some 48, (.fieldAddr 26 (.tmp 3) 2), none⟩,
 ⟨some 49, (.load 3 (.tmp 48)), none⟩,
 ⟨some 50, (.call ⟨(.value (.func 48)), #[(.tmp 47), (.tmp 49)], #[3, 3]⟩), none⟩,
 ⟨some 51, (.binOp .sub 3 (.tmp 50) (.const (.int .i64 1)) 3), none⟩,
 ⟨some 52, (.binOp .mul 3 (.tmp 46) (.tmp 51) 3), none⟩,
 ⟨some 53, (.binOp .add 3 (.tmp 39) (.tmp 52) 3), none⟩,
 ⟨some 9, (.assign (.tmp 53)), none⟩] [0, 1, 0, 4, 15, 31, 63, 0, 255, 511, 0, 1024, 0, 4096, 15360, 31744, 64512, 0, 0, 262144, 917504, 1966080, 4193280, 8388607, 16777215])
 (.seq (.seq (.reg [⟨some 54, (.load 26 (.tmp 3)), none⟩,
 ⟨some 55, (.fieldAddr 28 (.tmp 4) 1), none⟩,
 ⟨some 56, (.load 24 (.tmp 55)), none⟩,
 ⟨some 57, (.call ⟨(.value (.func 77)), #[(.tmp 54), (.tmp 56)], #[26, 24]⟩), none⟩,
 ⟨some 10, (.assign (.tmp 57)), none⟩])
 (.seq (.reg [⟨some 58, (.move (.tmp 10)), none⟩,
 ⟨some 59, (.fieldAddr 26 (.tmp 3) 3), none⟩,
 ⟨some 60, (.load 3 (.tmp 59)), none⟩,
 ⟨some 61, (.binOp .gtr 3 (.tmp 58) (.tmp 60) 3), none⟩])
 (.cond (.tmp 61) (.regD [⟨some 62, (.move (.tmp 9)), none⟩,
 ⟨some 63, (.fieldAddr 26 (.tmp 3) 5), none⟩,
 ⟨some 64, (.load 3 (.tmp 63)), none⟩,
 ⟨some 65, (.move (.tmp 10)), none⟩,
 ⟨some 66, (.fieldAddr 26 (.tmp 3) 3), none⟩,
 ⟨some 67, (.load 3 (.tmp 66)), none⟩,
 ⟨some 68, (.binOp .sub 3 (.tmp 65) (.tmp 67) 3), none⟩,
 ⟨some 69, (.fieldAddr 26 (.tmp 3) 4), none⟩,
 ⟨some 70, (.load 3 (.tmp 69)), none⟩,
 ⟨some 71, (.call ⟨(.value (.func 48)), #[(.tmp 68), (.tmp 70)], #[3, 3]⟩), none⟩,
 ⟨some 72, (.binOp .mul 3 (.tmp 64) (.tmp 71) 3), none⟩,
 ⟨some 73, (.binOp .add 3 (.tmp 62) (.tmp 72) 3), none⟩,
 ⟨some 9, (.assign (.tmp 73)), none⟩] [0, 0, 2, 0, 0, 16, 56, 0, 128, 504, 1022, 2047, 4095]) .skip)))
 (.seq (.reg [⟨some 74, (.move (.tmp 9)), none⟩,
 ⟨some 6, (.assign (.tmp 74)), none⟩])
 .ret))))))
theorem fun61 : Fun Tryz.prog vmL 61 75 [(.tmp 6)] s61 := Fun.of Tryz.func61 (by kernel_rfl) (by kernel_rfl) rfl rfl (by decide)
def zj6 : SC :=
 (.seq (.reg [⟨some 10, (.binOp .lss 3 (.tmp 9) (.tmp 8) 3), none⟩])
 (.seq (.cond (.tmp 10) .skip (.exit 0))
 (.seq (.block 1 (.seq (.reg [⟨some 11, (.move (.tmp 9)), none⟩,
 ⟨some 4, (.assign (.tmp 11)), none⟩])
 (.seq (.regD [⟨some 12, (.fieldAddr 77 (.tmp 1) 0), none⟩,
 ⟨some 13, (.fieldAddr 26 (.tmp 12) 1), none⟩,
 ⟨some 14, (.load 23 (.tmp 13)), none⟩,
 ⟨some 15, (.load 77 (.tmp 1)), none⟩,
 ⟨some 16, (.move (.tmp 4)), none⟩,
 ⟨some 17, (.buildSlice 24 1 #[(0, (.tmp 16))]), none⟩,
 ⟨some 18, (.call ⟨(.value (.func 90)), #[(.tmp 17)], #[24]⟩), none⟩,
 ⟨some 19, (.call ⟨(.value (.func 82)), #[(.tmp 15), (.tmp 18)], #[77, 82]⟩), none⟩,
 ⟨some 20, (.makeFunc (.func 83) #[(.tmp 19)] #[]), none⟩,
 ⟨some 21, (.call ⟨(.value (.func 89)), #[(.tmp 14), (.tmp 20)], #[23, 128]⟩), none⟩,
 ⟨some 22, (.unOp .not 4 (.tmp 21)), none⟩] [0, 1, 3, 0, 0, 16, 48, 120, 248, 511, 1023])
 (.cond (.tmp 22) (.reg [⟨some 23, (.move (.tmp 3)), none⟩,
 ⟨some 24, (.move (.tmp 4)), none⟩,
 ⟨some 25, (.buildSlice 24 1 #[(0, (.tmp 24))]), none⟩,
 ⟨some 26, (.call ⟨(.builtin .append), #[(.tmp 23), (.tmp 25)], #[24, 24]⟩), none⟩,
 ⟨some 3, (.assign (.tmp 26)), none⟩]) .skip))))
 (.reg [⟨some 27, (.binOp .add 3 (.tmp 9) (.const (.int .i64 1)) 3), none⟩,
 ⟨some 9, (.move (.tmp 27)), none⟩]))))
def s62 : SC :=
 (.seq (.reg [⟨some 1, (.box 77 (.tmp 0)), none⟩,
 ⟨some 2, (.assign (.const (.slice none 0 0))), none⟩])
 (.seq (.reg [⟨some 3, (.assign (.const (.slice none 0 0))), none⟩])
 (.seq (.seq (.reg [⟨some 5, (.fieldAddr 77 (.tmp 1) 0), none⟩,
 ⟨some 6, (.fieldAddr 26 (.tmp 5) 0), none⟩,
 ⟨some 7, (.load 22 (.tmp 6)), none⟩,
 ⟨some 8, (.call ⟨(.builtin .len), #[(.tmp 7)], #[22]⟩), none⟩,
 ⟨some 9, (.move (.const (.int .i64 0))), none⟩])
 (.block 0 (.loop zj6)))
 (.seq (.reg [⟨some 28, (.move (.tmp 3)), none⟩,
 ⟨some 29, (.move (.tmp 3)), none⟩,
 ⟨some 30, (.call ⟨(.builtin .len), #[(.tmp 29)], #[24]⟩), none⟩,
 ⟨some 31, (.move (.tmp 3)), none⟩,
 ⟨some 32, (.call ⟨(.builtin .len), #[(.tmp 31)], #[24]⟩), none⟩,
 ⟨some 33, (.slice 24 (.tmp 28) none (some (.tmp 30)) (some (.tmp 32))), none⟩,
 ⟨some 2, (.assign (.tmp 33)), none⟩])
 .ret))))
theorem fun62 : Fun Tryz.prog vmL 62 34 [(.tmp 2)] s62 := Fun.of Tryz.func62 (by kernel_rfl) (by kernel_rfl) rfl rfl (by decide)
def zm6 : SC :=
 (.seq (.seq (.reg [⟨some 7, (.move (.tmp 6)), none⟩,
 ⟨some 8, (.move (.tmp 1)), none⟩,
 ⟨some 9, (.call ⟨(.builtin .len), #[(.tmp 8)], #[24]⟩), none⟩,
 ⟨some 10, (.binOp .lss 3 (.tmp 7) (.tmp 9) 3), none⟩])
 (.cond (.tmp 10) .skip (.exit 0)))
 (.seq (.block 1 (.regD [⟨some 13, (.move (.tmp 5)), none⟩,
 ⟨some 14, (.fieldAddr 26 (.tmp 2) 0), none⟩,
 ⟨some 15, (.load 22 (.tmp 14)), none⟩,
 ⟨some 16, (.move (.tmp 1)), none⟩,
 ⟨some 17, (.move (.tmp 6)), none⟩,
 ⟨some 18, (.indexAddr 24 (.tmp 16) (.tmp 17)), none⟩,
 ⟨some 19, (.load 3 (.tmp 18)), none⟩,
 ⟨some 20, (.indexAddr 22 (.tmp 15) (.tmp 19)), none⟩,
 ⟨some 21, (.fieldAddr 89 (.tmp 20) 2), none⟩,
 ⟨some 22, (.load 3 (.tmp 21)), none⟩,
 ⟨some 23, (.binOp .add 3 (.tmp 13) (.tmp 22) 3), none⟩,
 ⟨some 5, (.assign (.tmp 23)), none⟩] [0, 0, 2, 0, 0, 24, 56, 126, 254, 510, 1023, 2047]))
 (.reg [⟨some 11, (.move (.tmp 6)), none⟩,
 ⟨some 12, (.binOp .add 3 (.tmp 11) (.const (.int .i64 1)) 3), none⟩,
 ⟨some 6, (.assign (.tmp 12)), none⟩])))
def s77 : SC :=
 (.seq (.reg [⟨some 2, (.box 26 (.tmp 0)), none⟩,
 ⟨some 4, (.assign (.const (.int .i64 0))), none⟩])
 (.seq (.reg [⟨some 5, (.assign (.const (.int .i64 0))), none⟩])
 (.seq (.seq (.reg [⟨some 6, (.assign (.const (.int .i64 0))), none⟩])
 (.block 0 (.loop zm6)))
 (.seq (.reg [⟨some 24, (.move (.tmp 5)), none⟩,
 ⟨some 4, (.assign (.tmp 24)), none⟩])
 .ret))))
theorem fun77 : Fun Tryz.prog vmL 77 25 [(.tmp 4)] s77 := Fun.of Tryz.func77 (by kernel_rfl) (by kernel_rfl) rfl rfl (by decide)
def s80 : SC :=
 (.seq (.reg [⟨some 4, (.assign (.const (.int .i64 0))), none⟩])
 (.seq (.reg [⟨some 5, (.move (.tmp 0)), none⟩,
 ⟨some 6, (.move (.tmp 0)), none⟩,
 ⟨some 7, (.move (.tmp 1)), none⟩,
 ⟨some 8, (.call ⟨(.value (.func 34)), #[(.tmp 6), (.tmp 7)], #[3, 3]⟩), none⟩,
 ⟨some 9, (.binOp .sub 3 (.tmp 5) (.tmp 8) 3), none⟩,
 ⟨some 10, (.move (.tmp 1)), none⟩,
 ⟨some 11, (.binOp .quo 3 (.tmp 9) (.tmp 10) 3), none⟩,
 ⟨some 4, (.assign (.tmp 11)), none⟩])
 .ret))
theorem fun80 : Fun Tryz.prog vmL 80 12 [(.tmp 4)] s80 := Fun.of Tryz.func80 (by kernel_rfl) (by kernel_rfl) rfl rfl (by decide)
def s81 : SC :=
 (.seq (.reg [⟨some 1, (.box 77 (.tmp 0)), none⟩,
 ⟨some 2, (.assign (.const (.bool false))), none⟩])
 (.seq (.reg [⟨some 3, (.indexAddr 105 (.global 0) (.const (.int .i64 0))), none⟩,
 ⟨some 4, (.load 104 (.tmp 3)), none⟩,
 ⟨some 5, (.fieldAddr 77 (.tmp 1) 0), none⟩,
 ⟨some 6, (.fieldAddr 26 (.tmp 5) 0), none⟩,
 ⟨some 7, (.load 22 (.tmp 6)), none⟩,
 ⟨some 8, (.call ⟨(.value (.func 104)), #[(.tmp 4), (.tmp 7), (.func 105)], #[104, 22, 161]⟩), none⟩,
 ⟨some 9, (.move (.tmp 8)), none⟩,
 ⟨some 10, (.indexAddr 105 (.global 0) (.const (.int .i64 4))), some (9, true)⟩,
 ⟨some 11, (.load 104 (.tmp 10)), some (9, true)⟩,
 ⟨some 12, (.fieldAddr 77 (.tmp 1) 0), some (9, true)⟩,
 ⟨some 13, (.fieldAddr 26 (.tmp 12) 1), some (9, true)⟩,
 ⟨some 14, (.load 23 (.tmp 13)), some (9, true)⟩,
 ⟨some 15, (.call ⟨(.value (.func 106)), #[(.tmp 11), (.tmp 14), (.func 107)], #[104, 23, 128]⟩), some (9, true)⟩,
 ⟨some 16, (.pick (.tmp 9) (.tmp 15) (.const (.bool false))), none⟩,
 ⟨some 17, (.move (.tmp 16)), none⟩,
 ⟨some 18, (.indexAddr 105 (.global 0) (.const (.int .i64 2))), some (17, true)⟩,
 ⟨some 19, (.load 104 (.tmp 18)), some (17, true)⟩,
 ⟨some 20, (.fieldAddr 77 (.tmp 1) 0), some (17, true)⟩,
 ⟨some 21, (.fieldAddr 26 (.tmp 20) 2), some (17, true)⟩,
 ⟨some 22, (.load 3 (.tmp 21)), some (17, true)⟩,
 ⟨some 23, (.call ⟨(.value (.func 85)), #[(.tmp 19), (.tmp 22)], #[104, 3]⟩), some (17, true)⟩,
 ⟨some 24, (.pick (.tmp 17) (.tmp 23) (.const (.bool false))), none⟩,
 ⟨some 25, (.move (.tmp 24)), none⟩,
 ⟨some 26, (.indexAddr 105 (.global 0) (.const (.int .i64 3))), some (25, true)⟩,
 ⟨some 27, (.load 104 (.tmp 26)), some (25, true)⟩,
 ⟨some 28, (.fieldAddr 77 (.tmp 1) 0), some (25, true)⟩,
 ⟨some 29, (.fieldAddr 26 (.tmp 28) 3), some (25, true)⟩,
 ⟨some 30, (.load 3 (.tmp 29)), some (25, true)⟩,
 ⟨some 31, (.call ⟨(.value (.func 85)), #[(.tmp 27), (.tmp 30)], #[104, 3]⟩), some (25, true)⟩,
 ⟨some 32, (.pick (.tmp 25) (.tmp 31) (.const (.bool false))), none⟩,
 ⟨some 33, (.move (.tmp 32)), none⟩,
 ⟨some 34, (.indexAddr 105 (.global 0) (.const (.int .i64 8))), some (33, true)⟩,
 ⟨some 35, (.load 104 (.tmp 34)), some (33, true)⟩,
 ⟨some 36, (.fieldAddr 77 (.tmp 1) 0), some (33, true)⟩,
 ⟨some 37, (.fieldAddr 26 (.tmp 36) 4), some (33, true)⟩,
 ⟨some 38, (.load 3 (.tmp 37)), some (33, true)⟩,
 ⟨some 39, (.call ⟨(.value (.func 85)), #[(.tmp 35), (.tmp 38)], #[104, 3]⟩), some (33, true)⟩,
 ⟨some 40, (.pick (.tmp 33) (.tmp 39) (.const (.bool false))), none⟩,
 ⟨some 41, (.move (.tmp 40)), none⟩,
 ⟨some 42, (.indexAddr 105 (.global 0) (.const (.int .i64 7))), some (41, true)⟩,
 ⟨some 43, (.load 104 (.tmp 42)), some (41, true)⟩,
 ⟨some 44, (.fieldAddr 77 (.tmp 1) 0), some (41, true)⟩,
 ⟨some 45, (.fieldAddr 26 (.tmp 44) 5), some (41, true)⟩,
 ⟨some 46, (.load 3 (.tmp 45)), some (41, true)⟩,
 ⟨some 47, (.call ⟨(.value (.func 85)), #[(.tmp 43), (.tmp 46)], #[104, 3]⟩), some (41, true)⟩,
 ⟨some 48, (.pick (.tmp 41) (.tmp 47) (.const (.bool false))), none⟩,
 ⟨some 49, (.move (.tmp 48)), none⟩,
 ⟨some 50, (.indexAddr 105 (.global 0) (.const (.int .i64 9))), some (49, true)⟩,
 ⟨some 51, (.load 104 (.tmp 50)), some (49, true)⟩,
 ⟨some 52, (.fieldAddr 77 (.tmp 1) 0), some (49, true)⟩,
 ⟨some 53, (.fieldAddr 26 (.tmp 52) 6), some (49, true)⟩,
 ⟨some 54, (.load 24 (.tmp 53)), some (49, true)⟩,
 ⟨some 55, (.call ⟨(.value (.func 108)), #[(.tmp 51), (.tmp 54), (.func 109)], #[104, 24, 164]⟩), some (49, true)⟩,
 ⟨some 56, (.pick (.tmp 49) (.tmp 55) (.const (.bool false))), none⟩,
 ⟨some 57, (.move (.tmp 56)), none⟩,
 ⟨some 58, (.fieldAddr 77 (.tmp 1) 0), some (57, true)⟩,
 ⟨some 59, (.fieldAddr 26 (.tmp 58) 6), some (57, true)⟩,
 ⟨some 60, (.load 24 (.tmp 59)), some (57, true)⟩,
 ⟨some 61, (.call ⟨(.value (.func 110)), #[(.tmp 60)], #[24]⟩), some (57, true)⟩,
 ⟨some 62, (.pick (.tmp 57) (.tmp 61) (.const (.bool false))), none⟩,
 ⟨some 2, (.assign (.tmp 62)), none⟩])
 .ret))
theorem fun81 : Fun Tryz.prog vmL 81 63 [(.tmp 2)] s81 := Fun.of Tryz.func81 (by kernel_rfl) (by kernel_rfl) rfl rfl (by decide)
def s82 : SC :=
 (.seq (.reg [⟨some 2, (.box 77 (.tmp 0)), none⟩,
 ⟨some 4, (.alloc 126), none⟩])
 (.seq (.regD [⟨some 5, (.load 77 (.tmp 2)), none⟩,
 ⟨some 6, (.move (.tmp 1)), none⟩,
 ⟨some 7, (.call ⟨(.value (.func 111)), #[(.tmp 6)], #[82]⟩), none⟩,
 ⟨some 8, (.build 126 #[(0, (.tmp 5)), (1, (.tmp 7))]), none⟩,
 ⟨none, (.store 126 (.tmp 4) (.tmp 8)), none⟩] [0, 0, 2, 7, 15])
 .ret))
theorem fun82 : Fun Tryz.prog vmL 82 9 [(.cell 4 126)] s82 := Fun.of Tryz.func82 (by kernel_rfl) (by kernel_rfl) rfl rfl (by decide)
def s83 : SC :=
 (.seq (.reg [⟨some 2, (.box 126 (.tmp 0)), none⟩,
 ⟨some 3, (.box 71 (.tmp 1)), none⟩,
 ⟨some 4, (.assign (.const (.bool false))), none⟩])
 (.seq (.regD [⟨some 5, (.load 126 (.tmp 2)), none⟩,
 ⟨some 6, (.call ⟨(.value (.func 102)), #[(.tmp 5), (.func 112)], #[126, 159]⟩), none⟩,
 ⟨some 7, (.fieldAddr 71 (.tmp 3) 0), none⟩,
 ⟨some 8, (.load 3 (.tmp 7)), none⟩,
 ⟨some 9, (.binOp .leq 3 (.tmp 6) (.tmp 8) 3), none⟩,
 ⟨some 10, (.move (.tmp 9)), none⟩,
 ⟨some 11, (.load 126 (.tmp 2)), some (10, true)⟩,
 ⟨some 12, (.call ⟨(.value (.func 102)), #[(.tmp 11), (.func 113)], #[126, 159]⟩), some (10, true)⟩,
 ⟨some 13, (.fieldAddr 71 (.tmp 3) 1), some (10, true)⟩,
 ⟨some 14, (.load 3 (.tmp 13)), some (10, true)⟩,
 ⟨some 15, (.binOp .leq 3 (.tmp 12) (.tmp 14) 3), some (10, true)⟩,
 ⟨some 16, (.pick (.tmp 10) (.tmp 15) (.const (.bool false))), none⟩,
 ⟨some 17, (.move (.tmp 16)), none⟩,
 ⟨some 18, (.load 126 (.tmp 2)), some (17, true)⟩,
 ⟨some 19, (.call ⟨(.value (.func 114)), #[(.tmp 18)], #[126]⟩), some (17, true)⟩,
 ⟨some 20, (.pick (.tmp 17) (.tmp 19) (.const (.bool false))), none⟩,
 ⟨some 4, (.assign (.tmp 20)), none⟩] [0, 1, 0, 4, 15, 31, 63, 127, 63, 319, 1023, 2047, 4095, 8191, 16383, 32767, 65535])
 .ret))
theorem fun83 : Fun Tryz.prog vmL 83 21 [(.tmp 4)] s83 := Fun.of Tryz.func83 (by kernel_rfl) (by kernel_rfl) rfl rfl (by decide)
def s84 : SC :=
 (.seq (.reg [⟨some 2, (.box 77 (.tmp 0)), none⟩,
 ⟨some 3, (.box 28 (.tmp 1)), none⟩,
 ⟨some 4, (.alloc 84), none⟩])
 (.seq (.seq (.regD [⟨some 5, (.fieldAddr 77 (.tmp 2) 0), none⟩,
 ⟨some 6, (.fieldAddr 26 (.tmp 5) 1), none⟩,
 ⟨some 7, (.load 23 (.tmp 6)), none⟩,
 ⟨some 8, (.call ⟨(.builtin .len), #[(.tmp 7)], #[23]⟩), none⟩,
 ⟨some 9, (.call ⟨(.value (.func 115)), #[(.tmp 8)], #[3]⟩), none⟩,
 ⟨some 10, (.fieldAddr 28 (.tmp 3) 0), none⟩,
 ⟨some 11, (.load 3 (.tmp 10)), none⟩,
 ⟨some 12, (.call ⟨(.value (.func 85)), #[(.tmp 9), (.tmp 11)], #[104, 3]⟩), none⟩,
 ⟨some 13, (.unOp .not 4 (.tmp 12)), none⟩,
 ⟨some 14, (.move (.tmp 13)), none⟩,
 ⟨some 15, (.load 77 (.tmp 2)), some (14, false)⟩,
 ⟨some 16, (.fieldAddr 28 (.tmp 3) 1), some (14, false)⟩,
 ⟨some 17, (.load 24 (.tmp 16)), some (14, false)⟩,
 ⟨some 18, (.call ⟨(.value (.func 116)), #[(.tmp 15), (.tmp 17)], #[77, 24]⟩), some (14, false)⟩,
 ⟨some 19, (.build 124 #[]), some (14, false)⟩,
 ⟨some 20, (.binOp .eql 124 (.tmp 18) (.tmp 19) 124), some (14, false)⟩,
 ⟨some 21, (.pick (.tmp 14) (.const (.bool true)) (.tmp 20)), none⟩] [0, 1, 3, 7, 15, 0, 32, 127, 255, 511, 1023, 1023, 3071, 8191, 1023, 32767, 65535])
 (.cond (.tmp 21) (.seq (.reg [⟨some 22, (.build 84 #[]), none⟩,
 ⟨none, (.store 84 (.tmp 4) (.tmp 22)), none⟩])
 .ret) .skip))
 (.seq (.regD [⟨some 23, (.fieldAddr 28 (.tmp 3) 0), none⟩,
 ⟨some 24, (.load 3 (.tmp 23)), none⟩,
 ⟨some 25, (.fieldAddr 28 (.tmp 3) 1), none⟩,
 ⟨some 26, (.load 24 (.tmp 25)), none⟩,
 ⟨some 27, (.call ⟨(.value (.func 90)), #[(.tmp 26)], #[24]⟩), none⟩,
 ⟨some 28, (.build 84 #[(0, (.tmp 24)), (1, (.tmp 27))]), none⟩,
 ⟨none, (.store 84 (.tmp 4) (.tmp 28)), none⟩] [0, 1, 0, 4, 12, 31, 63])
 .ret)))
theorem fun84 : Fun Tryz.prog vmL 84 29 [(.cell 4 84)] s84 := Fun.of Tryz.func84 (by kernel_rfl) (by kernel_rfl) rfl rfl (by decide)
def s85 : SC :=
 (.seq (.reg [⟨some 2, (.box 104 (.tmp 0)), none⟩,
 ⟨some 4, (.assign (.const (.bool false))), none⟩])
 (.seq (.reg [⟨some 5, (.fieldAddr 104 (.tmp 2) 0), none⟩,
 ⟨some 6, (.load 3 (.tmp 5)), none⟩,
 ⟨some 7, (.move (.tmp 1)), none⟩,
 ⟨some 8, (.binOp .leq 3 (.tmp 6) (.tmp 7) 3), none⟩,
 ⟨some 9, (.move (.tmp 8)), none⟩,
 ⟨some 10, (.move (.tmp 1)), some (9, true)⟩,
 ⟨some 11, (.fieldAddr 104 (.tmp 2) 1), some (9, true)⟩,
 ⟨some 12, (.load 3 (.tmp 11)), some (9, true)⟩,
 ⟨some 13, (.binOp .leq 3 (.tmp 10) (.tmp 12) 3), some (9, true)⟩,
 ⟨some 14, (.pick (.tmp 9) (.tmp 13) (.const (.bool false))), none⟩,
 ⟨some 4, (.assign (.tmp 14)), none⟩])
 .ret))
theorem fun85 : Fun Tryz.prog vmL 85 15 [(.tmp 4)] s85 := Fun.of Tryz.func85 (by kernel_rfl) (by kernel_rfl) rfl rfl (by decide)
def zm5 : SC :=
 (.seq (.reg [⟨some 11, (.binOp .lss 3 (.tmp 10) (.tmp 9) 3), none⟩])
 (.seq (.cond (.tmp 11) .skip (.exit 0))
 (.seq (.block 1 (.seq (.reg [⟨some 12, (.indexAddr 136 (.tmp 8) (.tmp 10)), none⟩,
 ⟨some 13, (.load 134 (.tmp 12)), none⟩,
 ⟨some 7, (.assign (.tmp 13)), none⟩])
 (.reg [⟨some 14, (.move (.tmp 5)), none⟩,
 ⟨some 15, (.move (.tmp 0)), none⟩,
 ⟨some 16, (.move (.tmp 7)), none⟩,
 ⟨some 17, (.call ⟨(.value (.tmp 15)), #[(.tmp 16)], #[134]⟩), none⟩,
 ⟨some 18, (.binOp .add 3 (.tmp 14) (.tmp 17) 3), none⟩,
 ⟨some 5, (.assign (.tmp 18)), none⟩])))
 (.reg [⟨some 19, (.binOp .add 3 (.tmp 10) (.const (.int .i64 1)) 3), none⟩,
 ⟨some 10, (.move (.tmp 19)), none⟩]))))
def s86 : SC :=
 (.seq (.reg [⟨some 4, (.assign (.const (.int .i64 0))), none⟩])
 (.seq (.reg [⟨some 5, (.assign (.const (.int .i64 0))), none⟩])
 (.seq (.seq (.reg [⟨some 8, (.move (.tmp 1)), none⟩,
 ⟨some 9, (.call ⟨(.builtin .len), #[(.tmp 8)], #[136]⟩), none⟩,
 ⟨some 10, (.move (.const (.int .i64 0))), none⟩])
 (.block 0 (.loop zm5)))
 (.seq (.reg [⟨some 20, (.move (.tmp 5)), none⟩,
 ⟨some 4, (.assign (.tmp 20)), none⟩])
 .ret))))
theorem fun86 : Fun Tryz.prog vmL 86 21 [(.tmp 4)] s86 := Fun.of Tryz.func86 (by kernel_rfl) (by kernel_rfl) rfl rfl (by decide)
def s87 : SC :=
 (.seq (.reg [⟨some 3, (.assign (.const (.int .i64 0))), none⟩])
 (.seq (.reg [⟨some 4, (.move (.tmp 0)), none⟩,
 ⟨some 5, (.load 132 (.tmp 1)), none⟩,
 ⟨some 6, (.call ⟨(.value (.tmp 4)), #[(.tmp 5)], #[132]⟩), none⟩,
 ⟨some 3, (.assign (.tmp 6)), none⟩])
 .ret))
theorem fun87 : Fun Tryz.prog vmL 87 7 [(.tmp 3)] s87 := Fun.of Tryz.func87 (by kernel_rfl) (by kernel_rfl) rfl rfl (by decide)
def s88 : SC :=
 (.seq (.reg [⟨some 0, (.assign (.const (.slice none 0 0))), none⟩])
 (.seq (.reg [⟨some 1, (.buildSlice 136 3 #[(0, (.func 117)), (1, (.func 118)), (2, (.func 119))]), none⟩,
 ⟨some 0, (.assign (.tmp 1)), none⟩])
 .ret))
theorem fun88 : Fun Tryz.prog vmL 88 2 [(.tmp 0)] s88 := Fun.of Tryz.func88 (by kernel_rfl) (by kernel_rfl) rfl rfl (by decide)
def s89 : SC :=
 (.seq (.reg [⟨some 4, (.assign (.const (.bool false))), none⟩])
 (.seq (.reg [⟨some 5, (.move (.tmp 0)), none⟩,
 ⟨some 6, (.move (.tmp 1)), none⟩,
 ⟨some 7, (.call ⟨(.value (.func 120)), #[(.tmp 5), (.tmp 6)], #[23, 128]⟩), none⟩,
 ⟨some 8, (.binOp .geq 3 (.tmp 7) (.const (.int .i64 0)) 3), none⟩,
 ⟨some 4, (.assign (.tmp 8)), none⟩])
 .ret))
theorem fun89 : Fun Tryz.prog vmL 89 9 [(.tmp 4)] s89 := Fun.of Tryz.func89 (by kernel_rfl) (by kernel_rfl) rfl rfl (by decide)
def zm4 : SC :=
 (.seq (.reg [⟨some 9, (.binOp .lss 3 (.tmp 8) (.tmp 7) 3), none⟩])
 (.seq (.cond (.tmp 9) .skip (.exit 0))
 (.seq (.block 1 (.seq (.reg [⟨some 10, (.indexAddr 24 (.tmp 6) (.tmp 8)), none⟩,
 ⟨some 11, (.load 3 (.tmp 10)), none⟩,
 ⟨some 5, (.assign (.tmp 11)), none⟩])
 (.reg [⟨some 12, (.move (.tmp 3)), none⟩,
 ⟨some 13, (.move (.tmp 5)), none⟩,
 ⟨some 14, (.call ⟨(.value (.func 121)), #[(.tmp 12), (.tmp 13)], #[82, 3]⟩), none⟩,
 ⟨some 3, (.assign (.tmp 14)), none⟩])))
 (.reg [⟨some 15, (.binOp .add 3 (.tmp 8) (.const (.int .i64 1)) 3), none⟩,
 ⟨some 8, (.move (.tmp 15)), none⟩]))))
def s90 : SC :=
 (.seq (.reg [⟨some 2, (.assign (.const (.int .i64 0))), none⟩])
 (.seq (.reg [⟨some 3, (.assign (.const (.int .i64 0))), none⟩])
 (.seq (.seq (.reg [⟨some 6, (.move (.tmp 0)), none⟩,
 ⟨some 7, (.call ⟨(.builtin .len), #[(.tmp 6)], #[24]⟩), none⟩,
 ⟨some 8, (.move (.const (.int .i64 0))), none⟩])
 (.block 0 (.loop zm4)))
 (.seq (.reg [⟨some 16, (.move (.tmp 3)), none⟩,
 ⟨some 2, (.assign (.tmp 16)), none⟩])
 .ret))))
theorem fun90 : Fun Tryz.prog vmL 90 17 [(.tmp 2)] s90 := Fun.of Tryz.func90 (by kernel_rfl) (by kernel_rfl) rfl rfl (by decide)
def s102 : SC :=
 (.seq (.reg [⟨some 2, (.box 126 (.tmp 0)), none⟩,
 ⟨some 4, (.assign (.const (.int .i64 0))), none⟩])
 (.seq (.reg [⟨some 5, (.move (.tmp 1)), none⟩,
 ⟨some 6, (.load 126 (.tmp 2)), none⟩,
 ⟨some 7, (.call ⟨(.value (.func 133)), #[(.tmp 6)], #[126]⟩), none⟩,
 ⟨some 8, (.call ⟨(.value (.func 132)), #[(.tmp 5), (.tmp 7)], #[159, 22]⟩), none⟩,
 ⟨some 4, (.assign (.tmp 8)), none⟩])
 .ret))
theorem fun102 : Fun Tryz.prog vmL 102 9 [(.tmp 4)] s102 := Fun.of Tryz.func102 (by kernel_rfl) (by kernel_rfl) rfl rfl (by decide)
def s103 : SC :=
 (.seq (.reg [⟨some 1, (.box 89 (.tmp 0)), none⟩,
 ⟨some 2, (.assign (.const (.int .i64 0))), none⟩])
 (.seq (.reg [⟨some 3, (.fieldAddr 89 (.tmp 1) 2), none⟩,
 ⟨some 4, (.load 3 (.tmp 3)), none⟩,
 ⟨some 2, (.assign (.tmp 4)), none⟩])
 .ret))
theorem fun103 : Fun Tryz.prog vmL 103 5 [(.tmp 2)] s103 := Fun.of Tryz.func103 (by kernel_rfl) (by kernel_rfl) rfl rfl (by decide)
def s104 : SC :=
 (.seq (.reg [⟨some 3, (.box 104 (.tmp 0)), none⟩,
 ⟨some 5, (.box 161 (.tmp 2)), none⟩,
 ⟨some 6, (.assign (.const (.bool false))), none⟩])
 (.seq (.reg [⟨some 7, (.load 104 (.tmp 3)), none⟩,
 ⟨some 8, (.move (.tmp 1)), none⟩,
 ⟨some 9, (.call ⟨(.builtin .len), #[(.tmp 8)], #[22]⟩), none⟩,
 ⟨some 10, (.call ⟨(.value (.func 85)), #[(.tmp 7), (.tmp 9)], #[104, 3]⟩), none⟩,
 ⟨some 11, (.move (.tmp 10)), none⟩,
 ⟨some 12, (.move (.tmp 1)), some (11, true)⟩,
 ⟨some 13, (.makeFunc (.func 135) #[] #[(.tmp 5)]), some (11, true)⟩,
 ⟨some 14, (.call ⟨(.value (.func 134)), #[(.tmp 12), (.tmp 13)], #[22, 161]⟩), some (11, true)⟩,
 ⟨some 15, (.unOp .not 4 (.tmp 14)), some (11, true)⟩,
 ⟨some 16, (.pick (.tmp 11) (.tmp 15) (.const (.bool false))), none⟩,
 ⟨some 6, (.assign (.tmp 16)), none⟩])
 .ret))
theorem fun104 : Fun Tryz.prog vmL 104 17 [(.tmp 6)] s104 := Fun.of Tryz.func104 (by kernel_rfl) (by kernel_rfl) rfl rfl (by decide)
def s105 : SC :=
 (.seq (.reg [⟨some 1, (.box 89 (.tmp 0)), none⟩,
 ⟨some 2, (.assign (.const (.bool false))), none⟩])
 (.seq (.reg [⟨some 3, (.indexAddr 105 (.global 0) (.const (.int .i64 1))), none⟩,
 ⟨some 4, (.load 104 (.tmp 3)), none⟩,
 ⟨some 5, (.fieldAddr 89 (.tmp 1) 0), none⟩,
 ⟨some 6, (.load 3 (.tmp 5)), none⟩,
 ⟨some 7, (.call ⟨(.value (.func 85)), #[(.tmp 4), (.tmp 6)], #[104, 3]⟩), none⟩,
 ⟨some 8, (.move (.tmp 7)), none⟩,
 ⟨some 9, (.indexAddr 105 (.global 0) (.const (.int .i64 2))), some (8, true)⟩,
 ⟨some 10, (.load 104 (.tmp 9)), some (8, true)⟩,
 ⟨some 11, (.fieldAddr 89 (.tmp 1) 1), some (8, true)⟩,
 ⟨some 12, (.load 3 (.tmp 11)), some (8, true)⟩,
 ⟨some 13, (.call ⟨(.value (.func 85)), #[(.tmp 10), (.tmp 12)], #[104, 3]⟩), some (8, true)⟩,
 ⟨some 14, (.pick (.tmp 8) (.tmp 13) (.const (.bool false))), none⟩,
 ⟨some 15, (.move (.tmp 14)), none⟩,
 ⟨some 16, (.indexAddr 105 (.global 0) (.const (.int .i64 3))), some (15, true)⟩,
 ⟨some 17, (.load 104 (.tmp 16)), some (15, true)⟩,
 ⟨some 18, (.fieldAddr 89 (.tmp 1) 2), some (15, true)⟩,
 ⟨some 19, (.load 3 (.tmp 18)), some (15, true)⟩,
 ⟨some 20, (.call ⟨(.value (.func 85)), #[(.tmp 17), (.tmp 19)], #[104, 3]⟩), some (15, true)⟩,
 ⟨some 21, (.pick (.tmp 15) (.tmp 20) (.const (.bool false))), none⟩,
 ⟨some 2, (.assign (.tmp 21)), none⟩])
 .ret))
theorem fun105 : Fun Tryz.prog vmL 105 22 [(.tmp 2)] s105 := Fun.of Tryz.func105 (by kernel_rfl) (by kernel_rfl) rfl rfl (by decide)
def s106 : SC :=
 (.seq (.reg [⟨some 3, (.box 104 (.tmp 0)), none⟩,
 ⟨some 5, (.box 128 (.tmp 2)), none⟩,
 ⟨some 6, (.assign (.const (.bool false))), none⟩])
 (.seq (.reg [⟨some 7, (.load 104 (.tmp 3)), none⟩,
 ⟨some 8, (.move (.tmp 1)), none⟩,
 ⟨some 9, (.call ⟨(.builtin .len), #[(.tmp 8)], #[23]⟩), none⟩,
 ⟨some 10, (.call ⟨(.value (.func 85)), #[(.tmp 7), (.tmp 9)], #[104, 3]⟩), none⟩,
 ⟨some 11, (.move (.tmp 10)), none⟩,
 ⟨some 12, (.move (.tmp 1)), some (11, true)⟩,
 ⟨some 13, (.makeFunc (.func 136) #[] #[(.tmp 5)]), some (11, true)⟩,
 ⟨some 14, (.call ⟨(.value (.func 89)), #[(.tmp 12), (.tmp 13)], #[23, 128]⟩), some (11, true)⟩,
 ⟨some 15, (.unOp .not 4 (.tmp 14)), some (11, true)⟩,
 ⟨some 16, (.pick (.tmp 11) (.tmp 15) (.const (.bool false))), none⟩,
 ⟨some 6, (.assign (.tmp 16)), none⟩])
 .ret))
theorem fun106 : Fun Tryz.prog vmL 106 17 [(.tmp 6)] s106 := Fun.of Tryz.func106 (by kernel_rfl) (by kernel_rfl) rfl rfl (by decide)
def s107 : SC :=
 (.seq (.reg [⟨some 1, (.box 71 (.tmp 0)), none⟩,
 ⟨some 2, (.assign (.const (.bool false))), none⟩])
 (.seq (.regD [⟨some 3, (.indexAddr 105 (.global 0) (.const (.int .i64 1))), none⟩,
 ⟨some 4, (.load 104 (.tmp 3)), none⟩,
 ⟨some 5, (.fieldAddr 71 (.tmp 1) 0), none⟩,
 ⟨some 6, (.load 3 (.tmp 5)), none⟩,
 ⟨some 7, (.call ⟨(.value (.func 85)), #[(.tmp 4), (.tmp 6)], #[104, 3]⟩), none⟩,
 ⟨some 8, (.move (.tmp 7)), none⟩,
 ⟨some 9, (.indexAddr 105 (.global 0) (.const (.int .i64 2))), some (8, true)⟩,
 ⟨some 10, (.load 104 (.tmp 9)), some (8, true)⟩,
 ⟨some 11, (.fieldAddr 71 (.tmp 1) 1), some (8, true)⟩,
 ⟨some 12, (.load 3 (.tmp 11)), some (8, true)⟩,
 ⟨some 13, (.call ⟨(.value (.func 85)), #[(.tmp 10), (.tmp 12)], #[104, 3]⟩), some (8, true)⟩,
 ⟨some 14, (.pick (.tmp 8) (.tmp 13) (.const (.bool false))), none⟩,
 ⟨some 15, (.move (.tmp 14)), none⟩,
 ⟨some 16, (.call ⟨(.value (.func 137)), #[(.const (.int .i64 5))], #[3]⟩), some (15, true)⟩,
 ⟨some 17, (.fieldAddr 71 (.tmp 1) 2), some (15, true)⟩,
 ⟨some 18, (.load 24 (.tmp 17)), some (15, true)⟩,
 ⟨some 19, (.call ⟨(.value (.func 108)), #[(.tmp 16), (.tmp 18), (.func 109)], #[104, 24, 164]⟩), some (15, true)⟩,
 ⟨some 20, (.pick (.tmp 15) (.tmp 19) (.const (.bool false))), none⟩,
 ⟨some 21, (.move (.tmp 20)), none⟩,
 ⟨some 22, (.indexAddr 105 (.global 0) (.const (.int .i64 7))), some (21, true)⟩,
 ⟨some 23, (.load 104 (.tmp 22)), some (21, true)⟩,
 ⟨some 24, (.fieldAddr 71 (.tmp 1) 3), some (21, true)⟩,
 ⟨some 25, (.load 3 (.tmp 24)), some (21, true)⟩,
 ⟨some 26, (.call ⟨(.value (.func 85)), #[(.tmp 23), (.tmp 25)], #[104, 3]⟩), some (21, true)⟩,
 ⟨some 27, (.pick (.tmp 21) (.tmp 26) (.const (.bool false))), none⟩,
 ⟨some 2, (.assign (.tmp 27)), none⟩] [0, 1, 0, 4, 15, 31, 63, 127, 63, 319, 1023, 2047, 4095, 8191, 8191, 24575, 65535, 131071, 262143, 524287, 1048575, 524287, 2621439, 8388607, 16777215, 33554431])
 .ret))
theorem fun107 : Fun Tryz.prog vmL 107 28 [(.tmp 2)] s107 := Fun.of Tryz.func107 (by kernel_rfl) (by kernel_rfl) rfl rfl (by decide)
def s108 : SC :=
 (.seq (.reg [⟨some 3, (.box 104 (.tmp 0)), none⟩,
 ⟨some 5, (.box 164 (.tmp 2)), none⟩,
 ⟨some 6, (.assign (.const (.bool false))), none⟩])
 (.seq (.reg [⟨some 7, (.load 104 (.tmp 3)), none⟩,
 ⟨some 8, (.move (.tmp 1)), none⟩,
 ⟨some 9, (.call ⟨(.builtin .len), #[(.tmp 8)], #[24]⟩), none⟩,
 ⟨some 10, (.call ⟨(.value (.func 85)), #[(.tmp 7), (.tmp 9)], #[104, 3]⟩), none⟩,
 ⟨some 11, (.move (.tmp 10)), none⟩,
 ⟨some 12, (.move (.tmp 1)), some (11, true)⟩,
 ⟨some 13, (.makeFunc (.func 139) #[] #[(.tmp 5)]), some (11, true)⟩,
 ⟨some 14, (.call ⟨(.value (.func 138)), #[(.tmp 12), (.tmp 13)], #[24, 164]⟩), some (11, true)⟩,
 ⟨some 15, (.unOp .not 4 (.tmp 14)), some (11, true)⟩,
 ⟨some 16, (.pick (.tmp 11) (.tmp 15) (.const (.bool false))), none⟩,
 ⟨some 6, (.assign (.tmp 16)), none⟩])
 .ret))
theorem fun108 : Fun Tryz.prog vmL 108 17 [(.tmp 6)] s108 := Fun.of Tryz.func108 (by kernel_rfl) (by kernel_rfl) rfl rfl (by decide)
def s109 : SC :=
 (.seq (.reg [⟨some 2, (.assign (.const (.bool false))), none⟩])
 (.seq (.reg [⟨some 3, (.indexAddr 105 (.global 0) (.const (.int .i64 6))), none⟩,
 ⟨some 4, (.load 104 (.tmp 3)), none⟩,
 ⟨some 5, (.move (.tmp 0)), none⟩,
 ⟨some 6, (.call ⟨(.value (.func 85)), #[(.tmp 4), (.tmp 5)], #[104, 3]⟩), none⟩,
 ⟨some 2, (.assign (.tmp 6)), none⟩])
 .ret))
theorem fun109 : Fun Tryz.prog vmL 109 7 [(.tmp 2)] s109 := Fun.of Tryz.func109 (by kernel_rfl) (by kernel_rfl) rfl rfl (by decide)
def z97 : SC :=
 (.seq (.reg [⟨some 8, (.binOp .lss 3 (.tmp 7) (.tmp 6) 3), none⟩])
 (.seq (.cond (.tmp 8) .skip (.exit 0))
 (.seq (.block 1 (.seq (.reg [⟨some 9, (.move (.tmp 7)), none⟩,
 ⟨some 10, (.indexAddr 24 (.tmp 5) (.tmp 7)), none⟩,
 ⟨some 11, (.load 3 (.tmp 10)), none⟩,
 ⟨some 3, (.assign (.tmp 9)), none⟩,
 ⟨some 4, (.assign (.tmp 11)), none⟩])
 (.seq (.reg [⟨some 12, (.move (.tmp 3)), none⟩,
 ⟨some 13, (.binOp .gtr 3 (.tmp 12) (.const (.int .i64 0)) 3), none⟩,
 ⟨some 14, (.move (.tmp 13)), none⟩,
 ⟨some 15, (.move (.tmp 4)), some (14, true)⟩,
 ⟨some 16, (.move (.tmp 0)), some (14, true)⟩,
 ⟨some 17, (.move (.tmp 3)), some (14, true)⟩,
 ⟨some 18, (.binOp .sub 3 (.tmp 17) (.const (.int .i64 1)) 3), some (14, true)⟩,
 ⟨some 19, (.indexAddr 24 (.tmp 16) (.tmp 18)), some (14, true)⟩,
 ⟨some 20, (.load 3 (.tmp 19)), some (14, true)⟩,
 ⟨some 21, (.binOp .leq 3 (.tmp 15) (.tmp 20) 3), some (14, true)⟩,
 ⟨some 22, (.pick (.tmp 14) (.tmp 21) (.const (.bool false))), none⟩])
 (.cond (.tmp 22) (.seq (.reg [⟨some 2, (.assign (.const (.bool false))), none⟩])
 .ret) .skip))))
 (.reg [⟨some 23, (.binOp .add 3 (.tmp 7) (.const (.int .i64 1)) 3), none⟩,
 ⟨some 7, (.move (.tmp 23)), none⟩]))))
def s110 : SC :=
 (.seq (.reg [⟨some 2, (.assign (.const (.bool false))), none⟩])
 (.seq (.seq (.reg [⟨some 5, (.move (.tmp 0)), none⟩,
 ⟨some 6, (.call ⟨(.builtin .len), #[(.tmp 5)], #[24]⟩), none⟩,
 ⟨some 7, (.move (.const (.int .i64 0))), none⟩])
 (.block 0 (.loop z97)))
 (.seq (.reg [⟨some 2, (.assign (.const (.bool true))), none⟩])
 .ret)))
theorem fun110 : Fun Tryz.prog vmL 110 24 [(.tmp 2)] s110 := Fun.of Tryz.func110 (by kernel_rfl) (by kernel_rfl) rfl rfl (by decide)
def zfc : SC :=
 (.seq (.reg [⟨some 6, (.binOp .lss 3 (.tmp 5) (.const (.int .i64 7)) 3), none⟩])
 (.seq (.cond (.tmp 6) .skip (.exit 0))
 (.seq (.block 1 (.seq (.reg [⟨some 7, (.move (.tmp 5)), none⟩,
 ⟨some 4, (.assign (.tmp 7)), none⟩])
 (.reg [⟨some 8, (.move (.tmp 4)), none⟩,
 ⟨some 9, (.move (.tmp 0)), none⟩,
 ⟨some 10, (.move (.tmp 4)), none⟩,
 ⟨some 11, (.call ⟨(.value (.func 129)), #[(.tmp 9), (.tmp 10)], #[82, 3]⟩), none⟩,
 ⟨some 12, (.indexAddr 124 (.tmp 3) (.tmp 8)), none⟩,
 ⟨none, (.store 4 (.tmp 12) (.tmp 11)), none⟩])))
 (.reg [⟨some 13, (.binOp .add 3 (.tmp 5) (.const (.int .i64 1)) 3), none⟩,
 ⟨some 5, (.move (.tmp 13)), none⟩]))))
def s111 : SC :=
 (.seq (.reg [⟨some 2, (.alloc 124), none⟩])
 (.seq (.reg [⟨some 3, (.alloc 124), none⟩])
 (.seq (.seq (.reg [⟨some 5, (.move (.const (.int .i64 0))), none⟩])
 (.block 0 (.loop zfc)))
 (.seq (.reg [⟨some 14, (.load 124 (.tmp 3)), none⟩,
 ⟨none, (.store 124 (.tmp 2) (.tmp 14)), none⟩])
 .ret))))
theorem fun111 : Fun Tryz.prog vmL 111 15 [(.cell 2 124)] s111 := Fun.of Tryz.func111 (by kernel_rfl) (by kernel_rfl) rfl rfl (by decide)
def s112 : SC :=
 (.seq (.reg [⟨some 1, (.box 89 (.tmp 0)), none⟩,
 ⟨some 2, (.assign (.const (.int .i64 0))), none⟩])
 (.seq (.reg [⟨some 3, (.fieldAddr 89 (.tmp 1) 0), none⟩,
 ⟨some 4, (.load 3 (.tmp 3)), none⟩,
 ⟨some 2, (.assign (.tmp 4)), none⟩])
 .ret))
theorem fun112 : Fun Tryz.prog vmL 112 5 [(.tmp 2)] s112 := Fun.of Tryz.func112 (by kernel_rfl) (by kernel_rfl) rfl rfl (by decide)
def s113 : SC :=
 (.seq (.reg [⟨some 1, (.box 89 (.tmp 0)), none⟩,
 ⟨some 2, (.assign (.const (.int .i64 0))), none⟩])
 (.seq (.reg [⟨some 3, (.fieldAddr 89 (.tmp 1) 1), none⟩,
 ⟨some 4, (.load 3 (.tmp 3)), none⟩,
 ⟨some 2, (.assign (.tmp 4)), none⟩])
 .ret))
theorem fun113 : Fun Tryz.prog vmL 113 5 [(.tmp 2)] s113 := Fun.of Tryz.func113 (by kernel_rfl) (by kernel_rfl) rfl rfl (by decide)
def s114 : SC :=
 (.seq (.reg [⟨some 1, (.box 126 (.tmp 0)), none⟩,
 ⟨some 2, (.assign (.const (.bool false))), none⟩])
 (.seq (.reg [⟨some 4, (.load 126 (.tmp 1)), none⟩,
 ⟨some 5, (.call ⟨(.value (.func 133)), #[(.tmp 4)], #[126]⟩), none⟩,
 ⟨some 3, (.assign (.tmp 5)), none⟩])
 (.seq (.reg [⟨some 6, (.move (.tmp 3)), none⟩,
 ⟨some 7, (.call ⟨(.builtin .len), #[(.tmp 6)], #[22]⟩), none⟩,
 ⟨some 8, (.binOp .eql 3 (.tmp 7) (.const (.int .i64 1)) 3), none⟩,
 ⟨some 9, (.move (.tmp 8)), none⟩,
 ⟨some 10, (.move (.tmp 3)), some (9, false)⟩,
 ⟨some 11, (.call ⟨(.value (.func 134)), #[(.tmp 10), (.func 140)], #[22, 161]⟩), some (9, false)⟩,
 ⟨some 12, (.unOp .not 4 (.tmp 11)), some (9, false)⟩,
 ⟨some 13, (.pick (.tmp 9) (.const (.bool true)) (.tmp 12)), none⟩,
 ⟨some 2, (.assign (.tmp 13)), none⟩])
 .ret)))
theorem fun114 : Fun Tryz.prog vmL 114 14 [(.tmp 2)] s114 := Fun.of Tryz.func114 (by kernel_rfl) (by kernel_rfl) rfl rfl (by decide)
def s115 : SC :=
 (.seq (.reg [⟨some 2, (.alloc 104), none⟩])
 (.seq (.reg [⟨some 3, (.move (.tmp 0)), none⟩,
 ⟨some 4, (.binOp .sub 3 (.tmp 3) (.const (.int .i64 1)) 3), none⟩,
 ⟨some 5, (.build 104 #[(0, (.const (.int .i64 0))), (1, (.tmp 4))]), none⟩,
 ⟨none, (.store 104 (.tmp 2) (.tmp 5)), none⟩])
 .ret))
theorem fun115 : Fun Tryz.prog vmL 115 6 [(.cell 2 104)] s115 := Fun.of Tryz.func115 (by kernel_rfl) (by kernel_rfl) rfl rfl (by decide)
def zan : SC :=
 (.seq (.reg [⟨some 12, (.binOp .lss 3 (.tmp 11) (.tmp 10) 3), none⟩])
 (.seq (.cond (.tmp 12) .skip (.exit 0))
 (.seq (.block 1 (.seq (.reg [⟨some 13, (.indexAddr 24 (.tmp 9) (.tmp 11)), none⟩,
 ⟨some 14, (.load 3 (.tmp 13)), none⟩,
 ⟨some 8, (.assign (.tmp 14)), none⟩])
 (.seq (.seq (.reg [⟨some 15, (.move (.tmp 6)), none⟩,
 ⟨some 16, (.fieldAddr 77 (.tmp 2) 0), none⟩,
 ⟨some 17, (.fieldAddr 26 (.tmp 16) 0), none⟩,
 ⟨some 18, (.load 22 (.tmp 17)), none⟩,
 ⟨some 19, (.call ⟨(.builtin .len), #[(.tmp 18)], #[22]⟩), none⟩,
 ⟨some 20, (.binOp .sub 3 (.tmp 19) (.const (.int .i64 1)) 3), none⟩,
 ⟨some 21, (.build 104 #[(0, (.tmp 15)), (1, (.tmp 20))]), none⟩,
 ⟨some 22, (.move (.tmp 8)), none⟩,
 ⟨some 23, (.call ⟨(.value (.func 85)), #[(.tmp 21), (.tmp 22)], #[104, 3]⟩), none⟩,
 ⟨some 24, (.unOp .not 4 (.tmp 23)), none⟩])
 (.cond (.tmp 24) (.seq (.reg [⟨some 25, (.build 124 #[]), none⟩,
 ⟨none, (.store 124 (.tmp 4) (.tmp 25)), none⟩])
 .ret) .skip))
 (.seq (.reg [⟨some 26, (.move (.tmp 8)), none⟩,
 ⟨some 27, (.indexAddr 124 (.tmp 5) (.tmp 26)), none⟩,
 ⟨none, (.store 4 (.tmp 27) (.const (.bool true))), none⟩])
 (.reg [⟨some 28, (.move (.tmp 8)), none⟩,
 ⟨some 29, (.binOp .add 3 (.tmp 28) (.const (.int .i64 1)) 3), none⟩,
 ⟨some 6, (.assign (.tmp 29)), none⟩])))))
 (.reg [⟨some 30, (.binOp .add 3 (.tmp 11) (.const (.int .i64 1)) 3), none⟩,
 ⟨some 11, (.move (.tmp 30)), none⟩]))))
def s116 : SC :=
 (.seq (.reg [⟨some 2, (.box 77 (.tmp 0)), none⟩,
 ⟨some 4, (.alloc 124), none⟩])
 (.seq (.reg [⟨some 5, (.alloc 124), none⟩])
 (.seq (.reg [⟨some 6, (.assign (.const (.int .i64 0))), none⟩])
 (.seq (.seq (.reg [⟨some 9, (.move (.tmp 1)), none⟩,
 ⟨some 10, (.call ⟨(.builtin .len), #[(.tmp 9)], #[24]⟩), none⟩,
 ⟨some 11, (.move (.const (.int .i64 0))), none⟩])
 (.block 0 (.loop zan)))
 (.seq (.reg [⟨some 31, (.load 124 (.tmp 5)), none⟩,
 ⟨none, (.store 124 (.tmp 4) (.tmp 31)), none⟩])
 .ret)))))
theorem fun116 : Fun Tryz.prog vmL 116 32 [(.cell 4 124)] s116 := Fun.of Tryz.func116 (by kernel_rfl) (by kernel_rfl) rfl rfl (by decide)
def s117 : SC :=
 (.seq (.reg [⟨some 1, (.box 132 (.tmp 0)), none⟩,
 ⟨some 2, (.assign (.const (.int .i64 0))), none⟩])
 (.seq (.reg [⟨some 3, (.fieldAddr 132 (.tmp 1) 1), none⟩,
 ⟨some 4, (.fieldAddr 71 (.tmp 3) 2), none⟩,
 ⟨some 5, (.load 24 (.tmp 4)), none⟩,
 ⟨some 6, (.fieldAddr 132 (.tmp 1) 2), none⟩,
 ⟨some 7, (.load 3 (.tmp 6)), none⟩,
 ⟨some 8, (.indexAddr 24 (.tmp 5) (.tmp 7)), none⟩,
 ⟨some 9, (.load 3 (.tmp 8)), none⟩,
 ⟨some 2, (.assign (.tmp 9)), none⟩])
 .ret))
theorem fun117 : Fun Tryz.prog vmL 117 10 [(.tmp 2)] s117 := Fun.of Tryz.func117 (by kernel_rfl) (by kernel_rfl) rfl rfl (by decide)
def s118 : SC :=
 (.seq (.reg [⟨some 1, (.box 132 (.tmp 0)), none⟩,
 ⟨some 2, (.assign (.const (.int .i64 0))), none⟩])
 (.seq (.regD [⟨some 3, (.fieldAddr 132 (.tmp 1) 1), none⟩,
 ⟨some 4, (.fieldAddr 71 (.tmp 3) 3), none⟩,
 ⟨some 5, (.load 3 (.tmp 4)), none⟩,
 ⟨some 6, (.fieldAddr 132 (.tmp 1) 0), none⟩,
 ⟨some 7, (.load 126 (.tmp 6)), none⟩,
 ⟨some 8, (.call ⟨(.value (.func 102)), #[(.tmp 7), (.func 113)], #[126, 159]⟩), none⟩,
 ⟨some 9, (.fieldAddr 132 (.tmp 1) 0), none⟩,
 ⟨some 10, (.fieldAddr 126 (.tmp 9) 0), none⟩,
 ⟨some 11, (.fieldAddr 77 (.tmp 10) 0), none⟩,
 ⟨some 12, (.fieldAddr 26 (.tmp 11) 2), none⟩,
 ⟨some 13, (.load 3 (.tmp 12)), none⟩,
 ⟨some 14, (.call ⟨(.value (.func 141)), #[(.tmp 8), (.tmp 13)], #[3, 3]⟩), none⟩,
 ⟨some 15, (.binOp .sub 3 (.tmp 14) (.const (.int .i64 1)) 3), none⟩,
 ⟨some 16, (.binOp .mul 3 (.tmp 5) (.tmp 15) 3), none⟩,
 ⟨some 2, (.assign (.tmp 16)), none⟩] [0, 1, 3, 0, 8, 24, 0, 64, 192, 448, 960, 2040, 4088, 8191, 16383])
 .ret))
theorem fun118 : Fun Tryz.prog vmL 118 17 [(.tmp 2)] s118 := Fun.of Tryz.func118 (by kernel_rfl) (by kernel_rfl) rfl rfl (by decide)
def s119 : SC :=
 (.seq (.reg [⟨some 1, (.box 132 (.tmp 0)), none⟩,
 ⟨some 2, (.assign (.const (.int .i64 0))), none⟩])
 (.seq (.regD [⟨some 3, (.fieldAddr 132 (.tmp 1) 0), none⟩,
 ⟨some 4, (.fieldAddr 126 (.tmp 3) 0), none⟩,
 ⟨some 5, (.fieldAddr 77 (.tmp 4) 0), none⟩,
 ⟨some 6, (.fieldAddr 26 (.tmp 5) 5), none⟩,
 ⟨some 7, (.load 3 (.tmp 6)), none⟩,
 ⟨some 8, (.fieldAddr 132 (.tmp 1) 0), none⟩,
 ⟨some 9, (.load 126 (.tmp 8)), none⟩,
 ⟨some 10, (.call ⟨(.value (.func 102)), #[(.tmp 9), (.func 103)], #[126, 159]⟩), none⟩,
 ⟨some 11, (.fieldAddr 132 (.tmp 1) 0), none⟩,
 ⟨some 12, (.fieldAddr 126 (.tmp 11) 0), none⟩,
 ⟨some 13, (.fieldAddr 77 (.tmp 12) 0), none⟩,
 ⟨some 14, (.fieldAddr 26 (.tmp 13) 3), none⟩,
 ⟨some 15, (.load 3 (.tmp 14)), none⟩,
 ⟨some 16, (.binOp .sub 3 (.tmp 10) (.tmp 15) 3), none⟩,
 ⟨some 17, (.buildSlice 24 1 #[(0, (.tmp 16))]), none⟩,
 ⟨some 18, (.call ⟨(.value (.func 142)), #[(.const (.int .i64 0)), (.tmp 17)], #[3, 24]⟩), none⟩,
 ⟨some 19, (.fieldAddr 132 (.tmp 1) 0), none⟩,
 ⟨some 20, (.fieldAddr 126 (.tmp 19) 0), none⟩,
 ⟨some 21, (.fieldAddr 77 (.tmp 20) 0), none⟩,
 ⟨some 22, (.fieldAddr 26 (.tmp 21) 4), none⟩,
 ⟨some 23, (.load 3 (.tmp 22)), none⟩,
 ⟨some 24, (.call ⟨(.value (.func 141)), #[(.tmp 18), (.tmp 23)], #[3, 3]⟩), none⟩,
 ⟨some 25, (.binOp .mul 3 (.tmp 7) (.tmp 24) 3), none⟩,
 ⟨some 2, (.assign (.tmp 25)), none⟩] [0, 1, 3, 7, 15, 0, 32, 96, 0, 256, 768, 1792, 3840, 8160, 16352, 32736, 0, 65536, 196608, 458752, 983040, 2097120, 4194303, 8388607])
 .ret))
theorem fun119 : Fun Tryz.prog vmL 119 26 [(.tmp 2)] s119 := Fun.of Tryz.func119 (by kernel_rfl) (by kernel_rfl) rfl rfl (by decide)
def zam : SC :=
 (.seq (.reg [⟨some 9, (.binOp .lss 3 (.tmp 8) (.tmp 7) 3), none⟩])
 (.seq (.cond (.tmp 9) .skip (.exit 0))
 (.seq (.block 1 (.seq (.reg [⟨some 10, (.move (.tmp 8)), none⟩,
 ⟨some 5, (.assign (.tmp 10)), none⟩])
 (.seq (.reg [⟨some 11, (.move (.tmp 1)), none⟩,
 ⟨some 12, (.move (.tmp 0)), none⟩,
 ⟨some 13, (.move (.tmp 5)), none⟩,
 ⟨some 14, (.indexAddr 23 (.tmp 12) (.tmp 13)), none⟩,
 ⟨some 15, (.load 71 (.tmp 14)), none⟩,
 ⟨some 16, (.call ⟨(.value (.tmp 11)), #[(.tmp 15)], #[71]⟩), none⟩])
 (.cond (.tmp 16) (.seq (.reg [⟨some 17, (.move (.tmp 5)), none⟩,
 ⟨some 4, (.assign (.tmp 17)), none⟩])
 .ret) .skip))))
 (.reg [⟨some 18, (.binOp .add 3 (.tmp 8) (.const (.int .i64 1)) 3), none⟩,
 ⟨some 8, (.move (.tmp 18)), none⟩]))))
def s120 : SC :=
 (.seq (.reg [⟨some 4, (.assign (.const (.int .i64 0))), none⟩])
 (.seq (.seq (.reg [⟨some 6, (.move (.tmp 0)), none⟩,
 ⟨some 7, (.call ⟨(.builtin .len), #[(.tmp 6)], #[23]⟩), none⟩,
 ⟨some 8, (.move (.const (.int .i64 0))), none⟩])
 (.block 0 (.loop zam)))
 (.seq (.reg [⟨some 4, (.assign (.const (.int .i64 (-1)))), none⟩])
 .ret)))
theorem fun120 : Fun Tryz.prog vmL 120 19 [(.tmp 4)] s120 := Fun.of Tryz.func120 (by kernel_rfl) (by kernel_rfl) rfl rfl (by decide)
def s121 : SC :=
 (.seq (.reg [⟨some 4, (.assign (.const (.int .i64 0))), none⟩])
 (.seq (.reg [⟨some 5, (.move (.tmp 0)), none⟩,
 ⟨some 6, (.move (.tmp 1)), none⟩,
 ⟨some 7, (.binOp .shl 82 (.const (.int .i64 1)) (.tmp 6) 3), none⟩,
 ⟨some 8, (.binOp .or 82 (.tmp 5) (.tmp 7) 82), none⟩,
 ⟨some 4, (.assign (.tmp 8)), none⟩])
 .ret))
theorem fun121 : Fun Tryz.prog vmL 121 9 [(.tmp 4)] s121 := Fun.of Tryz.func121 (by kernel_rfl) (by kernel_rfl) rfl rfl (by decide)
def s129 : SC :=
 (.seq (.reg [⟨some 4, (.assign (.const (.bool false))), none⟩])
 (.seq (.reg [⟨some 5, (.move (.tmp 0)), none⟩,
 ⟨some 6, (.move (.tmp 1)), none⟩,
 ⟨some 7, (.binOp .shr 82 (.tmp 5) (.tmp 6) 3), none⟩,
 ⟨some 8, (.binOp .and 82 (.tmp 7) (.const (.int .i64 1)) 82), none⟩,
 ⟨some 9, (.binOp .eql 82 (.tmp 8) (.const (.int .i64 1)) 82), none⟩,
 ⟨some 4, (.assign (.tmp 9)), none⟩])
 .ret))
theorem fun129 : Fun Tryz.prog vmL 129 10 [(.tmp 4)] s129 := Fun.of Tryz.func129 (by kernel_rfl) (by kernel_rfl) rfl rfl (by decide)
def zfb : SC :=
 (.seq (.reg [⟨some 11, (.binOp .lss 3 (.tmp 10) (.tmp 9) 3), none⟩])
 (.seq (.cond (.tmp 11) .skip (.exit 0))
 (.seq (.block 1 (.seq (.reg [⟨some 12, (.indexAddr 22 (.tmp 8) (.tmp 10)), none⟩,
 ⟨some 13, (.load 89 (.tmp 12)), none⟩,
 ⟨some 7, (.alloc 89), none⟩,
 ⟨none, (.store 89 (.tmp 7) (.tmp 13)), none⟩])
 (.reg [⟨some 14, (.move (.tmp 5)), none⟩,
 ⟨some 15, (.move (.tmp 0)), none⟩,
 ⟨some 16, (.load 89 (.tmp 7)), none⟩,
 ⟨some 17, (.call ⟨(.value (.tmp 15)), #[(.tmp 16)], #[89]⟩), none⟩,
 ⟨some 18, (.binOp .add 3 (.tmp 14) (.tmp 17) 3), none⟩,
 ⟨some 5, (.assign (.tmp 18)), none⟩])))
 (.reg [⟨some 19, (.binOp .add 3 (.tmp 10) (.const (.int .i64 1)) 3), none⟩,
 ⟨some 10, (.move (.tmp 19)), none⟩]))))
def s132 : SC :=
 (.seq (.reg [⟨some 4, (.assign (.const (.int .i64 0))), none⟩])
 (.seq (.reg [⟨some 5, (.assign (.const (.int .i64 0))), none⟩])
 (.seq (.seq (.reg [⟨some 8, (.move (.tmp 1)), none⟩,
 ⟨some 9, (.call ⟨(.builtin .len), #[(.tmp 8)], #[22]⟩), none⟩,
 ⟨some 10, (.move (.const (.int .i64 0))), none⟩])
 (.block 0 (.loop zfb)))
 (.seq (.reg [⟨some 20, (.move (.tmp 5)), none⟩,
 ⟨some 4, (.assign (.tmp 20)), none⟩])
 .ret))))
theorem fun132 : Fun Tryz.prog vmL 132 21 [(.tmp 4)] s132 := Fun.of Tryz.func132 (by kernel_rfl) (by kernel_rfl) rfl rfl (by decide)
def zcu : SC :=
 (.seq (.reg [⟨some 18, (.binOp .lss 3 (.tmp 17) (.tmp 16) 3), none⟩])
 (.seq (.cond (.tmp 18) .skip (.exit 0))
 (.seq (.block 1 (.seq (.reg [⟨some 19, (.move (.tmp 17)), none⟩,
 ⟨some 20, (.indexAddr 22 (.tmp 15) (.tmp 17)), none⟩,
 ⟨some 21, (.load 89 (.tmp 20)), none⟩,
 ⟨some 5, (.alloc 89), none⟩,
 ⟨some 4, (.assign (.tmp 19)), none⟩,
 ⟨none, (.store 89 (.tmp 5) (.tmp 21)), none⟩])
 (.seq (.reg [⟨some 22, (.move (.tmp 4)), none⟩,
 ⟨some 23, (.fieldAddr 126 (.tmp 1) 1), none⟩,
 ⟨some 24, (.indexAddr 124 (.tmp 23) (.tmp 22)), none⟩,
 ⟨some 25, (.load 4 (.tmp 24)), none⟩])
 (.cond (.tmp 25) (.reg [⟨some 26, (.move (.tmp 3)), none⟩,
 ⟨some 27, (.load 89 (.tmp 5)), none⟩,
 ⟨some 28, (.buildSlice 22 1 #[(0, (.tmp 27))]), none⟩,
 ⟨some 29, (.call ⟨(.builtin .append), #[(.tmp 26), (.tmp 28)], #[22, 22]⟩), none⟩,
 ⟨some 3, (.assign (.tmp 29)), none⟩]) .skip))))
 (.reg [⟨some 30, (.binOp .add 3 (.tmp 17) (.const (.int .i64 1)) 3), none⟩,
 ⟨some 17, (.move (.tmp 30)), none⟩]))))
def s133 : SC :=
 (.seq (.reg [⟨some 1, (.box 126 (.tmp 0)), none⟩,
 ⟨some 2, (.assign (.const (.slice none 0 0))), none⟩])
 (.seq (.reg [⟨some 6, (.fieldAddr 126 (.tmp 1) 0), none⟩,
 ⟨some 7, (.fieldAddr 77 (.tmp 6) 0), none⟩,
 ⟨some 8, (.fieldAddr 26 (.tmp 7) 0), none⟩,
 ⟨some 9, (.load 22 (.tmp 8)), none⟩,
 ⟨some 10, (.call ⟨(.builtin .len), #[(.tmp 9)], #[22]⟩), none⟩,
 ⟨some 11, (.makeSlice 22 (.const (.int .i64 0)) (.tmp 10)), none⟩,
 ⟨some 3, (.assign (.tmp 11)), none⟩])
 (.seq (.seq (.reg [⟨some 12, (.fieldAddr 126 (.tmp 1) 0), none⟩,
 ⟨some 13, (.fieldAddr 77 (.tmp 12) 0), none⟩,
 ⟨some 14, (.fieldAddr 26 (.tmp 13) 0), none⟩,
 ⟨some 15, (.load 22 (.tmp 14)), none⟩,
 ⟨some 16, (.call ⟨(.builtin .len), #[(.tmp 15)], #[22]⟩), none⟩,
 ⟨some 17, (.move (.const (.int .i64 0))), none⟩])
 (.block 0 (.loop zcu)))
 (.seq (.reg [⟨some 31, (.move (.tmp 3)), none⟩,
 ⟨some 32, (.move (.tmp 3)), none⟩,
 ⟨some 33, (.call ⟨(.builtin .len), #[(.tmp 32)], #[22]⟩), none⟩,
 ⟨some 34, (.move (.tmp 3)), none⟩,
 ⟨some 35, (.call ⟨(.builtin .len), #[(.tmp 34)], #[22]⟩), none⟩,
 ⟨some 36, (.slice 22 (.tmp 31) none (some (.tmp 33)) (some (.tmp 35))), none⟩,
 ⟨some 2, (.assign (.tmp 36)), none⟩])
 .ret))))
theorem fun133 : Fun Tryz.prog vmL 133 37 [(.tmp 2)] s133 := Fun.of Tryz.func133 (by kernel_rfl) (by kernel_rfl) rfl rfl (by decide)
def s134 : SC :=
 (.seq (.reg [⟨some 4, (.assign (.const (.bool false))), none⟩])
 (.seq (.reg [⟨some 5, (.move (.tmp 0)), none⟩,
 ⟨some 6, (.move (.tmp 1)), none⟩,
 ⟨some 7, (.call ⟨(.value (.func 149)), #[(.tmp 5), (.tmp 6)], #[22, 161]⟩), none⟩,
 ⟨some 8, (.binOp .geq 3 (.tmp 7) (.const (.int .i64 0)) 3), none⟩,
 ⟨some 4, (.assign (.tmp 8)), none⟩])
 .ret))
theorem fun134 : Fun Tryz.prog vmL 134 9 [(.tmp 4)] s134 := Fun.of Tryz.func134 (by kernel_rfl) (by kernel_rfl) rfl rfl (by decide)
def s135 : SC :=
 (.seq (.reg [⟨some 2, (.box 89 (.tmp 0)), none⟩,
 ⟨some 3, (.assign (.const (.bool false))), none⟩])
 (.seq (.reg [⟨some 4, (.load 161 (.tmp 1)), none⟩,
 ⟨some 5, (.load 89 (.tmp 2)), none⟩,
 ⟨some 6, (.call ⟨(.value (.tmp 4)), #[(.tmp 5)], #[89]⟩), none⟩,
 ⟨some 7, (.unOp .not 4 (.tmp 6)), none⟩,
 ⟨some 3, (.assign (.tmp 7)), none⟩])
 .ret))
theorem fun135 : Fun Tryz.prog vmL 135 8 [(.tmp 3)] s135 := Fun.of Tryz.func135 (by kernel_rfl) (by kernel_rfl) rfl rfl (by decide)
def s136 : SC :=
 (.seq (.reg [⟨some 2, (.box 71 (.tmp 0)), none⟩,
 ⟨some 3, (.assign (.const (.bool false))), none⟩])
 (.seq (.reg [⟨some 4, (.load 128 (.tmp 1)), none⟩,
 ⟨some 5, (.load 71 (.tmp 2)), none⟩,
 ⟨some 6, (.call ⟨(.value (.tmp 4)), #[(.tmp 5)], #[71]⟩), none⟩,
 ⟨some 7, (.unOp .not 4 (.tmp 6)), none⟩,
 ⟨some 3, (.assign (.tmp 7)), none⟩])
 .ret))
theorem fun136 : Fun Tryz.prog vmL 136 8 [(.tmp 3)] s136 := Fun.of Tryz.func136 (by kernel_rfl) (by kernel_rfl) rfl rfl (by decide)
def s137 : SC :=
 (.seq (.reg [⟨some 2, (.alloc 104), none⟩])
 (.seq (.reg [⟨some 3, (.move (.tmp 0)), none⟩,
 ⟨some 4, (.move (.tmp 0)), none⟩,
 ⟨some 5, (.build 104 #[(0, (.tmp 3)), (1, (.tmp 4))]), none⟩,
 ⟨none, (.store 104 (.tmp 2) (.tmp 5)), none⟩])
 .ret))
theorem fun137 : Fun Tryz.prog vmL 137 6 [(.cell 2 104)] s137 := Fun.of Tryz.func137 (by kernel_rfl) (by kernel_rfl) rfl rfl (by decide)
def s138 : SC :=
 (.seq (.reg [⟨some 4, (.assign (.const (.bool false))), none⟩])
 (.seq (.reg [⟨some 5, (.move (.tmp 0)), none⟩,
 ⟨some 6, (.move (.tmp 1)), none⟩,
 ⟨some 7, (.call ⟨(.value (.func 150)), #[(.tmp 5), (.tmp 6)], #[24, 164]⟩), none⟩,
 ⟨some 8, (.binOp .geq 3 (.tmp 7) (.const (.int .i64 0)) 3), none⟩,
 ⟨some 4, (.assign (.tmp 8)), none⟩])
 .ret))
theorem fun138 : Fun Tryz.prog vmL 138 9 [(.tmp 4)] s138 := Fun.of Tryz.func138 (by kernel_rfl) (by kernel_rfl) rfl rfl (by decide)
def s139 : SC :=
 (.seq (.reg [⟨some 3, (.assign (.const (.bool false))), none⟩])
 (.seq (.reg [⟨some 4, (.load 164 (.tmp 1)), none⟩,
 ⟨some 5, (.move (.tmp 0)), none⟩,
 ⟨some 6, (.call ⟨(.value (.tmp 4)), #[(.tmp 5)], #[3]⟩), none⟩,
 ⟨some 7, (.unOp .not 4 (.tmp 6)), none⟩,
 ⟨some 3, (.assign (.tmp 7)), none⟩])
 .ret))
theorem fun139 : Fun Tryz.prog vmL 139 8 [(.tmp 3)] s139 := Fun.of Tryz.func139 (by kernel_rfl) (by kernel_rfl) rfl rfl (by decide)
def s140 : SC :=
 (.seq (.reg [⟨some 1, (.box 89 (.tmp 0)), none⟩,
 ⟨some 2, (.assign (.const (.bool false))), none⟩])
 (.seq (.reg [⟨some 3, (.fieldAddr 89 (.tmp 1) 3), none⟩,
 ⟨some 4, (.load 4 (.tmp 3)), none⟩,
 ⟨some 2, (.assign (.tmp 4)), none⟩])
 .ret))
theorem fun140 : Fun Tryz.prog vmL 140 5 [(.tmp 2)] s140 := Fun.of Tryz.func140 (by kernel_rfl) (by kernel_rfl) rfl rfl (by decide)
def s141 : SC :=
 (.seq (.reg [⟨some 4, (.assign (.const (.int .i64 0))), none⟩])
 (.seq (.reg [⟨some 5, (.move (.tmp 0)), none⟩,
 ⟨some 6, (.move (.tmp 1)), none⟩,
 ⟨some 7, (.binOp .add 3 (.tmp 5) (.tmp 6) 3), none⟩,
 ⟨some 8, (.binOp .sub 3 (.tmp 7) (.const (.int .i64 1)) 3), none⟩,
 ⟨some 9, (.move (.tmp 1)), none⟩,
 ⟨some 10, (.binOp .quo 3 (.tmp 8) (.tmp 9) 3), none⟩,
 ⟨some 4, (.assign (.tmp 10)), none⟩])
 .ret))
theorem fun141 : Fun Tryz.prog vmL 141 11 [(.tmp 4)] s141 := Fun.of Tryz.func141 (by kernel_rfl) (by kernel_rfl) rfl rfl (by decide)
def zfa : SC :=
 (.seq (.reg [⟨some 10, (.binOp .lss 3 (.tmp 9) (.tmp 8) 3), none⟩])
 (.seq (.cond (.tmp 10) .skip (.exit 0))
 (.seq (.block 1 (.seq (.reg [⟨some 11, (.indexAddr 24 (.tmp 7) (.tmp 9)), none⟩,
 ⟨some 12, (.load 3 (.tmp 11)), none⟩,
 ⟨some 6, (.assign (.tmp 12)), none⟩])
 (.reg [⟨some 13, (.move (.tmp 0)), none⟩,
 ⟨some 14, (.move (.tmp 6)), none⟩,
 ⟨some 15, (.call ⟨(.builtin .max), #[(.tmp 13), (.tmp 14)], #[3, 3]⟩), none⟩,
 ⟨some 0, (.assign (.tmp 15)), none⟩])))
 (.reg [⟨some 16, (.binOp .add 3 (.tmp 9) (.const (.int .i64 1)) 3), none⟩,
 ⟨some 9, (.move (.tmp 16)), none⟩]))))
def s142 : SC :=
 (.seq (.reg [⟨some 4, (.assign (.const (.int .i64 0))), none⟩])
 (.seq (.seq (.reg [⟨some 7, (.move (.tmp 1)), none⟩,
 ⟨some 8, (.call ⟨(.builtin .len), #[(.tmp 7)], #[24]⟩), none⟩,
 ⟨some 9, (.move (.const (.int .i64 0))), none⟩])
 (.block 0 (.loop zfa)))
 (.seq (.reg [⟨some 17, (.move (.tmp 0)), none⟩,
 ⟨some 4, (.assign (.tmp 17)), none⟩])
 .ret)))
theorem fun142 : Fun Tryz.prog vmL 142 18 [(.tmp 4)] s142 := Fun.of Tryz.func142 (by kernel_rfl) (by kernel_rfl) rfl rfl (by decide)
def zal : SC :=
 (.seq (.reg [⟨some 9, (.binOp .lss 3 (.tmp 8) (.tmp 7) 3), none⟩])
 (.seq (.cond (.tmp 9) .skip (.exit 0))
 (.seq (.block 1 (.seq (.reg [⟨some 10, (.move (.tmp 8)), none⟩,
 ⟨some 5, (.assign (.tmp 10)), none⟩])
 (.seq (.reg [⟨some 11, (.move (.tmp 1)), none⟩,
 ⟨some 12, (.move (.tmp 0)), none⟩,
 ⟨some 13, (.move (.tmp 5)), none⟩,
 ⟨some 14, (.indexAddr 22 (.tmp 12) (.tmp 13)), none⟩,
 ⟨some 15, (.load 89 (.tmp 14)), none⟩,
 ⟨some 16, (.call ⟨(.value (.tmp 11)), #[(.tmp 15)], #[89]⟩), none⟩])
 (.cond (.tmp 16) (.seq (.reg [⟨some 17, (.move (.tmp 5)), none⟩,
 ⟨some 4, (.assign (.tmp 17)), none⟩])
 .ret) .skip))))
 (.reg [⟨some 18, (.binOp .add 3 (.tmp 8) (.const (.int .i64 1)) 3), none⟩,
 ⟨some 8, (.move (.tmp 18)), none⟩]))))
def s149 : SC :=
 (.seq (.reg [⟨some 4, (.assign (.const (.int .i64 0))), none⟩])
 (.seq (.seq (.reg [⟨some 6, (.move (.tmp 0)), none⟩,
 ⟨some 7, (.call ⟨(.builtin .len), #[(.tmp 6)], #[22]⟩), none⟩,
 ⟨some 8, (.move (.const (.int .i64 0))), none⟩])
 (.block 0 (.loop zal)))
 (.seq (.reg [⟨some 4, (.assign (.const (.int .i64 (-1)))), none⟩])
 .ret)))
theorem fun149 : Fun Tryz.prog vmL 149 19 [(.tmp 4)] s149 := Fun.of Tryz.func149 (by kernel_rfl) (by kernel_rfl) rfl rfl (by decide)
def zak : SC :=
 (.seq (.reg [⟨some 9, (.binOp .lss 3 (.tmp 8) (.tmp 7) 3), none⟩])
 (.seq (.cond (.tmp 9) .skip (.exit 0))
 (.seq (.block 1 (.seq (.reg [⟨some 10, (.move (.tmp 8)), none⟩,
 ⟨some 5, (.assign (.tmp 10)), none⟩])
 (.seq (.reg [⟨some 11, (.move (.tmp 1)), none⟩,
 ⟨some 12, (.move (.tmp 0)), none⟩,
 ⟨some 13, (.move (.tmp 5)), none⟩,
 ⟨some 14, (.indexAddr 24 (.tmp 12) (.tmp 13)), none⟩,
 ⟨some 15, (.load 3 (.tmp 14)), none⟩,
 ⟨some 16, (.call ⟨(.value (.tmp 11)), #[(.tmp 15)], #[3]⟩), none⟩])
 (.cond (.tmp 16) (.seq (.reg [⟨some 17, (.move (.tmp 5)), none⟩,
 ⟨some 4, (.assign (.tmp 17)), none⟩])
 .ret) .skip))))
 (.reg [⟨some 18, (.binOp .add 3 (.tmp 8) (.const (.int .i64 1)) 3), none⟩,
 ⟨some 8, (.move (.tmp 18)), none⟩]))))
def s150 : SC :=
 (.seq (.reg [⟨some 4, (.assign (.const (.int .i64 0))), none⟩])
 (.seq (.seq (.reg [⟨some 6, (.move (.tmp 0)), none⟩,
 ⟨some 7, (.call ⟨(.builtin .len), #[(.tmp 6)], #[24]⟩), none⟩,
 ⟨some 8, (.move (.const (.int .i64 0))), none⟩])
 (.block 0 (.loop zak)))
 (.seq (.reg [⟨some 4, (.assign (.const (.int .i64 (-1)))), none⟩])
 .ret)))
theorem fun150 : Fun Tryz.prog vmL 150 19 [(.tmp 4)] s150 := Fun.of Tryz.func150 (by kernel_rfl) (by kernel_rfl) rfl rfl (by decide)
end Go.Proofs.YtcmkngajdckndaaGreatDoor
namespace Go
namespace Lm
variable {P : Program} {nv : Nat} {ih : Rec} {vs : Vs} {h : Hp} {nx : Nat}
def plc (place : Nat → Option (Nat × Nat)) : List Nat → Option (List (Nat × Nat))
  | [] => some []
  | k :: l => (match place k, plc place l with | some q, some r => bif Nat.blt 0 q.2 then some (q :: r) else none | _, _ => none)
theorem za0 (place : Nat → Option (Nat × Nat)) : ∀ (ps : List (Nat × Operand)) (fs : List OpV), dXs nv (ps.map Prod.snd) = .mk fs →
    z2b place nv ps = match plc place (ps.map Prod.fst) with | some l => .mk (l.zip fs) | none => .bad := by
  intro ps
  induction ps with
  | nil => intro fs hf; cases hf; rfl
  | cons p ps ihp =>
    intro fs hf
    obtain ⟨f, h1⟩ := z03 nv p.2
    obtain ⟨k, h2⟩ := z1a nv (ps.map Prod.snd)
    have e : dXs nv ((p :: ps).map Prod.snd) = match dX nv p.2, dXs nv (ps.map Prod.snd) with | .mk f, .mk l => .mk (f :: l) := rfl
    rw [e, h1, h2] at hf
    cases hf
    have e2 : z2b place nv (p :: ps) = match place p.1, dX nv p.2, z2b place nv ps with | some q, .mk f, .mk r => Bool.rec .bad (.mk ((q, f) :: r)) (Nat.blt 0 q.2) | _, _, _ => .bad := rfl
    rw [e2, h1, ihp k h2]
    show _ = match (match place p.1, plc place (ps.map Prod.fst) with | some q, some r => bif Nat.blt 0 q.2 then some (q :: r) else none | _, _ => none) with | some l => PL.mk (l.zip (f :: k)) | none => PL.bad
    cases place p.1 with
    | none => rfl
    | some q =>
      cases plc place (ps.map Prod.fst) with
      | none => rfl
      | some r => simp only; cases Nat.blt 0 q.2 <;> rfl
theorem zmu : ∀ (l : List (Nat × Nat)) (fs : List OpV), l.length = fs.length → evP (l.zip fs) vs [] = match evs fs vs [] with | some us => some (l.zip us) | none => none := by
  intro l
  induction l with
  | nil => intro fs hl; cases fs with
    | nil => rfl
    | cons _ _ => simp at hl
  | cons q l ihl =>
    intro fs hl
    cases fs with
    | nil => simp at hl
    | cons f fs =>
      have e : evP ((q :: l).zip (f :: fs)) vs [] = match f vs [] with | some v => (match evP (l.zip fs) vs [] with | some us => some ((q, v) :: us) | none => none) | none => none := rfl
      have e2 : evs (f :: fs) vs [] = match f vs [] with | some v => (match evs fs vs [] with | some us => some (v :: us) | none => none) | none => none := rfl
      rw [e, e2, ihl fs (by simpa using hl)]
      cases f vs [] with
      | none => rfl
      | some v => simp only; cases evs fs vs [] <;> rfl
theorem zgk {place : Nat → Option (Nat × Nat)} : ∀ {is : List Nat} {l : List (Nat × Nat)}, plc place is = some l → l.length = is.length := by
  intro is
  induction is with
  | nil => intro l h; cases h; rfl
  | cons k is ihk =>
    intro l h
    unfold plc at h
    split at h
    · rename_i q r h1 h2
      cases hb : Nat.blt 0 q.2 with
      | false => rw [hb] at h; cases h
      | true => rw [hb] at h; cases h; simp [ihk h2]
    · cases h
theorem zmz : ∀ {l : List Operand} {fs : List OpV}, dXs nv l = .mk fs → fs.length = l.length := by
  intro l
  induction l with
  | nil => intro fs h; cases h; rfl
  | cons x l ihl =>
    intro fs h
    obtain ⟨f, h1⟩ := z03 nv x
    obtain ⟨k, h2⟩ := z1a nv l
    have e : dXs nv (x :: l) = match dX nv x, dXs nv l with | .mk f, .mk l => .mk (f :: l) := rfl
    rw [e, h1, h2] at h
    cases h
    simp [ihl h2]
def plB (P : Program) (t : TypeId) (is : List Nat) : Option (List (Nat × Nat) × List Value) := match ty P t with
  | some i => (match i.zero, i.desc with
    | some (.agg cs), .struct fs => (match plc (z1z P fs) is with | some l => bif ground (.agg cs) && (fs.toList.all fun f => (ty P f.type).isSome) then some (l, cs.toList) else none | none => none)
    | some (.agg cs), .array _ e => (match ty P e with
      | some j => (match plc (fun k => some (k * j.size, j.size)) is with | some l => bif ground (.agg cs) then some (l, cs.toList) else none | none => none)
      | none => none)
    | _, _ => none)
  | none => none
def zis (pl : Option (List (Nat × Nat) × List Value)) (us : Option (List Value)) : Out := match pl, us with
  | some (l, z), some us => outP (match z3v (l.zip us) z with | some cs => some (.agg cs.toArray) | none => none)
  | _, _ => .bad
theorem zct {l : List (Nat × Nat)} {z : List Value} {xs : List Operand} {fs : List OpV} (hf : dXs nv xs = .mk fs) (hl : l.length = xs.length) : outP (z63 z (l.zip fs) vs []) = zis (some (l, z)) (opVs nv vs xs) := by
  unfold z63 zis
  rw [zmu l fs (by rw [hl, zmz hf]), z8j hf]
  cases opVs nv vs xs <;> rfl
theorem zlg (t : TypeId) (ps : Array (Nat × Operand)) : rOp P nv ih (.build t ps) vs h nx = zis (plB P t (ps.toList.map Prod.fst)) (opVs nv vs (ps.toList.map Prod.snd)) := by
  unfold rOp
  show runO (z52 P nv t ps) ih vs [] h nx = _
  obtain ⟨fs', hfs⟩ := z1a nv (ps.toList.map Prod.snd)
  unfold z52 plB
  cases ty P t with
  | none => rfl
  | some i =>
    simp only
    cases i.zero with
    | none => cases i.desc <;> rfl
    | some z =>
      cases i.desc with
      | struct fs =>
        simp only
        rw [za0 _ _ _ hfs]
        cases z with
        | agg cs =>
          cases hp : plc (z1z P fs) (ps.toList.map Prod.fst) with
          | none => simp only [hp]; rfl
          | some l =>
            simp only [hp]
            cases (ground (.agg cs) && (fs.toList.all fun f => (ty P f.type).isSome)) with
            | false => rfl
            | true => exact zct hfs (by rw [zgk hp]; simp)
        | _ => cases plc (z1z P fs) (ps.toList.map Prod.fst) <;> rfl
      | array n e =>
        simp only
        cases he : ty P e with
        | none => cases z <;> first | rfl | (simp only [he]; rfl)
        | some j =>
          simp only
          rw [za0 _ _ _ hfs]
          cases z with
          | agg cs =>
            cases hp : plc (fun k => some (k * j.size, j.size)) (ps.toList.map Prod.fst) with
            | none => simp only [he, hp]; rfl
            | some l =>
              simp only [he, hp]
              cases ground (.agg cs) with
              | false => rfl
              | true => exact zct hfs (by rw [zgk hp]; simp)
          | _ => cases plc (fun k => some (k * j.size, j.size)) (ps.toList.map Prod.fst) <;> first | rfl | (simp only [he]; rfl)
      | _ => cases z <;> rfl
def plS (P : Program) (t : TypeId) (n : Nat) (is : List Nat) : Option (List (Nat × Nat) × List Value) := match ty P t with
  | some i => (match i.desc with
    | .slice e => (match ty P e with
      | some j => (match j.zero, plc (fun k => some (k * j.size, j.size)) is with
        | some z, some l => (match cellsL z with | some cs => bif Nat.ble (n * j.size) 16777216 && Nat.beq cs.length j.size && Nat.blt 0 j.size && ground z then some (l, repL n cs []) else none | none => none)
        | _, _ => none)
      | none => none)
    | _ => none)
  | none => none
def ze1 (h : Hp) (nx n : Nat) (pl : Option (List (Nat × Nat) × List Value)) (us : Option (List Value)) : Out := match pl, us with
  | some (l, z), some us => (match z3v (l.zip us) z with | some cs => .new (.slice (some ⟨nx, 0, none⟩) n n) (hset h nx (.cells cs none)) (nx + 1) | none => .bad)
  | _, _ => .bad
theorem z93 (t : TypeId) (n : Nat) (ps : Array (Nat × Operand)) : rOp P nv ih (.buildSlice t n ps) vs h nx = ze1 h nx n (plS P t n (ps.toList.map Prod.fst)) (opVs nv vs (ps.toList.map Prod.snd)) := by
  unfold rOp
  show runO (z16 P nv t n ps) ih vs [] h nx = _
  obtain ⟨fs', hfs⟩ := z1a nv (ps.toList.map Prod.snd)
  unfold z16 plS
  cases ty P t with
  | none => rfl
  | some i =>
    simp only
    cases i.desc with
    | slice e =>
      simp only
      cases ty P e with
      | none => rfl
      | some j =>
        simp only
        rw [za0 _ _ _ hfs]
        cases j.zero with
        | none => cases plc (fun k => some (k * j.size, j.size)) (ps.toList.map Prod.fst) <;> rfl
        | some z =>
          cases hp : plc (fun k => some (k * j.size, j.size)) (ps.toList.map Prod.fst) with
          | none => simp only [hp]; rfl
          | some l =>
            simp only [hp]
            cases cellsL z with
            | none => rfl
            | some cs =>
              simp only
              cases (Nat.ble (n * j.size) 16777216 && Nat.beq cs.length j.size && Nat.blt 0 j.size && ground z) with
              | false => rfl
              | true =>
                show z2j (repL n cs []) n (l.zip fs') ih vs [] h nx = ze1 h nx n (some (l, repL n cs [])) (opVs nv vs (ps.toList.map Prod.snd))
                unfold z2j ze1
                rw [zmu l fs' (by rw [zgk hp, zmz hfs]; simp), z8j hfs]
                cases opVs nv vs (ps.toList.map Prod.snd) with
                | none => rfl
                | some us =>
                  simp only
                  cases z3v (l.zip us) (repL n cs []) with
                  | none => rfl
                  | some c => exact zab c n n
    | _ => rfl
theorem zie (cs : List Value) : z3v [] cs = some cs := rfl
theorem zfk (q : Nat × Nat) (v : Value) (l : List ((Nat × Nat) × Value)) (cs : List Value) : z3v ((q, v) :: l) cs = match cellsL v with
    | some u => bif Nat.beq u.length q.2 then (match z0y cs q.1 u with | some cs' => z3v l cs' | none => none) else none
    | none => none := rfl
theorem zbg (l : List (Nat × Nat)) (z us : List Value) : zis (some (l, z)) (some us) = outP (match z3v (l.zip us) z with | some cs => some (.agg cs.toArray) | none => none) := rfl
theorem z9e (n : Nat) (l : List (Nat × Nat)) (z us : List Value) : ze1 h nx n (some (l, z)) (some us) = match z3v (l.zip us) z with | some cs => .new (.slice (some ⟨nx, 0, none⟩) n n) (hset h nx (.cells cs none)) (nx + 1) | none => .bad := rfl
end Lm
end Go
namespace Go
namespace Lm
variable {P : Program}
theorem z6t (op : BinOp) (t : TypeId) (x y : Operand) (k k' : IntKind) (a b : Int) (ho : z6d op = false) (he : (op matches .eql | .neq) = false) : binV P op t x y (.int k a) (.int k' b) = gr (z0j P (binOp op t (.int k a) (.int k' b))) := by
  have e : eqGuard op t x y (.int k a) (.int k' b) = pure () := by
    unfold eqGuard
    cases op <;> first | rfl | cases he
  unfold binV
  simp only [ho, Bool.false_and, cond_false]
  unfold z4n
  rw [e]
  rfl
theorem zne (t : TypeId) (x y : Operand) (a b : Int) (hb : b ≠ 0) : binV P .quo t x y (.int .i64 a) (.int .i64 b) = some (.int .i64 (IntKind.wrap .i64 (a.tdiv b))) := by
  rw [z6t .quo t x y _ _ a b rfl rfl]
  show gr (z0j P (Op.intDiv .quo .i64 a b)) = _
  unfold Op.intDiv
  rw [if_neg hb]
  rfl
theorem zhe (t : TypeId) (x y : Operand) (a b : Int) (hb : b ≠ 0) : binV P .rem t x y (.int .i64 a) (.int .i64 b) = some (.int .i64 (a.tmod b)) := by
  rw [z6t .rem t x y _ _ a b rfl rfl]
  show gr (z0j P (Op.intDiv .rem .i64 a b)) = _
  unfold Op.intDiv
  rw [if_neg hb]
  rfl
theorem ztd (t : TypeId) (x y : Operand) (k' : IntKind) (a b : Int) (hb : 0 ≤ b) : binV P .shl t x y (.int .i64 a) (.int k' b) = some (.int .i64 (IntKind.wrap .i64 (a * 2 ^ (min b.toNat 64)))) := by
  rw [z6t .shl t x y _ _ a b rfl rfl]
  show gr (z0j P (Op.shift .shl .i64 a k' b)) = _
  unfold Op.shift
  rw [if_neg (by omega)]
  rfl
theorem ztc (t : TypeId) (x y : Operand) (k' : IntKind) (a b : Int) (hb : 0 ≤ b) : binV P .shr t x y (.int .i64 a) (.int k' b) = some (.int .i64 (a.fdiv (2 ^ (min b.toNat 64)))) := by
  rw [z6t .shr t x y _ _ a b rfl rfl]
  show gr (z0j P (Op.shift .shr .i64 a k' b)) = _
  unfold Op.shift
  rw [if_neg (by omega)]
  rfl
theorem zte (t : TypeId) (x y : Operand) (a b : Int) : binV P .and t x y (.int .i64 a) (.int .i64 b) = some (.int .i64 (IntKind.wrap .i64 ((BitVec.ofInt 64 a &&& BitVec.ofInt 64 b).toNat))) := by
  rw [z6t .and t x y _ _ a b rfl rfl]
  rfl
theorem zw6 (t : TypeId) (x y : Operand) (a b : Int) : binV P .or t x y (.int .i64 a) (.int .i64 b) = some (.int .i64 (IntKind.wrap .i64 ((BitVec.ofInt 64 a ||| BitVec.ofInt 64 b).toNat))) := by
  rw [z6t .or t x y _ _ a b rfl rfl]
  rfl
theorem zd2 (n : Nat) (h : n < 9223372036854775808) : IntKind.wrap .i64 (n : Int) = n := z21 _ (by omega) (by omega)
theorem z7w (n : Nat) (h : n < 9223372036854775808) : (BitVec.ofInt 64 (n : Int)).toNat = n := by
  simp [BitVec.toNat_ofInt]
  omega
theorem zrn (t : TypeId) (x y : Operand) (a b : Nat) (ha : a < 9223372036854775808) (hb : b < 9223372036854775808) : binV P .and t x y (.int .i64 a) (.int .i64 b) = some (.int .i64 ((a &&& b : Nat) : Int)) := by
  rw [zte, BitVec.toNat_and, z7w a ha, z7w b hb, zd2 _ (Nat.lt_of_le_of_lt Nat.and_le_left ha)]
theorem ztp (t : TypeId) (x y : Operand) (a b : Nat) (ha : a < 4611686018427387904) (hb : b < 4611686018427387904) : binV P .or t x y (.int .i64 a) (.int .i64 b) = some (.int .i64 ((a ||| b : Nat) : Int)) := by
  have h : a ||| b < 2 ^ 62 := Nat.or_lt_two_pow (by simpa using ha) (by simpa using hb)
  rw [zw6, BitVec.toNat_or, z7w a (by omega), z7w b (by omega), zd2 _ (by simp at h; omega)]
theorem zrl (t : TypeId) (x y : Operand) (k' : IntKind) (a b : Nat) (hb : b ≤ 64) : binV P .shr t x y (.int .i64 a) (.int k' b) = some (.int .i64 ((a >>> b : Nat) : Int)) := by
  rw [ztc t x y k' a b (by omega), Int.toNat_natCast, Nat.min_eq_left hb, Nat.shiftRight_eq_div_pow]
  congr 2
  rw [Int.fdiv_eq_ediv_of_nonneg _ (Int.le_of_lt (Int.pow_pos (by omega)))]
  simp
theorem zrm (t : TypeId) (x y : Operand) (k' : IntKind) (b : Nat) (hb : b ≤ 62) : binV P .shl t x y (.int .i64 1) (.int k' b) = some (.int .i64 ((2 ^ b : Nat) : Int)) := by
  rw [ztd t x y k' 1 b (by omega), Int.toNat_natCast, Nat.min_eq_left (by omega)]
  have h : (2 : Nat) ^ b ≤ 2 ^ 62 := Nat.pow_le_pow_right (by omega) hb
  have e : (1 : Int) * 2 ^ b = ((2 ^ b : Nat) : Int) := by simp
  rw [e, zd2 _ (by simp at h; omega)]
end Lm
end Go
namespace Go
namespace Lm
variable {P : Program} {nv n : Nat} {ih : Rec} {z : Z} {vs : Vs} {h : Hp} {nx : Nat}
def z1g (b : List Nat) (k : Nat) : Bool := Nat.beq (b.getD k 0) (2 ^ k - 1)
variable (P nv ih) in
def qOps (b : List Nat) : Nat → List SOp → Z → Vs → Hp → Nat → RO
  | _, [], z, vs, h, nx => .st z vs h nx
  | k, o :: l, z, vs, h, nx => (match sOne P nv ih o z vs h nx with
    | .st z' vs' h' nx' => (match (sRec P nv ih o vs h nx).M with
      | [] => qOps b (k + 1) l z' vs' h' nx'
      | _ => (match l with | [] => bif z1g b k then .st z' vs' h' nx' else .no | _ => .no))
    | .no => .no)
theorem zhf {b : List Nat} {rs : List Rec1} (hq : ∀ r, r ∈ rs → r.M = []) : z8b b rs = true := by
  unfold z8b
  rw [List.all_eq_true]
  rintro ⟨r, k⟩ hr
  have := hq r (List.fst_mem_of_mem_zipIdx hr)
  simp only [this]
theorem zjm {b : List Nat} {rs : List Rec1} {rc : Rec1} (hq : ∀ r, r ∈ rs → r.M = []) (hl : z1g b rs.length = true) : z8b b (rs ++ [rc]) = true := by
  unfold z8b
  rw [List.all_eq_true]
  rintro ⟨r, k⟩ hr
  by_cases hk : k < rs.length
  · have h1 := List.mem_zipIdx hr
    have : r ∈ rs := by
      have h2 := h1.2.2
      simp only [Nat.zero_add, Nat.sub_zero] at h2
      rw [h2, List.getElem_append_left hk]
      exact List.getElem_mem hk
    simp only [hq r this]
  · have hk2 : k = rs.length := by
      have h1 := List.mem_zipIdx hr
      have := h1.2.1
      simp at this
      omega
    subst hk2
    dsimp only
    split
    · rfl
    · rw [List.all_eq_true]
      rintro ⟨q, j⟩ hj
      have h1 := List.mem_zipIdx hj
      have hjl : j ≤ rs.length := by have := h1.2.1; simp at this; omega
      by_cases he : j = rs.length
      · subst he; simp
      · have hlt : j < rs.length := by omega
        have hb : b.getD rs.length 0 = 2 ^ rs.length - 1 := Nat.eq_of_beq_eq_true hl
        have ht : (b.getD (max j rs.length) 0).testBit (min j rs.length) = true := by
          rw [Nat.max_eq_right (by omega), Nat.min_eq_left (by omega), hb, Nat.testBit_two_pow_sub_one]
          simpa using hlt
        dsimp only
        rw [ht]
        simp
theorem zrp {b : List Nat} : ∀ (l : List SOp) (rs : List Rec1) (z : Z) (vs : Vs) (h : Hp) (nx : Nat), (∀ r, r ∈ rs → r.M = []) → ∀ {z' vs' h' nx'}, qOps P nv ih b rs.length l z vs h nx = .st z' vs' h' nx' → zdb P nv ih b l rs z vs h nx = .st z' vs' h' nx' := by
  intro l
  induction l with
  | nil =>
    intro rs z vs h nx hq z' vs' h' nx' e
    show (bif z8b b rs.reverse then RO.st z vs h nx else .no) = _
    rw [zhf (fun r hr => hq r (List.mem_reverse.1 hr))]
    exact e
  | cons o l ihl =>
    intro rs z vs h nx hq z' vs' h' nx' e
    rw [qOps] at e
    show (match sOne P nv ih o z vs h nx with
      | .st z' vs' h' nx' => zdb P nv ih b l (sRec P nv ih o vs h nx :: rs) z' vs' h' nx'
      | .no => RO.no) = _
    cases hs : sOne P nv ih o z vs h nx with
    | no => rw [hs] at e; exact e
    | st z1 vs1 h1 n1 =>
      rw [hs] at e
      simp only at e ⊢
      cases hM : (sRec P nv ih o vs h nx).M with
      | nil =>
        rw [hM] at e
        refine ihl (sRec P nv ih o vs h nx :: rs) z1 vs1 h1 n1 (fun r hr => ?_) e
        rcases List.mem_cons.1 hr with rfl | hr
        · exact hM
        · exact hq r hr
      | cons x M =>
        rw [hM] at e
        cases l with
        | cons _ _ => cases e
        | nil =>
          simp only at e
          cases hl : z1g b rs.length with
          | false => rw [hl] at e; cases e
          | true =>
            rw [hl] at e
            show (bif z8b b (sRec P nv ih o vs h nx :: rs).reverse then RO.st z1 vs1 h1 n1 else .no) = _
            rw [List.reverse_cons, zjm (fun r hr => hq r (List.mem_reverse.1 hr)) (by rw [List.length_reverse]; exact hl)]
            exact e
variable (P nv n ih) in
def zwf (l : List SOp) (b : List Nat) (z : Z) (vs : Vs) (h : Hp) (nx : Nat) : R := roR (zdb P nv ih b l [] z vs h nx)
def orQ (q : RO) (r : R) : R := match q with | .st z vs h nx => .nor z vs h nx | .no => r
theorem zpy (l : List SOp) (b : List Nat) : sC P nv n ih (.regD l b) z vs h nx = orQ (qOps P nv ih b 0 l z vs h nx) (zwf P nv ih l b z vs h nx) := by
  show roR (zdb P nv ih b l [] z vs h nx) = _
  cases hq : qOps P nv ih b 0 l z vs h nx with
  | no => rfl
  | st z' vs' h' nx' => rw [zrp l [] z vs h nx (fun r hr => by cases hr) hq]; rfl
theorem zu0 (r : R) : orQ (.st z vs h nx) r = .nor z vs h nx := rfl
theorem ztw (b : List Nat) (k : Nat) : qOps P nv ih b k [] z vs h nx = .st z vs h nx := rfl
variable (P nv ih) in
def zbx (b : List Nat) (k : Nat) (l : List SOp) (d : Option Nat) (z : Z) (vs : Vs) (h : Hp) (nx : Nat) (o : Out) : RO := match o with
  | .bad => .no
  | .pur v => qOps P nv ih b (k + 1) l z (put d v vs) h nx
  | .rd v _ => qOps P nv ih b (k + 1) l z (put d v vs) h nx
  | .new v h nx => qOps P nv ih b (k + 1) l z (put d v vs) h nx
  | .wr h r => (match l with | [] => bif z1g b k then .st (logZ z [r]) (put d undef vs) h nx else .no | _ => .no)
  | .gen v h nx [] => qOps P nv ih b (k + 1) l z (put d v vs) h nx
  | .gen v h nx (x :: M) => (match l with | [] => bif z1g b k then .st (logZ z (x :: M)) (put d v vs) h nx else .no | _ => .no)
theorem zgi (b : List Nat) (k : Nat) (d : Option Nat) (op : Op) (l : List SOp) : qOps P nv ih b k (⟨d, op, none⟩ :: l) z vs h nx = zbx P nv ih b k l d z vs h nx (rOp P nv ih op vs h nx) := by
  show (match rOut d z vs h nx (rOp P nv ih op vs h nx) with
    | .st z' vs' h' nx' => (match (zj0 (altO (dOp P nv op) vs [] h) h (rOp P nv ih op vs h nx)).M with
      | [] => qOps P nv ih b (k + 1) l z' vs' h' nx'
      | _ => (match l with | [] => bif z1g b k then .st z' vs' h' nx' else .no | _ => .no))
    | .no => RO.no) = _
  unfold zbx
  cases rOp P nv ih op vs h nx with
  | gen v h' n' M => cases M <;> rfl
  | _ => rfl
variable (P nv ih) in
def zao (b : List Nat) (k : Nat) (l : List SOp) (d : Option Nat) (op : Op) (y : Bool) (z : Z) (vs : Vs) (h : Hp) (nx : Nat) (v : Option Value) : RO := match v with
  | some (.bool x) => bif x == y then zbx P nv ih b k l d z vs h nx (rOp P nv ih op vs h nx) else qOps P nv ih b (k + 1) l z (put d undef vs) h nx
  | some _ => qOps P nv ih b (k + 1) l z (put d undef vs) h nx
  | none => .no
theorem zkp (b : List Nat) (k : Nat) (d : Option Nat) (op : Op) (t : Nat) (y : Bool) (l : List SOp) : qOps P nv ih b k (⟨d, op, some (t, y)⟩ :: l) z vs h nx = zao P nv ih b k l d op y z vs h nx (opV nv (.tmp t) vs) := by
  show (match sOne P nv ih ⟨d, op, some (t, y)⟩ z vs h nx with
    | .st z' vs' h' nx' => (match (sRec P nv ih ⟨d, op, some (t, y)⟩ vs h nx).M with
      | [] => qOps P nv ih b (k + 1) l z' vs' h' nx'
      | _ => (match l with | [] => bif z1g b k then .st z' vs' h' nx' else .no | _ => .no))
    | .no => RO.no) = _
  unfold zao sRec sOne
  simp only
  cases hv : opV nv (.tmp t) vs with
  | none => rfl
  | some v =>
    cases v with
    | bool x =>
      simp only
      cases hxy : x == y with
      | true =>
        simp only [cond_true]
        exact zgi b k d op l
      | false => rfl
    | _ => rfl
theorem zvw (b : List Nat) (k : Nat) (l : List SOp) (d : Option Nat) (op : Op) : zao P nv ih b k l d op true z vs h nx (some (.bool true)) = zbx P nv ih b k l d z vs h nx (rOp P nv ih op vs h nx) := rfl
theorem zvz (b : List Nat) (k : Nat) (l : List SOp) (d : Option Nat) (op : Op) : zao P nv ih b k l d op false z vs h nx (some (.bool false)) = zbx P nv ih b k l d z vs h nx (rOp P nv ih op vs h nx) := rfl
theorem zvx (b : List Nat) (k : Nat) (l : List SOp) (d : Option Nat) (op : Op) : zao P nv ih b k l d op true z vs h nx (some (.bool false)) = qOps P nv ih b (k + 1) l z (put d undef vs) h nx := rfl
theorem zvy (b : List Nat) (k : Nat) (l : List SOp) (d : Option Nat) (op : Op) : zao P nv ih b k l d op false z vs h nx (some (.bool true)) = qOps P nv ih b (k + 1) l z (put d undef vs) h nx := rfl
theorem zr2 (b : List Nat) (k : Nat) (l : List SOp) (d : Option Nat) (v : Value) : zbx P nv ih b k l d z vs h nx (.pur v) = qOps P nv ih b (k + 1) l z (put d v vs) h nx := rfl
theorem zw3 (b : List Nat) (k : Nat) (l : List SOp) (d : Option Nat) (v : Value) (r : Nat) : zbx P nv ih b k l d z vs h nx (.rd v r) = qOps P nv ih b (k + 1) l z (put d v vs) h nx := rfl
theorem zr3 (b : List Nat) (k : Nat) (l : List SOp) (d : Option Nat) (v : Value) (h' : Hp) (n' : Nat) : zbx P nv ih b k l d z vs h nx (.new v h' n') = qOps P nv ih b (k + 1) l z (put d v vs) h' n' := rfl
theorem zr4 (b : List Nat) (k : Nat) (l : List SOp) (d : Option Nat) (v : Value) (h' : Hp) (n' : Nat) : zbx P nv ih b k l d z vs h nx (.gen v h' n' []) = qOps P nv ih b (k + 1) l z (put d v vs) h' n' := rfl
theorem zw2 (b : List Nat) (k : Nat) (d : Option Nat) (h' : Hp) (r : Nat) : zbx P nv ih b k [] d z vs h nx (.wr h' r) = bif z1g b k then .st (logZ z [r]) (put d undef vs) h' nx else .no := rfl
end Lm
end Go
namespace Go
namespace Lm
variable {P : Program} {nvs : List (Nat × Nat)}
def oldV (nx : Nat) (v : Value) : Prop := match v with
  | .slice (some ⟨r, _, none⟩) _ _ => r < nx
  | v => ground v = true
theorem zoy {h1 : Hp} {nx : Nat} {v : Value} (hv : oldV nx v) (s : CS) : cmp1 h1 nx v s = some (v, s) := by
  unfold oldV at hv
  unfold cmp1
  split at hv
  · rename_i r o n c
    simp only [z0c, hv, decide_true, cond_true]
  · rename_i hne
    split
    · rename_i r o n c
      exact absurd rfl (hne r o n c)
    · rw [hv]; rfl
theorem zou {h1 : Hp} {nx : Nat} : ∀ {l : List Value}, (∀ v, v ∈ l → oldV nx v) → ∀ (s : CS), cmpL (cmp1 h1 nx) l s = some (l, s) := by
  intro l
  induction l with
  | nil => intro _ s; rfl
  | cons v l ih =>
    intro hl s
    unfold cmpL
    rw [zoy (hl v List.mem_cons_self)]
    simp only
    rw [ih fun x hx => hl x (List.mem_cons_of_mem _ hx)]
theorem zow {h1 : Hp} {nx : Nat} {l : List Value} (hl : ∀ v, v ∈ l → oldV nx v) (s : CS) : cmp3 h1 nx (.agg l.toArray) s = some (.agg l.toArray, s) := by
  show (match cmpL (cmp1 h1 nx) l.toArray.toList s with | some (l, s) => some (Value.agg l.toArray, s) | none => none) = _
  rw [List.toList_toArray, zou hl]
theorem zjj {f : FuncId} {us : List Value} {ih : Rec} {h : Hp} {nx : Nat} {v : Value} {h1 : Hp} {n1 : Nat} (hc : cmp3 h1 nx v ⟨h, nx, []⟩ = some (v, ⟨h, nx, []⟩)) (hv : ih (.call f us) h nx = .val v h1 n1 []) : z06 f us ih h nx = .gen v h nx [] := by
  unfold z06
  rw [hv]
  show (Bool.rec (match cmp3 h1 nx v ⟨h, nx, []⟩ with | some (u, s) => Out.gen u s.h s.nx [] | none => Out.gen v h1 n1 []) (Out.gen v h nx []) (ground v) : Out) = _
  rw [hc]
  cases ground v <;> rfl
theorem zg4 {f : FuncId} {us : List Value} {ih : Rec} {h : Hp} {nx : Nat} {v u : Value} {h1 : Hp} {n1 : Nat} {s : CS} (hg : ground v = false) (hc : cmp3 h1 nx v ⟨h, nx, []⟩ = some (u, s)) (hv : ih (.call f us) h nx = .val v h1 n1 []) : z06 f us ih h nx = .gen u s.h s.nx [] := by
  unfold z06
  rw [hv]
  show (Bool.rec (match cmp3 h1 nx v ⟨h, nx, []⟩ with | some (u, s) => Out.gen u s.h s.nx [] | none => Out.gen v h1 n1 []) (Out.gen v h nx []) (ground v) : Out) = _
  rw [hg, hc]
theorem zcx {h1 h : Hp} {nx r o n c : Nat} {cs : List Value} {b : Option Nat} (hr : nx ≤ r) (hc : hget h1 r = some (.cells cs b)) (hf : z0m flat cs = true) :
    cmp3 h1 nx (.slice (some ⟨r, o, none⟩) n c) ⟨h, nx, []⟩ = some (.slice (some ⟨nx, o, none⟩) n c, ⟨hset h nx (.cells cs b), nx + 1, [r]⟩) := by
  show cmp1 h1 nx (.slice (some ⟨r, o, none⟩) n c) ⟨h, nx, []⟩ = _
  unfold cmp1
  have h1' : Nat.blt r nx = false := by rw [z0c]; simp; omega
  simp only [h1', cond_false]
  show (bif z1v r [] then _ else none) = _
  have h2 : z1v r [] = true := rfl
  rw [h2]
  simp only [cond_true, hc, hf]
theorem Fun.same {f : FuncId} {n : Nat} {rs : List ResultVar} {s : SC} (F : Fun P nvs f n rs s) {S : Kn} {m : Nat} {us : List Value} {h : Hp} {nx : Nat} {v : Value} (hn : S f us h nx = none) (hm : 1 ≤ m) (hg : ∀ h1, cmp3 h1 nx v ⟨h, nx, []⟩ = some (v, ⟨h, nx, []⟩)) (ha : us.length ≤ n)
    (hx : ∃ h1 n1, z9i P n rs (sC P n n (z07 P nvs S (m - 1)) s ⟨nx, none, [], []⟩ (enum us 0) h nx) = .val v h1 n1 []) : z06 f us (z07 P nvs S m) h nx = .gen v h nx [] := by
  obtain ⟨k, rfl⟩ : ∃ k, m = k + 1 := ⟨m - 1, by omega⟩
  obtain ⟨h1, n1, hx⟩ := hx
  rw [Nat.add_sub_cancel] at hx
  exact zjj (hg h1) ((z4x hn).trans ((F.run _ us h nx ha).trans hx))
theorem Fun.fresh {f : FuncId} {n : Nat} {rs : List ResultVar} {s : SC} (F : Fun P nvs f n rs s) {S : Kn} {m : Nat} {us : List Value} {h : Hp} {nx k c : Nat} {cs : List Value} {b : Option Nat} (hn : S f us h nx = none) (hm : 1 ≤ m) (ha : us.length ≤ n) (hf : z0m flat cs = true)
    (hx : ∃ h1 n1 r, nx ≤ r ∧ hget h1 r = some (.cells cs b) ∧ z9i P n rs (sC P n n (z07 P nvs S (m - 1)) s ⟨nx, none, [], []⟩ (enum us 0) h nx) = .val (.slice (some ⟨r, 0, none⟩) k c) h1 n1 []) :
    z06 f us (z07 P nvs S m) h nx = .gen (.slice (some ⟨nx, 0, none⟩) k c) (hset h nx (.cells cs b)) (nx + 1) [] := by
  obtain ⟨q, rfl⟩ : ∃ k, m = k + 1 := ⟨m - 1, by omega⟩
  obtain ⟨h1, n1, r, hr, hg, hx⟩ := hx
  rw [Nat.add_sub_cancel] at hx
  exact zg4 rfl (zcx hr hg hf) ((z4x hn).trans ((F.run _ us h nx ha).trans hx))
variable {nv : Nat} {ih : Rec} {vs : Vs} {h : Hp} {nx : Nat}
def zrg (P : Program) (t : TypeId) : Option (List Value) := match ty P t with
  | some i => (match i.desc with
    | .slice e => (match ty P e with
      | some j => (match j.zero with
        | some z => (match cellsL z with | some cs => bif Nat.ble j.bytes 65536 && Nat.beq cs.length j.size && Nat.blt 0 j.size && ground z then some cs else none | none => none)
        | none => none)
      | none => none)
    | _ => none)
  | none => none
def zlv (h : Hp) (nx : Nat) (z : Option (List Value)) (x y : Option Value) : Out := match z, x, y with
  | some z, some x, some y => (match z77 x, z77 y with
    | some n, some k => bif Nat.ble n k && Nat.ble k 65536 then .new (.slice (some ⟨nx, 0, none⟩) n k) (hset h nx (.cells (repL k z []) none)) (nx + 1) else .bad
    | _, _ => .bad)
  | _, _, _ => .bad
theorem za7 (t : TypeId) (x y : Operand) : rOp P nv ih (.makeSlice t x y) vs h nx = zlv h nx (zrg P t) (opV nv x vs) (opV nv y vs) := by
  unfold rOp
  show runO (z1d P nv t x y) ih vs [] h nx = _
  unfold z1d zrg ge2 opV
  cases ty P t with
  | none => rfl
  | some i =>
    simp only
    cases i.desc with
    | slice e =>
      simp only
      cases ty P e with
      | none => rfl
      | some j =>
        simp only
        cases j.zero with
        | none => rfl
        | some z =>
          simp only
          cases cellsL z with
          | none => rfl
          | some cs =>
            simp only
            cases (Nat.ble j.bytes 65536 && Nat.beq cs.length j.size && Nat.blt 0 j.size && ground z) with
            | false => rfl
            | true =>
              simp only [cond_true]
              cases dX nv x with
              | mk f => cases dX nv y with
                | mk g =>
                  show z39 cs f g ih vs [] h nx = zlv h nx (some cs) (f vs []) (g vs [])
                  unfold z39 zlv
                  cases f vs [] with
                  | none => rfl
                  | some u =>
                    cases g vs [] with
                    | none => rfl
                    | some v =>
                      simp only
                      cases z77 u with
                      | none => rfl
                      | some a =>
                        cases z77 v with
                        | none => rfl
                        | some c =>
                          simp only
                          cases (Nat.ble a c && Nat.ble c 65536) with
                          | false => rfl
                          | true => simp only [cond_true, z0h]; exact zab _ a c
    | _ => rfl
end Lm
end Go
