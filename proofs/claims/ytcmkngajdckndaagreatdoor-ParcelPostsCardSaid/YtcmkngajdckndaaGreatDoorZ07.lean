/- The program's functions as the machine runs them, and closed facts of its types; What the functions of package parcel answer, for any book, and why the law's comparison holds; how a book of a world reads; Rules by which a run of that machine is computed. Conditions: none. -/
import Derived.Test.YtcmkngajdckndaaGreatDoorZ05
import Derived.Test.YtcmkngajdckndaaGreatDoorZ06
set_option linter.unusedVariables false
set_option linter.unusedSimpArgs false
namespace Go.Proofs.YtcmkngajdckndaaGreatDoor
open Go Go.Proofs Go.Lm
theorem zc6 : plS Tryz.prog 24 1 [0] = some ([(0, 1)], [.int .i64 0]) := by kernel_rfl
theorem zhv : plB Tryz.prog 77 [0] = some ([(0, 7)], [.slice none 0 0, .slice none 0 0, .int .i64 0, .int .i64 0, .int .i64 0, .int .i64 0, .slice none 0 0]) := by kernel_rfl
theorem zc9 : plB Tryz.prog 79 [0, 1] = some ([(0, 7), (7, 2)], [.slice none 0 0, .slice none 0 0, .int .i64 0, .int .i64 0, .int .i64 0, .int .i64 0, .slice none 0 0, .int .i64 0, .slice none 0 0]) := by kernel_rfl
theorem za1 : plS Tryz.prog 122 1 [0] = some ([(0, 1)], [.nilFunc]) := by kernel_rfl
theorem z7s : plS Tryz.prog 122 2 [0, 1] = some ([(0, 1), (1, 1)], [.nilFunc, .nilFunc]) := by kernel_rfl
theorem zca : plB Tryz.prog 28 [0, 1] = some ([(0, 1), (1, 1)], [.int .i64 0, .slice none 0 0]) := by kernel_rfl
theorem zky : plB Tryz.prog 84 [] = some ([], [.int .i64 0, .int .i64 0]) := by kernel_rfl
theorem z7t : plB Tryz.prog 132 [0, 1, 2] = some ([(0, 14), (14, 4), (18, 1)], [.slice none 0 0, .slice none 0 0, .int .i64 0, .int .i64 0, .int .i64 0, .int .i64 0, .slice none 0 0, .bool false, .bool false, .bool false, .bool false, .bool false, .bool false, .bool false, .int .i64 0, .int .i64 0, .slice none 0 0, .int .i64 0, .int .i64 0]) := by kernel_rfl
theorem za2 : plB Tryz.prog 126 [0, 1] = some ([(0, 7), (7, 7)], [.slice none 0 0, .slice none 0 0, .int .i64 0, .int .i64 0, .int .i64 0, .int .i64 0, .slice none 0 0, .bool false, .bool false, .bool false, .bool false, .bool false, .bool false, .bool false]) := by kernel_rfl
theorem zhw : plB Tryz.prog 124 [] = some ([], [.bool false, .bool false, .bool false, .bool false, .bool false, .bool false, .bool false]) := by kernel_rfl
theorem zc8 : plB Tryz.prog 84 [0, 1] = some ([(0, 1), (1, 1)], [.int .i64 0, .int .i64 0]) := by kernel_rfl
theorem z5v : plS Tryz.prog 136 3 [0, 1, 2] = some ([(0, 1), (1, 1), (2, 1)], [.nilFunc, .nilFunc, .nilFunc]) := by kernel_rfl
theorem za3 : plB Tryz.prog 104 [0, 1] = some ([(0, 1), (1, 1)], [.int .i64 0, .int .i64 0]) := by kernel_rfl
theorem zc7 : plS Tryz.prog 22 1 [0] = some ([(0, 4)], [.int .i64 0, .int .i64 0, .int .i64 0, .bool false]) := by kernel_rfl
theorem lok5 : z1g [0, 0, 0, 6, 14, 30, 62, 126, 255, 511] 9 = true := rfl
theorem lok6 : z1g [0, 0, 0, 6, 15, 31] 5 = true := rfl
theorem lok8 : z1g [0, 0, 2, 0, 0, 16, 56, 0, 128, 504, 1022, 2047, 4095] 12 = true := rfl
theorem zsi : z1g [0, 0, 2, 0, 0, 24, 56, 126, 254, 510, 1023, 2047] 11 = true := rfl
theorem zsh : z1g [0, 0, 2, 0, 8, 0, 56, 120, 254, 510, 1022, 2047, 4095] 12 = true := rfl
theorem zsg : z1g [0, 0, 2, 7, 0, 0, 32, 112, 15, 511] 9 = true := rfl
theorem zuv : z1g [0, 0, 2, 7, 0, 16, 48, 0, 128, 496, 1008, 0, 4095, 0, 16383] 14 = true := rfl
theorem zuu : z1g [0, 0, 2, 7, 0, 16, 48, 0, 128, 496, 1008, 2047, 4095] 12 = true := rfl
theorem zut : z1g [0, 0, 2, 7, 15] 4 = true := rfl
theorem zsf : z1g [0, 0, 3, 7, 0, 0, 48, 112, 255, 511] 9 = true := rfl
theorem zse : z1g [0, 0, 3, 7, 15, 15, 63, 127, 255, 511, 1023, 511, 4095, 8191, 16383] 14 = true := rfl
theorem zsd : z1g [0, 1, 0, 4, 0, 28, 60, 127, 255, 0, 1023] 10 = true := rfl
theorem zus : z1g [0, 1, 0, 4, 0, 31, 63, 127] 7 = true := rfl
theorem zur : z1g [0, 1, 0, 4, 12, 31, 63] 6 = true := rfl
theorem zuq : z1g [0, 1, 0, 4, 15, 31] 5 = true := rfl
theorem zup : z1g [0, 1, 0, 4, 15, 31, 63] 6 = true := rfl
theorem zob : z1g [0, 1, 0, 4, 15, 31, 63, 0, 255, 511, 0, 1024, 0, 4096, 15360, 31744, 64512, 0, 0, 262144, 917504, 1966080, 4193280, 8388607, 16777215] 24 = true := rfl
theorem zuo : z1g [0, 1, 0, 4, 15, 31, 63, 127, 63, 319, 1023, 2047, 4095, 8191, 16383, 32767, 65535] 16 = true := rfl
theorem zun : z1g [0, 1, 0, 4, 15, 31, 63, 127, 63, 319, 1023, 2047, 4095, 8191, 8191, 24575, 65535, 131071, 262143, 524287, 1048575, 524287, 2621439, 8388607, 16777215, 33554431] 25 = true := rfl
theorem zum : z1g [0, 1, 3, 0, 0, 16, 48, 120, 248, 511, 1023] 10 = true := rfl
theorem zul : z1g [0, 1, 3, 0, 8, 24, 0, 64, 192, 448, 960, 2040, 4088, 8191, 16383] 14 = true := rfl
theorem zuk : z1g [0, 1, 3, 7, 15, 0, 32, 127, 255, 511, 1023, 1023, 3071, 8191, 1023, 32767, 65535] 16 = true := rfl
theorem zuj : z1g [0, 1, 3, 7, 15, 0, 32, 96, 0, 256, 768, 1792, 3840, 8160, 16352, 32736, 0, 65536, 196608, 458752, 983040, 2097120, 4194303, 8388607] 23 = true := rfl
theorem zhl : zrg Tryz.prog 22 = some [.int .i64 0, .int .i64 0, .int .i64 0, .bool false] := by kernel_rfl
theorem znp : appF Tryz.prog 22 22 = some 4 := by kernel_rfl
set_option maxRecDepth 10000
set_option maxHeartbeats 4000000
def limL : List Value := [vi 1, vi 7, vi 1, vi 500, vi 1, vi 5000, vi 0, vi 10000, vi 1, vi 4, vi 0, vi 4, vi 1, vi 1000, vi 0, vi 1000, vi 1, vi 10000, vi 1, vi 5, vi 0, vi 20000]
theorem pA2 (x0 x1 : Value) (l : List Value) : z09 true 2 (x0 :: x1 :: l) 0 = some (.agg #[x0, x1]) := rfl
theorem pA4 (x0 x1 x2 x3 : Value) (l : List Value) : z09 true 4 (x0 :: x1 :: x2 :: x3 :: l) 0 = some (.agg #[x0, x1, x2, x3]) := rfl
theorem pA7 (x0 x1 x2 x3 x4 x5 x6 : Value) (l : List Value) : z09 true 7 (x0 :: x1 :: x2 :: x3 :: x4 :: x5 :: x6 :: l) 0 = some (.agg #[x0, x1, x2, x3, x4, x5, x6]) := rfl
theorem pA14 (x0 x1 x2 x3 x4 x5 x6 x7 x8 x9 x10 x11 x12 x13 : Value) (l : List Value) : z09 true 14 (x0 :: x1 :: x2 :: x3 :: x4 :: x5 :: x6 :: x7 :: x8 :: x9 :: x10 :: x11 :: x12 :: x13 :: l) 0 = some (.agg #[x0, x1, x2, x3, x4, x5, x6, x7, x8, x9, x10, x11, x12, x13]) := rfl
theorem pAs (agg : Bool) (size : Nat) (x : Value) (l : List Value) (o : Nat) : z09 agg size (x :: l) (o + 1) = z09 agg size l o := rfl
theorem zi6 (n0 : Nat) (rd : Option Nat) (D log : List Nat) (r : Nat) (hr : n0 ≤ r) : logZ ⟨n0, rd, D, log⟩ [r] = ⟨n0, rd, D, log⟩ := z26 _ _ hr
theorem zv7 : z09 true 2 limL 0 = some (.agg #[vi 1, vi 7]) := rfl
theorem zv6 : z09 true 2 limL 2 = some (.agg #[vi 1, vi 500]) := rfl
theorem zv5 : z09 true 2 limL 4 = some (.agg #[vi 1, vi 5000]) := rfl
theorem zv4 : z09 true 2 limL 6 = some (.agg #[vi 0, vi 10000]) := rfl
theorem zv3 : z09 true 2 limL 8 = some (.agg #[vi 1, vi 4]) := rfl
theorem zv2 : z09 true 2 limL 10 = some (.agg #[vi 0, vi 4]) := rfl
theorem zv1 : z09 true 2 limL 12 = some (.agg #[vi 1, vi 1000]) := rfl
theorem zv0 : z09 true 2 limL 14 = some (.agg #[vi 0, vi 1000]) := rfl
theorem zuz : z09 true 2 limL 16 = some (.agg #[vi 1, vi 10000]) := rfl
theorem zuy : z09 true 2 limL 18 = some (.agg #[vi 1, vi 5]) := rfl
theorem zqd : z09 true 2 limL 20 = some (.agg #[vi 0, vi 20000]) := rfl
theorem g0V {nv : Nat} {vs : Vs} : opV nv (.global 0) vs = some (.pointer (some ⟨0, 0, none⟩)) := zj4 0 (by decide)
theorem zn8 (k : IntKind) (n : Int) : cellsL (.int k n) = some [.int k n] := rfl
theorem zir (t : Bool) : cellsL (.bool t) = some [.bool t] := rfl
theorem zr6 (a : Option Addr) (n c : Nat) : cellsL (.slice a n c) = some [.slice a n c] := rfl
theorem zn6 (p : Option Addr) : cellsL (.pointer p) = some [.pointer p] := rfl
theorem zn5 (s : ByteArray) : cellsL (.string s) = some [.string s] := rfl
theorem zn7 (r : Option Nat) : cellsL (.map r) = some [.map r] := rfl
theorem zr8 (f : Fn) (xs ys : Array Value) : cellsL (.func f xs ys) = some [.func f xs ys] := rfl
theorem zr7 : cellsL .nilFunc = some [.nilFunc] := rfl
theorem zcz (a b c : Nat) : a + b = a + c ↔ b = c := Nat.add_left_cancel_iff
theorem bq : type_of% (And.intro (And.intro (And.intro (And.intro (And.intro (And.intro (And.intro @zfo @zig) (And.intro @ztq (And.intro @zts @zpy))) (And.intro (And.intro @zu0 (And.intro @ztw @zgi)) (And.intro @zkp (And.intro @zvw @zvz)))) (And.intro (And.intro (And.intro @zvx (And.intro @zvy @zr2)) (And.intro @zw3 (And.intro @zr3 @zr4))) (And.intro (And.intro @zw2 (And.intro @zpx @ztr)) (And.intro @zpz (And.intro @zq5 @ztz))))) (And.intro (And.intro (And.intro (And.intro @zei (And.intro @zej @zl3)) (And.intro @zq7 (And.intro @zl4 @zq6))) (And.intro (And.intro @zl5 (And.intro @zlz @z26)) (And.intro @ztu (And.intro @zqa @zi1)))) (And.intro (And.intro (And.intro @zq9 (And.intro @zhx @zlh)) (And.intro @zu6 (And.intro @zqb @zhs))) (And.intro (And.intro @zle (And.intro @zu7 @o_un)) (And.intro @zf6 (And.intro @za9 @zlf)))))) (And.intro (And.intro (And.intro (And.intro (And.intro @za8 (And.intro @zqc @zu3)) (And.intro @zcr (And.intro @zu2 @zlc))) (And.intro (And.intro @zi0 (And.intro @zla @zlb)) (And.intro @zhy (And.intro @zld @zhz)))) (And.intro (And.intro (And.intro @zeh (And.intro @zhu @zdf)) (And.intro @z1c (And.intro @z0l @z01))) (And.intro (And.intro @z0a (And.intro @z7l @z57)) (And.intro @z6p (And.intro @z7m @z8a))))) (And.intro (And.intro (And.intro (And.intro @zu5 (And.intro @z3k @z4t)) (And.intro @znn (And.intro @znd @znh))) (And.intro (And.intro @znm (And.intro @zng @zni)) (And.intro @znj (And.intro @znk @znl)))) (And.intro (And.intro (And.intro @z21 (And.intro @zjq @z8m)) (And.intro @zmn (And.intro @Int.toNat_natCast @zho))) (And.intro (And.intro @zkg (And.intro @zkf @zeb)) (And.intro Nat.zero_add (And.intro Nat.add_zero @Bool.not_true))))))) (And.intro (And.intro (And.intro (And.intro (And.intro (And.intro @Bool.not_false (And.intro @decide_true @decide_false)) (And.intro @Bool.and_true (And.intro @Bool.true_and @Bool.and_false))) (And.intro (And.intro @Bool.false_and (And.intro zcz @zvb)) (And.intro @zva (And.intro @zvc @zq0)))) (And.intro (And.intro (And.intro @zra (And.intro @zn9 @zkj)) (And.intro @zrc (And.intro @zrb @zrd))) (And.intro (And.intro @zv9 (And.intro @g_tt @g_ff)) (And.intro @g_tf (And.intro @g_ft @zin))))) (And.intro (And.intro (And.intro (And.intro @zio (And.intro @zlg @z93)) (And.intro @zbg (And.intro @z9e @zie))) (And.intro (And.intro @zv7 (And.intro @zv6 @zv5)) (And.intro @zv4 (And.intro @zv3 @zv2)))) (And.intro (And.intro (And.intro @zv1 (And.intro @zv0 @zuz)) (And.intro @zuy (And.intro @zqd @g0V))) (And.intro (And.intro @zi6 (And.intro @zne @zhe)) (And.intro @pA2 (And.intro @pA4 @pA7)))))) (And.intro (And.intro (And.intro (And.intro (And.intro @pA14 (And.intro @pAs @za7)) (And.intro @zi2 (And.intro @z9l @boxO.eq_1))) (And.intro (And.intro @boxO.eq_2 (And.intro @cellsL.eq_1 @zn8)) (And.intro @zir (And.intro @zr6 @zn6)))) (And.intro (And.intro (And.intro @zn5 (And.intro @zn7 @zr7)) (And.intro @zr8 (And.intro @loadO.eq_1 @addrO.eq_1))) (And.intro (And.intro @opVs.eq_1 (And.intro @opVs.eq_2 @loadAt.eq_1)) (And.intro @lenO.eq_1 (And.intro @lenO.eq_3 @lenO.eq_7))))) (And.intro (And.intro (And.intro (And.intro @lenO.eq_8 (And.intro @resVs.eq_1 @resVs.eq_2)) (And.intro @resO.eq_1 (And.intro @resO.eq_2 @if_true.{1}))) (And.intro (And.intro @if_false.{1} (And.intro @cond_true.{1} @cond_false.{1})) (And.intro @beq_self_eq_true.{0} (And.intro @List.getElem?_cons_zero.{0} @List.getElem?_cons_succ.{0})))) (And.intro (And.intro (And.intro @List.drop_zero.{0} (And.intro @List.drop_succ_cons.{0} @List.take_succ_cons.{0})) (And.intro @List.take_zero.{0} (And.intro @List.length_cons.{0} @List.length_nil.{0}))) (And.intro (And.intro @List.toList_toArray.{0} (And.intro @List.getElem?_toArray.{0} @List.zip_cons_cons.{0, 0})) (And.intro @List.zip_nil_left.{0, 0} (And.intro @List.map_cons.{0, 0} @List.map_nil.{0, 0})))))))) := (And.intro (And.intro (And.intro (And.intro (And.intro (And.intro (And.intro @zfo @zig) (And.intro @ztq (And.intro @zts @zpy))) (And.intro (And.intro @zu0 (And.intro @ztw @zgi)) (And.intro @zkp (And.intro @zvw @zvz)))) (And.intro (And.intro (And.intro @zvx (And.intro @zvy @zr2)) (And.intro @zw3 (And.intro @zr3 @zr4))) (And.intro (And.intro @zw2 (And.intro @zpx @ztr)) (And.intro @zpz (And.intro @zq5 @ztz))))) (And.intro (And.intro (And.intro (And.intro @zei (And.intro @zej @zl3)) (And.intro @zq7 (And.intro @zl4 @zq6))) (And.intro (And.intro @zl5 (And.intro @zlz @z26)) (And.intro @ztu (And.intro @zqa @zi1)))) (And.intro (And.intro (And.intro @zq9 (And.intro @zhx @zlh)) (And.intro @zu6 (And.intro @zqb @zhs))) (And.intro (And.intro @zle (And.intro @zu7 @o_un)) (And.intro @zf6 (And.intro @za9 @zlf)))))) (And.intro (And.intro (And.intro (And.intro (And.intro @za8 (And.intro @zqc @zu3)) (And.intro @zcr (And.intro @zu2 @zlc))) (And.intro (And.intro @zi0 (And.intro @zla @zlb)) (And.intro @zhy (And.intro @zld @zhz)))) (And.intro (And.intro (And.intro @zeh (And.intro @zhu @zdf)) (And.intro @z1c (And.intro @z0l @z01))) (And.intro (And.intro @z0a (And.intro @z7l @z57)) (And.intro @z6p (And.intro @z7m @z8a))))) (And.intro (And.intro (And.intro (And.intro @zu5 (And.intro @z3k @z4t)) (And.intro @znn (And.intro @znd @znh))) (And.intro (And.intro @znm (And.intro @zng @zni)) (And.intro @znj (And.intro @znk @znl)))) (And.intro (And.intro (And.intro @z21 (And.intro @zjq @z8m)) (And.intro @zmn (And.intro @Int.toNat_natCast @zho))) (And.intro (And.intro @zkg (And.intro @zkf @zeb)) (And.intro Nat.zero_add (And.intro Nat.add_zero @Bool.not_true))))))) (And.intro (And.intro (And.intro (And.intro (And.intro (And.intro @Bool.not_false (And.intro @decide_true @decide_false)) (And.intro @Bool.and_true (And.intro @Bool.true_and @Bool.and_false))) (And.intro (And.intro @Bool.false_and (And.intro zcz @zvb)) (And.intro @zva (And.intro @zvc @zq0)))) (And.intro (And.intro (And.intro @zra (And.intro @zn9 @zkj)) (And.intro @zrc (And.intro @zrb @zrd))) (And.intro (And.intro @zv9 (And.intro @g_tt @g_ff)) (And.intro @g_tf (And.intro @g_ft @zin))))) (And.intro (And.intro (And.intro (And.intro @zio (And.intro @zlg @z93)) (And.intro @zbg (And.intro @z9e @zie))) (And.intro (And.intro @zv7 (And.intro @zv6 @zv5)) (And.intro @zv4 (And.intro @zv3 @zv2)))) (And.intro (And.intro (And.intro @zv1 (And.intro @zv0 @zuz)) (And.intro @zuy (And.intro @zqd @g0V))) (And.intro (And.intro @zi6 (And.intro @zne @zhe)) (And.intro @pA2 (And.intro @pA4 @pA7)))))) (And.intro (And.intro (And.intro (And.intro (And.intro @pA14 (And.intro @pAs @za7)) (And.intro @zi2 (And.intro @z9l @boxO.eq_1))) (And.intro (And.intro @boxO.eq_2 (And.intro @cellsL.eq_1 @zn8)) (And.intro @zir (And.intro @zr6 @zn6)))) (And.intro (And.intro (And.intro @zn5 (And.intro @zn7 @zr7)) (And.intro @zr8 (And.intro @loadO.eq_1 @addrO.eq_1))) (And.intro (And.intro @opVs.eq_1 (And.intro @opVs.eq_2 @loadAt.eq_1)) (And.intro @lenO.eq_1 (And.intro @lenO.eq_3 @lenO.eq_7))))) (And.intro (And.intro (And.intro (And.intro @lenO.eq_8 (And.intro @resVs.eq_1 @resVs.eq_2)) (And.intro @resO.eq_1 (And.intro @resO.eq_2 @if_true.{1}))) (And.intro (And.intro @if_false.{1} (And.intro @cond_true.{1} @cond_false.{1})) (And.intro @beq_self_eq_true.{0} (And.intro @List.getElem?_cons_zero.{0} @List.getElem?_cons_succ.{0})))) (And.intro (And.intro (And.intro @List.drop_zero.{0} (And.intro @List.drop_succ_cons.{0} @List.take_succ_cons.{0})) (And.intro @List.take_zero.{0} (And.intro @List.length_cons.{0} @List.length_nil.{0}))) (And.intro (And.intro @List.toList_toArray.{0} (And.intro @List.getElem?_toArray.{0} @List.zip_cons_cons.{0, 0})) (And.intro @List.zip_nil_left.{0, 0} (And.intro @List.map_cons.{0, 0} @List.map_nil.{0, 0}))))))))
theorem bf : type_of% (And.intro (And.intro (And.intro (And.intro (And.intro (And.intro (And.intro zfw (And.intro zfv zfu)) (And.intro zft (And.intro zfs zfr))) (And.intro (And.intro zfq (And.intro zfp zim)) (And.intro zil (And.intro zik zij)))) (And.intro (And.intro (And.intro zii (And.intro zih z9c)) (And.intro z9b (And.intro zqy zqx))) (And.intro (And.intro zqw (And.intro zqv zqu)) (And.intro (And.intro zqt zqs) (And.intro zqr zqq))))) (And.intro (And.intro (And.intro (And.intro zqp (And.intro zqo zqn)) (And.intro zvv (And.intro zqm zql))) (And.intro (And.intro zqk (And.intro zqj zqi)) (And.intro (And.intro zsy zqh) (And.intro zqg zqf)))) (And.intro (And.intro (And.intro zvu (And.intro zqe zfg)) (And.intro zvt (And.intro zsx zsw))) (And.intro (And.intro zsv (And.intro zsu zvs)) (And.intro (And.intro zst zss) (And.intro z5e zok)))))) (And.intro (And.intro (And.intro (And.intro (And.intro zvr (And.intro zvq zvp)) (And.intro zbw (And.intro zbv zmo))) (And.intro (And.intro zvo (And.intro zsr zvn)) (And.intro (And.intro zoj zsq) (And.intro zvm zvl)))) (And.intro (And.intro (And.intro zvk (And.intro zvj zvi)) (And.intro zvh (And.intro zvg zvf))) (And.intro (And.intro zve (And.intro zi9 zi8)) (And.intro (And.intro zi7 zm3) (And.intro zm2 zm1))))) (And.intro (And.intro (And.intro (And.intro zm0 (And.intro zcq zcp)) (And.intro zco (And.intro zcn zcm))) (And.intro (And.intro zcl (And.intro zck zcj)) (And.intro (And.intro zci zch) (And.intro zcg zcf)))) (And.intro (And.intro (And.intro zce (And.intro zcd zcc)) (And.intro zf5 (And.intro zf4 zf3))) (And.intro (And.intro zf2 (And.intro zf1 zf0)) (And.intro (And.intro zez zey) (And.intro zex zew))))))) (And.intro (And.intro (And.intro (And.intro (And.intro (And.intro zev (And.intro zeu zet)) (And.intro zes (And.intro zer zeq))) (And.intro (And.intro zep (And.intro zeo zen)) (And.intro zem (And.intro zel zek)))) (And.intro (And.intro (And.intro zke (And.intro zkd zkc)) (And.intro zkb (And.intro zka zk9))) (And.intro (And.intro zk8 (And.intro zk7 zk6)) (And.intro (And.intro zk5 zk4) (And.intro zk3 zk2))))) (And.intro (And.intro (And.intro (And.intro zpv (And.intro zpu zpt)) (And.intro zps (And.intro zpr ztj))) (And.intro (And.intro zpq (And.intro zpp zti)) (And.intro (And.intro zpo zpn) (And.intro zpm zpl)))) (And.intro (And.intro (And.intro zpk (And.intro zpj zpi)) (And.intro zph (And.intro zpg zk1))) (And.intro (And.intro zk0 (And.intro zjz zjy)) (And.intro (And.intro zjx zjw) (And.intro zjv zju)))))) (And.intro (And.intro (And.intro (And.intro (And.intro zjt (And.intro zjs zjr)) (And.intro zpf (And.intro zpe zpd))) (And.intro (And.intro zth (And.intro zpc zpb)) (And.intro (And.intro zpa zp9) (And.intro zp8 zp7)))) (And.intro (And.intro (And.intro zc6 (And.intro zhv zc9)) (And.intro za1 (And.intro z7s zca))) (And.intro (And.intro zky (And.intro z7t za2)) (And.intro (And.intro zhw zc8) (And.intro z5v za3))))) (And.intro (And.intro (And.intro (And.intro zc7 (And.intro lok5 lok6)) (And.intro lok8 (And.intro zsi zsh))) (And.intro (And.intro zsg (And.intro zuv zuu)) (And.intro (And.intro zut zsf) (And.intro zse zsd)))) (And.intro (And.intro (And.intro zus (And.intro zur zuq)) (And.intro zup (And.intro zob zuo))) (And.intro (And.intro zun (And.intro zum zul)) (And.intro (And.intro zuk zuj) (And.intro zhl znp)))))))) := (And.intro (And.intro (And.intro (And.intro (And.intro (And.intro (And.intro zfw (And.intro zfv zfu)) (And.intro zft (And.intro zfs zfr))) (And.intro (And.intro zfq (And.intro zfp zim)) (And.intro zil (And.intro zik zij)))) (And.intro (And.intro (And.intro zii (And.intro zih z9c)) (And.intro z9b (And.intro zqy zqx))) (And.intro (And.intro zqw (And.intro zqv zqu)) (And.intro (And.intro zqt zqs) (And.intro zqr zqq))))) (And.intro (And.intro (And.intro (And.intro zqp (And.intro zqo zqn)) (And.intro zvv (And.intro zqm zql))) (And.intro (And.intro zqk (And.intro zqj zqi)) (And.intro (And.intro zsy zqh) (And.intro zqg zqf)))) (And.intro (And.intro (And.intro zvu (And.intro zqe zfg)) (And.intro zvt (And.intro zsx zsw))) (And.intro (And.intro zsv (And.intro zsu zvs)) (And.intro (And.intro zst zss) (And.intro z5e zok)))))) (And.intro (And.intro (And.intro (And.intro (And.intro zvr (And.intro zvq zvp)) (And.intro zbw (And.intro zbv zmo))) (And.intro (And.intro zvo (And.intro zsr zvn)) (And.intro (And.intro zoj zsq) (And.intro zvm zvl)))) (And.intro (And.intro (And.intro zvk (And.intro zvj zvi)) (And.intro zvh (And.intro zvg zvf))) (And.intro (And.intro zve (And.intro zi9 zi8)) (And.intro (And.intro zi7 zm3) (And.intro zm2 zm1))))) (And.intro (And.intro (And.intro (And.intro zm0 (And.intro zcq zcp)) (And.intro zco (And.intro zcn zcm))) (And.intro (And.intro zcl (And.intro zck zcj)) (And.intro (And.intro zci zch) (And.intro zcg zcf)))) (And.intro (And.intro (And.intro zce (And.intro zcd zcc)) (And.intro zf5 (And.intro zf4 zf3))) (And.intro (And.intro zf2 (And.intro zf1 zf0)) (And.intro (And.intro zez zey) (And.intro zex zew))))))) (And.intro (And.intro (And.intro (And.intro (And.intro (And.intro zev (And.intro zeu zet)) (And.intro zes (And.intro zer zeq))) (And.intro (And.intro zep (And.intro zeo zen)) (And.intro zem (And.intro zel zek)))) (And.intro (And.intro (And.intro zke (And.intro zkd zkc)) (And.intro zkb (And.intro zka zk9))) (And.intro (And.intro zk8 (And.intro zk7 zk6)) (And.intro (And.intro zk5 zk4) (And.intro zk3 zk2))))) (And.intro (And.intro (And.intro (And.intro zpv (And.intro zpu zpt)) (And.intro zps (And.intro zpr ztj))) (And.intro (And.intro zpq (And.intro zpp zti)) (And.intro (And.intro zpo zpn) (And.intro zpm zpl)))) (And.intro (And.intro (And.intro zpk (And.intro zpj zpi)) (And.intro zph (And.intro zpg zk1))) (And.intro (And.intro zk0 (And.intro zjz zjy)) (And.intro (And.intro zjx zjw) (And.intro zjv zju)))))) (And.intro (And.intro (And.intro (And.intro (And.intro zjt (And.intro zjs zjr)) (And.intro zpf (And.intro zpe zpd))) (And.intro (And.intro zth (And.intro zpc zpb)) (And.intro (And.intro zpa zp9) (And.intro zp8 zp7)))) (And.intro (And.intro (And.intro zc6 (And.intro zhv zc9)) (And.intro za1 (And.intro z7s zca))) (And.intro (And.intro zky (And.intro z7t za2)) (And.intro (And.intro zhw zc8) (And.intro z5v za3))))) (And.intro (And.intro (And.intro (And.intro zc7 (And.intro lok5 lok6)) (And.intro lok8 (And.intro zsi zsh))) (And.intro (And.intro zsg (And.intro zuv zuu)) (And.intro (And.intro zut zsf) (And.intro zse zsd)))) (And.intro (And.intro (And.intro zus (And.intro zur zuq)) (And.intro zup (And.intro zob zuo))) (And.intro (And.intro zun (And.intro zum zul)) (And.intro (And.intro zuk zuj) (And.intro zhl znp))))))))
theorem bl : type_of% (And.intro bq bf) := (And.intro bq bf)
theorem bm : type_of% (And.intro bl @zfk) := (And.intro bl @zfk)
theorem bz : type_of% (And.intro bm (And.intro @zc2 @storeO.eq_1)) := (And.intro bm (And.intro @zc2 @storeO.eq_1))
theorem pg : type_of% (And.intro @zdf (And.intro (And.intro @decide_true @decide_false) (And.intro @cond_true.{1} @cond_false.{1}))) := (And.intro @zdf (And.intro (And.intro @decide_true @decide_false) (And.intro @cond_true.{1} @cond_false.{1})))
theorem pq : type_of% (And.intro pg @z02) := (And.intro pg @z02)
def inB (lo hi x : Int) : Bool := decide (lo ≤ x) && decide (x ≤ hi)
section
variable {S : Kn} (hS : S.Only [22]) {m : Nat} {h : Hp} {nx : Nat}
include hS
theorem c85 (hm : 1 ≤ m) (lo hi x : Int) : z06 85 [.agg #[vi lo, vi hi], vi x] (z07 Tryz.prog vmL S m) h nx = .gen (.bool (inB lo hi x)) h nx [] := by
  refine fun85.ground (hS _ _ _ _ (by decide)) hm rfl (by simp) ?_
  unfold inB
  by_cases h1 : lo ≤ x <;> by_cases h2 : x ≤ hi <;> simp (maxSteps := 10000000) (disch := omega) only [s85, h1, h2, bz, z02, Nat.reduceEqDiff, Nat.reduceLT, Nat.reduceAdd, Nat.reduceMul, Int.reduceToNat] <;> exact ⟨_, _, rfl⟩
theorem c40 (hm : 1 ≤ m) (x lo hi : Int) : z06 40 [vi x, vi lo, vi hi] (z07 Tryz.prog vmL S m) h nx = .gen (.bool (inB lo hi x)) h nx [] := by
  refine fun40.ground (hS _ _ _ _ (by decide)) hm rfl (by simp) ?_
  unfold inB
  by_cases h1 : lo ≤ x <;> by_cases h2 : x ≤ hi <;> simp (maxSteps := 10000000) (disch := omega) only [s40, h1, h2, bz, z02, Nat.reduceEqDiff, Nat.reduceLT, Nat.reduceAdd, Nat.reduceMul, Int.reduceToNat] <;> exact ⟨_, _, rfl⟩
theorem c109 (hm : 2 ≤ m) (hn : 1 ≤ nx) (hl : rowL h 0 = some limL) (x : Int) : z06 109 [vi x] (z07 Tryz.prog vmL S m) h nx = .gen (.bool (inB 1 1000 x)) h nx [] := by
  refine fun109.ground (hS _ _ _ _ (by decide)) (by omega) rfl (by simp) ?_
  have k85 := fun (h : Hp) (nx : Nat) (lo hi x : Int) => c85 hS (m := m - 1) (h := h) (nx := nx) (by omega) lo hi x
  simp (maxSteps := 10000000) (disch := omega) only [s109, k85, hl, bz, z02, Nat.reduceEqDiff, Nat.reduceLT, Nat.reduceAdd, Nat.reduceMul, Int.reduceToNat]
  exact ⟨_, _, rfl⟩
theorem c105 (hm : 2 ≤ m) (hn : 1 ≤ nx) (hl : rowL h 0 = some limL) (size weight worth : Int) (alone : Bool) : z06 105 [.agg #[vi size, vi weight, vi worth, .bool alone]] (z07 Tryz.prog vmL S m) h nx = .gen (.bool (inB 1 500 size && (inB 1 5000 weight && inB 0 10000 worth))) h nx [] := by
  refine fun105.ground (hS _ _ _ _ (by decide)) (by omega) rfl (by simp) ?_
  have k85 := fun (h : Hp) (nx : Nat) (lo hi x : Int) => c85 hS (m := m - 1) (h := h) (nx := nx) (by omega) lo hi x
  rcases Bool.eq_false_or_eq_true (inB 1 500 size) with h1 | h1 <;> rcases Bool.eq_false_or_eq_true (inB 1 5000 weight) with h2 | h2 <;> rcases Bool.eq_false_or_eq_true (inB 0 10000 worth) with h3 | h3 <;> simp (maxSteps := 10000000) (disch := omega) only [s105, k85, hl, h1, h2, h3, bz, z02, Nat.reduceEqDiff, Nat.reduceLT, Nat.reduceAdd, Nat.reduceMul, Int.reduceToNat] <;> exact ⟨_, _, rfl⟩
theorem c137 (hm : 1 ≤ m) (n : Int) : z06 137 [vi n] (z07 Tryz.prog vmL S m) h nx = .gen (.agg #[vi n, vi n]) h nx [] := by
  refine fun137.ground (hS _ _ _ _ (by decide)) (by omega) rfl (by simp) ?_
  simp (maxSteps := 10000000) (disch := omega) only [s137, bz, z02, Nat.reduceEqDiff, Nat.reduceLT, Nat.reduceAdd, Nat.reduceMul, Int.reduceToNat]
  exact ⟨_, _, rfl⟩
theorem c115 (hm : 1 ≤ m) (n : Int) (h0 : -9223372036854775807 ≤ n) (h1 : n ≤ 9223372036854775807) : z06 115 [vi n] (z07 Tryz.prog vmL S m) h nx = .gen (.agg #[vi 0, vi (n - 1)]) h nx [] := by
  refine fun115.ground (hS _ _ _ _ (by decide)) (by omega) rfl (by simp) ?_
  simp (maxSteps := 10000000) (disch := omega) only [s115, bz, z02, Nat.reduceEqDiff, Nat.reduceLT, Nat.reduceAdd, Nat.reduceMul, Int.reduceToNat]
  exact ⟨_, _, rfl⟩
theorem c141 (hm : 1 ≤ m) (a b : Int) (h0 : 0 ≤ a) (h1 : a ≤ 1000000000) (h2 : 1 ≤ b) (h3 : b ≤ 1000000) : z06 141 [vi a, vi b] (z07 Tryz.prog vmL S m) h nx = .gen (vi ((a + b - 1) / b)) h nx [] := by
  refine fun141.ground (hS _ _ _ _ (by decide)) (by omega) rfl (by simp) ?_
  have hq : (a + b - 1).tdiv b = (a + b - 1) / b := Int.tdiv_eq_ediv_of_nonneg (by omega)
  have hd : 0 ≤ (a + b - 1) / b := Int.ediv_nonneg (by omega) (by omega)
  have hd2 : (a + b - 1) / b ≤ a + b - 1 := Int.ediv_le_self _ (by omega)
  simp (maxSteps := 10000000) (disch := omega) only [s141, hq, bz, z02, Nat.reduceEqDiff, Nat.reduceLT, Nat.reduceAdd, Nat.reduceMul, Int.reduceToNat]
  exact ⟨_, _, rfl⟩
end
open Go Go.Proofs Go.Lm
set_option maxRecDepth 10000
set_option maxHeartbeats 8000000
theorem z1p {P : Program} {nv : Nat} {ih : Rec} {vs : Vs} {h : Hp} {nx : Nat} (t : Nat) (args : Array Operand) (ts : Array TypeId) : rOp P nv ih (.call { callee := .value (.tmp t), args := args, argTypes := ts }) vs h nx =
    match opV nv (.tmp t) vs, opVs nv vs args.toList with
    | some (.func (.func f) xs ys), some us => z06 f (xs.toList ++ us ++ ys.toList) ih h nx
    | some (.func (.yield l) xs ys), some us => bif xs.isEmpty && ys.isEmpty then z3y l us ih h nx else .bad
    | _, _ => .bad := zrv (.tmp t) (fun f hf => by cases hf) args ts
theorem z3j {cs row : List Value} {o n : Nat} (ho : o + n ≤ cs.length) (hs : (cs.drop o).take n = row) : z09 true n cs o = some (.agg row.toArray) := by rw [z4t _ _ _ ho, hs]
theorem z2w {cs row : List Value} {o : Nat} {x : Value} (hs : (cs.drop o).take 1 = [x]) : z09 false 1 cs o = some x := by
  rw [z3k]
  cases hd : cs.drop o with
  | nil => rw [hd] at hs; cases hs
  | cons y l =>
    rw [hd] at hs
    simp at hs
    have := List.getElem?_drop (xs := cs) (i := o) (j := 0)
    rw [hd] at this
    simp at this
    rw [← this, hs]
theorem zl0 {cs row : List Value} {o : Nat} (hl : row.length = 1) (hs : (cs.drop o).take 1 = row) : z09 false 1 cs o = some (row.headD .nilFunc) := by
  cases row with
  | nil => cases hl
  | cons x l =>
    have : l = [] := by cases l with | nil => rfl | cons _ _ => simp at hl
    subst this
    exact z2w (row := [x]) hs
theorem zs5 {ih : Rec} {rows : List (List Value)} {z : Z} {vs : Vs} {h : Hp} {nx fc : Nat} {xs ys : List Value} {v : Value} {p : List Value → Bool} (hl : rows.length ≤ 140737488355328) (hv : Lst h nx 4 v rows)
    (hp : ∀ row, row ∈ rows → z06 fc (xs ++ [.agg row.toArray] ++ ys) ih h nx = .gen (.bool (p row)) h nx [])
    (g0 : vs 0 = some v) (g1 : vs 1 = some (.func (.func fc) xs.toArray ys.toArray)) (g7 : vs 7 = some (vi rows.length)) (g8 : vs 8 = some (vi 0)) {r : R} (hr : z14 (sC Tryz.prog 19 19 ih zal) z vs h nx = r) :
    (∃ i vs', rows.findIdx? p = some i ∧ r = .ret z vs' h nx ∧ vs' 4 = some (vi (i : Int))) ∨ (rows.findIdx? p = none ∧ ∃ vs', r = .exi 0 z vs' h nx) := by
  subst hr
  refine z0n (Post := fun r => (∃ i vs', rows.findIdx? p = some i ∧ r = .ret z vs' h nx ∧ vs' 4 = some (vi (i : Int))) ∨ (rows.findIdx? p = none ∧ ∃ vs', r = .exi 0 z vs' h nx))
    (fun i z' vs' h' nx' => i ≤ rows.length ∧ z' = z ∧ h' = h ∧ nx' = nx ∧ vs' 0 = some v ∧ vs' 1 = some (.func (.func fc) xs.toArray ys.toArray) ∧ vs' 7 = some (vi rows.length) ∧ vs' 8 = some (vi (i : Int)) ∧ ∀ j row, j < i → rows[j]? = some row → p row = false) rows.length (by omega)
    ⟨Nat.zero_le _, rfl, rfl, rfl, g0, g1, g7, g8, fun j row hj => by omega⟩ ?_
  rintro i z' vs' h' nx' ⟨hi, rfl, rfl, rfl, e0, e1, e7, e8, ef⟩
  obtain ⟨a, c, rfl, _⟩ := hv.form
  by_cases hlt : i < rows.length
  · obtain ⟨_, rr, o, row, cs, rfl, hrn, hrow, hrl, hcs, ho, hseg⟩ := hv.load (i := i) hlt
    have h1 : ((i : Int) < (rows.length : Int)) := by omega
    have hmem := List.mem_of_getElem? hrow
    have hc := hp row hmem
    have hel : z09 true 4 cs (o + i * 4) = some (.agg row.toArray) := z3j (by omega) hseg
    rcases Bool.eq_false_or_eq_true (p row) with hb | hb
    · right
      rw [hb] at hc
      have e : ∃ vs2, sC Tryz.prog 19 19 ih zal z' vs' h' nx' = .ret z' vs2 h' nx' ∧ vs2 4 = some (vi (i : Int)) := by
        refine ⟨_, by simp (maxSteps := 10000000) (disch := omega) only [zal, e0, e1, e7, e8, hcs, hel, h1, hc, z1p, bz, z02, Nat.reduceEqDiff, Nat.reduceLT, Nat.reduceAdd, Nat.reduceMul, Int.reduceToNat]; exact rfl, ?_⟩
        simp only [pg, Nat.reduceEqDiff]
      obtain ⟨vs2, e, e4⟩ := e
      rw [e]
      refine ⟨trivial, .inl ⟨i, vs2, ?_, rfl, e4⟩⟩
      rw [List.findIdx?_eq_some_iff_getElem]
      refine ⟨hlt, ?_, fun j hj => ?_⟩
      · have : rows[i] = row := by have := List.getElem?_eq_getElem hlt; rw [this] at hrow; exact Option.some.inj hrow
        rw [this]; exact hb
      · have := ef j _ hj (List.getElem?_eq_getElem (by omega))
        simp [this]
    · left
      rw [hb] at hc
      refine ⟨hlt, z', _, h', nx', (by simp (maxSteps := 10000000) (disch := omega) only [zal, e0, e1, e7, e8, hcs, hel, h1, hc, z1p, bz, z02, Nat.reduceEqDiff, Nat.reduceLT, Nat.reduceAdd, Nat.reduceMul, Int.reduceToNat]; exact rfl), by omega, rfl, rfl, rfl, ?_, ?_, ?_, ?_, fun j row' hj hr' => ?_⟩
      · simp only [pg, Nat.reduceEqDiff, e0]
      · simp only [pg, Nat.reduceEqDiff, e1]
      · simp only [pg, Nat.reduceEqDiff, e7]
      · simp only [pg, Nat.reduceEqDiff]; rfl
      · by_cases hji : j = i
        · subst hji; rw [hr'] at hrow; cases hrow; exact hb
        · exact ef j row' (by omega) hr'
  · right
    have h1 : ¬ ((i : Int) < (rows.length : Int)) := by omega
    have e : ∃ vs2, sC Tryz.prog 19 19 ih zal z' vs' h' nx' = .exi 0 z' vs2 h' nx' := ⟨_, by simp (maxSteps := 10000000) (disch := omega) only [zal, e0, e1, e7, e8, h1, bz, z02, Nat.reduceEqDiff, Nat.reduceLT, Nat.reduceAdd, Nat.reduceMul, Int.reduceToNat]; exact rfl⟩
    obtain ⟨vs2, e⟩ := e
    rw [e]
    refine ⟨trivial, .inr ⟨?_, vs2, rfl⟩⟩
    rw [List.findIdx?_eq_none_iff]
    intro row hr
    obtain ⟨j, hj, hjr⟩ := List.getElem_of_mem hr
    exact ef j row (by omega) (by rw [← hjr]; exact List.getElem?_eq_getElem hj)
theorem c149 {S : Kn} (hS : S.Only [22]) {m : Nat} (hm : 1 ≤ m) {rows : List (List Value)} {h : Hp} {nx fc : Nat} {xs ys : List Value} {v : Value} {p : List Value → Bool} (hl : rows.length ≤ 140737488355328) (hv : Lst h nx 4 v rows)
    (hp : ∀ row, row ∈ rows → z06 fc (xs ++ [.agg row.toArray] ++ ys) (z07 Tryz.prog vmL S (m - 1)) h nx = .gen (.bool (p row)) h nx []) :
    z06 149 [v, .func (.func fc) xs.toArray ys.toArray] (z07 Tryz.prog vmL S m) h nx = .gen (vi (match rows.findIdx? p with | some i => (i : Int) | none => -1)) h nx [] := by
  refine fun149.ground (hS _ _ _ _ (by decide)) (by omega) (by split <;> rfl) (by simp) ?_
  obtain ⟨a, c, rfl, _⟩ := hv.form
  simp (maxSteps := 10000000) (disch := omega) only [s149, z1j, bz, z02, Nat.reduceEqDiff, Nat.reduceLT, Nat.reduceAdd, Nat.reduceMul, Int.reduceToNat]
  generalize hr : z14 _ _ _ _ _ = r
  rcases zs5 (p := p) (xs := xs) (ys := ys) hl hv hp rfl rfl rfl rfl hr with ⟨i, vs', hf, rfl, e4⟩ | ⟨hf, vs', rfl⟩
  · rw [hf]
    exact ⟨_, _, by simp (maxSteps := 10000000) (disch := omega) only [e4, bz, z02, Nat.reduceEqDiff, Nat.reduceLT, Nat.reduceAdd, Nat.reduceMul, Int.reduceToNat]; rfl⟩
  · rw [hf]
    exact ⟨_, _, by simp (maxSteps := 10000000) (disch := omega) only [bz, z02, Nat.reduceEqDiff, Nat.reduceLT, Nat.reduceAdd, Nat.reduceMul, Int.reduceToNat]; rfl⟩
theorem c134 {S : Kn} (hS : S.Only [22]) {m : Nat} (hm : 2 ≤ m) {rows : List (List Value)} {h : Hp} {nx fc : Nat} {xs ys : List Value} {v : Value} {p : List Value → Bool} (hl : rows.length ≤ 140737488355328) (hv : Lst h nx 4 v rows)
    (hp : ∀ row, row ∈ rows → z06 fc (xs ++ [.agg row.toArray] ++ ys) (z07 Tryz.prog vmL S (m - 2)) h nx = .gen (.bool (p row)) h nx []) :
    z06 134 [v, .func (.func fc) xs.toArray ys.toArray] (z07 Tryz.prog vmL S m) h nx = .gen (.bool (rows.any p)) h nx [] := by
  refine fun134.ground (hS _ _ _ _ (by decide)) (by omega) rfl (by simp) ?_
  have k := c149 hS (m := m - 1) (by omega) hl hv (p := p) (xs := xs) (ys := ys) (fc := fc) (by rw [Nat.sub_sub]; exact hp)
  have ha : rows.any p = (rows.findIdx? p).isSome := by rw [List.findIdx?_isSome]
  rw [ha]
  cases hf : rows.findIdx? p with
  | none =>
    rw [hf] at k
    simp (maxSteps := 10000000) (disch := omega) only [s134, k, bz, z02, Nat.reduceEqDiff, Nat.reduceLT, Nat.reduceAdd, Nat.reduceMul, Int.reduceToNat]
    exact ⟨_, _, rfl⟩
  | some i =>
    rw [hf] at k
    have h1 : (0 : Int) ≤ (i : Int) := by omega
    simp (maxSteps := 10000000) (disch := omega) only [s134, k, h1, bz, z02, Nat.reduceEqDiff, Nat.reduceLT, Nat.reduceAdd, Nat.reduceMul, Int.reduceToNat]
    exact ⟨_, _, rfl⟩
theorem zs9 {ih : Rec} {rows : List (List Value)} {z : Z} {vs : Vs} {h : Hp} {nx fc : Nat} {xs ys : List Value} {v : Value} {p : List Value → Bool} (hl : rows.length ≤ 140737488355328) (hv : Lst h nx 4 v rows)
    (hp : ∀ row, row ∈ rows → z06 fc (xs ++ [.agg row.toArray] ++ ys) ih h nx = .gen (.bool (p row)) h nx [])
    (g0 : vs 0 = some v) (g1 : vs 1 = some (.func (.func fc) xs.toArray ys.toArray)) (g7 : vs 7 = some (vi rows.length)) (g8 : vs 8 = some (vi 0)) {r : R} (hr : z14 (sC Tryz.prog 19 19 ih zam) z vs h nx = r) :
    (∃ i vs', rows.findIdx? p = some i ∧ r = .ret z vs' h nx ∧ vs' 4 = some (vi (i : Int))) ∨ (rows.findIdx? p = none ∧ ∃ vs', r = .exi 0 z vs' h nx) := by
  subst hr
  refine z0n (Post := fun r => (∃ i vs', rows.findIdx? p = some i ∧ r = .ret z vs' h nx ∧ vs' 4 = some (vi (i : Int))) ∨ (rows.findIdx? p = none ∧ ∃ vs', r = .exi 0 z vs' h nx))
    (fun i z' vs' h' nx' => i ≤ rows.length ∧ z' = z ∧ h' = h ∧ nx' = nx ∧ vs' 0 = some v ∧ vs' 1 = some (.func (.func fc) xs.toArray ys.toArray) ∧ vs' 7 = some (vi rows.length) ∧ vs' 8 = some (vi (i : Int)) ∧ ∀ j row, j < i → rows[j]? = some row → p row = false) rows.length (by omega)
    ⟨Nat.zero_le _, rfl, rfl, rfl, g0, g1, g7, g8, fun j row hj => by omega⟩ ?_
  rintro i z' vs' h' nx' ⟨hi, rfl, rfl, rfl, e0, e1, e7, e8, ef⟩
  obtain ⟨a, c, rfl, _⟩ := hv.form
  by_cases hlt : i < rows.length
  · obtain ⟨_, rr, o, row, cs, rfl, hrn, hrow, hrl, hcs, ho, hseg⟩ := hv.load (i := i) hlt
    have h1 : ((i : Int) < (rows.length : Int)) := by omega
    have hmem := List.mem_of_getElem? hrow
    have hc := hp row hmem
    have hel : z09 true 4 cs (o + i * 4) = some (.agg row.toArray) := z3j (by omega) hseg
    rcases Bool.eq_false_or_eq_true (p row) with hb | hb
    · right
      rw [hb] at hc
      have e : ∃ vs2, sC Tryz.prog 19 19 ih zam z' vs' h' nx' = .ret z' vs2 h' nx' ∧ vs2 4 = some (vi (i : Int)) := by
        refine ⟨_, by simp (maxSteps := 10000000) (disch := omega) only [zam, e0, e1, e7, e8, hcs, hel, h1, hc, z1p, bz, z02, Nat.reduceEqDiff, Nat.reduceLT, Nat.reduceAdd, Nat.reduceMul, Int.reduceToNat]; exact rfl, ?_⟩
        simp only [pg, Nat.reduceEqDiff]
      obtain ⟨vs2, e, e4⟩ := e
      rw [e]
      refine ⟨trivial, .inl ⟨i, vs2, ?_, rfl, e4⟩⟩
      rw [List.findIdx?_eq_some_iff_getElem]
      refine ⟨hlt, ?_, fun j hj => ?_⟩
      · have : rows[i] = row := by have := List.getElem?_eq_getElem hlt; rw [this] at hrow; exact Option.some.inj hrow
        rw [this]; exact hb
      · have := ef j _ hj (List.getElem?_eq_getElem (by omega))
        simp [this]
    · left
      rw [hb] at hc
      refine ⟨hlt, z', _, h', nx', (by simp (maxSteps := 10000000) (disch := omega) only [zam, e0, e1, e7, e8, hcs, hel, h1, hc, z1p, bz, z02, Nat.reduceEqDiff, Nat.reduceLT, Nat.reduceAdd, Nat.reduceMul, Int.reduceToNat]; exact rfl), by omega, rfl, rfl, rfl, ?_, ?_, ?_, ?_, fun j row' hj hr' => ?_⟩
      · simp only [pg, Nat.reduceEqDiff, e0]
      · simp only [pg, Nat.reduceEqDiff, e1]
      · simp only [pg, Nat.reduceEqDiff, e7]
      · simp only [pg, Nat.reduceEqDiff]; rfl
      · by_cases hji : j = i
        · subst hji; rw [hr'] at hrow; cases hrow; exact hb
        · exact ef j row' (by omega) hr'
  · right
    have h1 : ¬ ((i : Int) < (rows.length : Int)) := by omega
    have e : ∃ vs2, sC Tryz.prog 19 19 ih zam z' vs' h' nx' = .exi 0 z' vs2 h' nx' := ⟨_, by simp (maxSteps := 10000000) (disch := omega) only [zam, e0, e1, e7, e8, h1, bz, z02, Nat.reduceEqDiff, Nat.reduceLT, Nat.reduceAdd, Nat.reduceMul, Int.reduceToNat]; exact rfl⟩
    obtain ⟨vs2, e⟩ := e
    rw [e]
    refine ⟨trivial, .inr ⟨?_, vs2, rfl⟩⟩
    rw [List.findIdx?_eq_none_iff]
    intro row hr
    obtain ⟨j, hj, hjr⟩ := List.getElem_of_mem hr
    exact ef j row (by omega) (by rw [← hjr]; exact List.getElem?_eq_getElem hj)
theorem c120 {S : Kn} (hS : S.Only [22]) {m : Nat} (hm : 1 ≤ m) {rows : List (List Value)} {h : Hp} {nx fc : Nat} {xs ys : List Value} {v : Value} {p : List Value → Bool} (hl : rows.length ≤ 140737488355328) (hv : Lst h nx 4 v rows)
    (hp : ∀ row, row ∈ rows → z06 fc (xs ++ [.agg row.toArray] ++ ys) (z07 Tryz.prog vmL S (m - 1)) h nx = .gen (.bool (p row)) h nx []) :
    z06 120 [v, .func (.func fc) xs.toArray ys.toArray] (z07 Tryz.prog vmL S m) h nx = .gen (vi (match rows.findIdx? p with | some i => (i : Int) | none => -1)) h nx [] := by
  refine fun120.ground (hS _ _ _ _ (by decide)) (by omega) (by split <;> rfl) (by simp) ?_
  obtain ⟨a, c, rfl, _⟩ := hv.form
  simp (maxSteps := 10000000) (disch := omega) only [s120, z1j, bz, z02, Nat.reduceEqDiff, Nat.reduceLT, Nat.reduceAdd, Nat.reduceMul, Int.reduceToNat]
  generalize hr : z14 _ _ _ _ _ = r
  rcases zs9 (p := p) (xs := xs) (ys := ys) hl hv hp rfl rfl rfl rfl hr with ⟨i, vs', hf, rfl, e4⟩ | ⟨hf, vs', rfl⟩
  · rw [hf]
    exact ⟨_, _, by simp (maxSteps := 10000000) (disch := omega) only [e4, bz, z02, Nat.reduceEqDiff, Nat.reduceLT, Nat.reduceAdd, Nat.reduceMul, Int.reduceToNat]; rfl⟩
  · rw [hf]
    exact ⟨_, _, by simp (maxSteps := 10000000) (disch := omega) only [bz, z02, Nat.reduceEqDiff, Nat.reduceLT, Nat.reduceAdd, Nat.reduceMul, Int.reduceToNat]; rfl⟩
theorem c89 {S : Kn} (hS : S.Only [22]) {m : Nat} (hm : 2 ≤ m) {rows : List (List Value)} {h : Hp} {nx fc : Nat} {xs ys : List Value} {v : Value} {p : List Value → Bool} (hl : rows.length ≤ 140737488355328) (hv : Lst h nx 4 v rows)
    (hp : ∀ row, row ∈ rows → z06 fc (xs ++ [.agg row.toArray] ++ ys) (z07 Tryz.prog vmL S (m - 2)) h nx = .gen (.bool (p row)) h nx []) :
    z06 89 [v, .func (.func fc) xs.toArray ys.toArray] (z07 Tryz.prog vmL S m) h nx = .gen (.bool (rows.any p)) h nx [] := by
  refine fun89.ground (hS _ _ _ _ (by decide)) (by omega) rfl (by simp) ?_
  have k := c120 hS (m := m - 1) (by omega) hl hv (p := p) (xs := xs) (ys := ys) (fc := fc) (by rw [Nat.sub_sub]; exact hp)
  have ha : rows.any p = (rows.findIdx? p).isSome := by rw [List.findIdx?_isSome]
  rw [ha]
  cases hf : rows.findIdx? p with
  | none =>
    rw [hf] at k
    simp (maxSteps := 10000000) (disch := omega) only [s89, k, bz, z02, Nat.reduceEqDiff, Nat.reduceLT, Nat.reduceAdd, Nat.reduceMul, Int.reduceToNat]
    exact ⟨_, _, rfl⟩
  | some i =>
    rw [hf] at k
    have h1 : (0 : Int) ≤ (i : Int) := by omega
    simp (maxSteps := 10000000) (disch := omega) only [s89, k, h1, bz, z02, Nat.reduceEqDiff, Nat.reduceLT, Nat.reduceAdd, Nat.reduceMul, Int.reduceToNat]
    exact ⟨_, _, rfl⟩
theorem zs4 {ih : Rec} {rows : List (List Value)} {z : Z} {vs : Vs} {h : Hp} {nx fc : Nat} {xs ys : List Value} {v : Value} {p : List Value → Bool} (hl : rows.length ≤ 140737488355328) (hv : Lst h nx 1 v rows)
    (hp : ∀ row, row ∈ rows → z06 fc (xs ++ [row.headD .nilFunc] ++ ys) ih h nx = .gen (.bool (p row)) h nx [])
    (g0 : vs 0 = some v) (g1 : vs 1 = some (.func (.func fc) xs.toArray ys.toArray)) (g7 : vs 7 = some (vi rows.length)) (g8 : vs 8 = some (vi 0)) {r : R} (hr : z14 (sC Tryz.prog 19 19 ih zak) z vs h nx = r) :
    (∃ i vs', rows.findIdx? p = some i ∧ r = .ret z vs' h nx ∧ vs' 4 = some (vi (i : Int))) ∨ (rows.findIdx? p = none ∧ ∃ vs', r = .exi 0 z vs' h nx) := by
  subst hr
  refine z0n (Post := fun r => (∃ i vs', rows.findIdx? p = some i ∧ r = .ret z vs' h nx ∧ vs' 4 = some (vi (i : Int))) ∨ (rows.findIdx? p = none ∧ ∃ vs', r = .exi 0 z vs' h nx))
    (fun i z' vs' h' nx' => i ≤ rows.length ∧ z' = z ∧ h' = h ∧ nx' = nx ∧ vs' 0 = some v ∧ vs' 1 = some (.func (.func fc) xs.toArray ys.toArray) ∧ vs' 7 = some (vi rows.length) ∧ vs' 8 = some (vi (i : Int)) ∧ ∀ j row, j < i → rows[j]? = some row → p row = false) rows.length (by omega)
    ⟨Nat.zero_le _, rfl, rfl, rfl, g0, g1, g7, g8, fun j row hj => by omega⟩ ?_
  rintro i z' vs' h' nx' ⟨hi, rfl, rfl, rfl, e0, e1, e7, e8, ef⟩
  obtain ⟨a, c, rfl, _⟩ := hv.form
  by_cases hlt : i < rows.length
  · obtain ⟨_, rr, o, row, cs, rfl, hrn, hrow, hrl, hcs, ho, hseg⟩ := hv.load (i := i) hlt
    have h1 : ((i : Int) < (rows.length : Int)) := by omega
    have hmem := List.mem_of_getElem? hrow
    have hc := hp row hmem
    have hel : z09 false 1 cs (o + i * 1) = some (row.headD .nilFunc) := zl0 hrl hseg
    rcases Bool.eq_false_or_eq_true (p row) with hb | hb
    · right
      rw [hb] at hc
      have e : ∃ vs2, sC Tryz.prog 19 19 ih zak z' vs' h' nx' = .ret z' vs2 h' nx' ∧ vs2 4 = some (vi (i : Int)) := by
        refine ⟨_, by simp (maxSteps := 10000000) (disch := omega) only [zak, e0, e1, e7, e8, hcs, hel, h1, hc, z1p, bz, z02, Nat.reduceEqDiff, Nat.reduceLT, Nat.reduceAdd, Nat.reduceMul, Int.reduceToNat]; exact rfl, ?_⟩
        simp only [pg, Nat.reduceEqDiff]
      obtain ⟨vs2, e, e4⟩ := e
      rw [e]
      refine ⟨trivial, .inl ⟨i, vs2, ?_, rfl, e4⟩⟩
      rw [List.findIdx?_eq_some_iff_getElem]
      refine ⟨hlt, ?_, fun j hj => ?_⟩
      · have : rows[i] = row := by have := List.getElem?_eq_getElem hlt; rw [this] at hrow; exact Option.some.inj hrow
        rw [this]; exact hb
      · have := ef j _ hj (List.getElem?_eq_getElem (by omega))
        simp [this]
    · left
      rw [hb] at hc
      refine ⟨hlt, z', _, h', nx', (by simp (maxSteps := 10000000) (disch := omega) only [zak, e0, e1, e7, e8, hcs, hel, h1, hc, z1p, bz, z02, Nat.reduceEqDiff, Nat.reduceLT, Nat.reduceAdd, Nat.reduceMul, Int.reduceToNat]; exact rfl), by omega, rfl, rfl, rfl, ?_, ?_, ?_, ?_, fun j row' hj hr' => ?_⟩
      · simp only [pg, Nat.reduceEqDiff, e0]
      · simp only [pg, Nat.reduceEqDiff, e1]
      · simp only [pg, Nat.reduceEqDiff, e7]
      · simp only [pg, Nat.reduceEqDiff]; rfl
      · by_cases hji : j = i
        · subst hji; rw [hr'] at hrow; cases hrow; exact hb
        · exact ef j row' (by omega) hr'
  · right
    have h1 : ¬ ((i : Int) < (rows.length : Int)) := by omega
    have e : ∃ vs2, sC Tryz.prog 19 19 ih zak z' vs' h' nx' = .exi 0 z' vs2 h' nx' := ⟨_, by simp (maxSteps := 10000000) (disch := omega) only [zak, e0, e1, e7, e8, h1, bz, z02, Nat.reduceEqDiff, Nat.reduceLT, Nat.reduceAdd, Nat.reduceMul, Int.reduceToNat]; exact rfl⟩
    obtain ⟨vs2, e⟩ := e
    rw [e]
    refine ⟨trivial, .inr ⟨?_, vs2, rfl⟩⟩
    rw [List.findIdx?_eq_none_iff]
    intro row hr
    obtain ⟨j, hj, hjr⟩ := List.getElem_of_mem hr
    exact ef j row (by omega) (by rw [← hjr]; exact List.getElem?_eq_getElem hj)
theorem c150 {S : Kn} (hS : S.Only [22]) {m : Nat} (hm : 1 ≤ m) {rows : List (List Value)} {h : Hp} {nx fc : Nat} {xs ys : List Value} {v : Value} {p : List Value → Bool} (hl : rows.length ≤ 140737488355328) (hv : Lst h nx 1 v rows)
    (hp : ∀ row, row ∈ rows → z06 fc (xs ++ [row.headD .nilFunc] ++ ys) (z07 Tryz.prog vmL S (m - 1)) h nx = .gen (.bool (p row)) h nx []) :
    z06 150 [v, .func (.func fc) xs.toArray ys.toArray] (z07 Tryz.prog vmL S m) h nx = .gen (vi (match rows.findIdx? p with | some i => (i : Int) | none => -1)) h nx [] := by
  refine fun150.ground (hS _ _ _ _ (by decide)) (by omega) (by split <;> rfl) (by simp) ?_
  obtain ⟨a, c, rfl, _⟩ := hv.form
  simp (maxSteps := 10000000) (disch := omega) only [s150, z1j, bz, z02, Nat.reduceEqDiff, Nat.reduceLT, Nat.reduceAdd, Nat.reduceMul, Int.reduceToNat]
  generalize hr : z14 _ _ _ _ _ = r
  rcases zs4 (p := p) (xs := xs) (ys := ys) hl hv hp rfl rfl rfl rfl hr with ⟨i, vs', hf, rfl, e4⟩ | ⟨hf, vs', rfl⟩
  · rw [hf]
    exact ⟨_, _, by simp (maxSteps := 10000000) (disch := omega) only [e4, bz, z02, Nat.reduceEqDiff, Nat.reduceLT, Nat.reduceAdd, Nat.reduceMul, Int.reduceToNat]; rfl⟩
  · rw [hf]
    exact ⟨_, _, by simp (maxSteps := 10000000) (disch := omega) only [bz, z02, Nat.reduceEqDiff, Nat.reduceLT, Nat.reduceAdd, Nat.reduceMul, Int.reduceToNat]; rfl⟩
theorem c138 {S : Kn} (hS : S.Only [22]) {m : Nat} (hm : 2 ≤ m) {rows : List (List Value)} {h : Hp} {nx fc : Nat} {xs ys : List Value} {v : Value} {p : List Value → Bool} (hl : rows.length ≤ 140737488355328) (hv : Lst h nx 1 v rows)
    (hp : ∀ row, row ∈ rows → z06 fc (xs ++ [row.headD .nilFunc] ++ ys) (z07 Tryz.prog vmL S (m - 2)) h nx = .gen (.bool (p row)) h nx []) :
    z06 138 [v, .func (.func fc) xs.toArray ys.toArray] (z07 Tryz.prog vmL S m) h nx = .gen (.bool (rows.any p)) h nx [] := by
  refine fun138.ground (hS _ _ _ _ (by decide)) (by omega) rfl (by simp) ?_
  have k := c150 hS (m := m - 1) (by omega) hl hv (p := p) (xs := xs) (ys := ys) (fc := fc) (by rw [Nat.sub_sub]; exact hp)
  have ha : rows.any p = (rows.findIdx? p).isSome := by rw [List.findIdx?_isSome]
  rw [ha]
  cases hf : rows.findIdx? p with
  | none =>
    rw [hf] at k
    simp (maxSteps := 10000000) (disch := omega) only [s138, k, bz, z02, Nat.reduceEqDiff, Nat.reduceLT, Nat.reduceAdd, Nat.reduceMul, Int.reduceToNat]
    exact ⟨_, _, rfl⟩
  | some i =>
    rw [hf] at k
    have h1 : (0 : Int) ≤ (i : Int) := by omega
    simp (maxSteps := 10000000) (disch := omega) only [s138, k, h1, bz, z02, Nat.reduceEqDiff, Nat.reduceLT, Nat.reduceAdd, Nat.reduceMul, Int.reduceToNat]
    exact ⟨_, _, rfl⟩
theorem c135 {S : Kn} (hS : S.Only [22]) {m : Nat} (hm : 1 ≤ m) {row : List Value} (hrl : row.length = 4) {h : Hp} {nx b g : Nat} (hb : b < nx) (hr : rowL h b = some [.func (.func g) #[] #[]]) {y : Bool}
    (hp : ∀ h' nx', nx ≤ nx' → Same nx h h' → z06 g [.agg row.toArray] (z07 Tryz.prog vmL S (m - 1)) h' nx' = .gen (.bool y) h' nx' []) :
    z06 135 [.agg row.toArray, .pointer (some ⟨b, 0, none⟩)] (z07 Tryz.prog vmL S m) h nx = .gen (.bool (!y)) h nx [] := by
  refine fun135.ground (hS _ _ _ _ (by decide)) (by omega) rfl (by simp) ?_
  have hk := hp (hset h nx (.cells row none)) (nx + 1) (by omega) ((Same.refl nx h).set (Nat.le_refl _) _)
  have ht : (row.drop 0).take 4 = row := by rw [List.drop_zero]; exact List.take_of_length_le (by omega)
  have hpt : z09 true 4 row 0 = some (.agg row.toArray) := by rw [z4t _ _ _ (by omega), ht]
  simp (maxSteps := 10000000) (disch := omega) only [s135, hr, hk, hpt, z1p, List.nil_append, List.append_nil, List.cons_append, bz, z02, Nat.reduceEqDiff, Nat.reduceLT, Nat.reduceAdd, Nat.reduceMul, Int.reduceToNat]
  exact ⟨_, _, rfl⟩
theorem c104 {S : Kn} (hS : S.Only [22]) {m : Nat} (hm : 4 ≤ m) {rows : List (List Value)} {h : Hp} {nx g : Nat} {v : Value} {p : List Value → Bool} (hl : rows.length ≤ 140737488355328) (hv : Lst h nx 4 v rows) (lo hi : Int)
    (hp : ∀ row, row ∈ rows → ∀ h' nx', nx ≤ nx' → Same nx h h' → z06 g [.agg row.toArray] (z07 Tryz.prog vmL S (m - 4)) h' nx' = .gen (.bool (p row)) h' nx' []) :
    z06 104 [.agg #[vi lo, vi hi], v, .func (.func g) #[] #[]] (z07 Tryz.prog vmL S m) h nx = .gen (.bool (inB lo hi rows.length && rows.all p)) h nx [] := by
  refine fun104.ground (hS _ _ _ _ (by decide)) (by omega) rfl (by simp) ?_
  have k85 := fun (h : Hp) (nx : Nat) (lo hi x : Int) => c85 hS (m := m - 1) (h := h) (nx := nx) (by omega) lo hi x
  obtain ⟨a, c, hve, hrs⟩ := hv.form
  subst hve
  have hsm : Same nx h (hset (hset h nx (.cells [vi lo, vi hi] none)) (nx + 1) (.cells [.func (.func g) #[] #[]] none)) := ((Same.refl nx h).set (Nat.le_refl _) _).set (by omega) _
  have k := c134 hS (m := m - 1) (by omega) (fc := 135) (xs := []) (ys := [.pointer (some ⟨nx + 1, 0, none⟩)]) (p := fun row => !p row) hl (hv.same hsm (nx' := nx + 1 + 1) (by omega)) (fun row hrow => by
    obtain ⟨i, hi, hri⟩ := List.getElem_of_mem hrow
    have hlen := (hrs i row (by rw [← hri]; exact List.getElem?_eq_getElem hi)).1
    refine c135 hS (by omega) hlen (by omega) (z01 _ _) (fun h' nx' hn hs => ?_)
    rw [show m - 1 - 2 - 1 = m - 4 by omega]
    exact hp row hrow h' nx' (by omega) (hsm.trans (hs.mono (by omega))))
  have hall : rows.all p = !rows.any (fun row => !p row) := by simp [List.all_eq_not_any_not]
  rw [hall]
  rcases Bool.eq_false_or_eq_true (inB lo hi rows.length) with h1 | h1 <;> simp (maxSteps := 10000000) (disch := omega) only [s104, k85, h1, k, z1p, bz, z02, Nat.reduceEqDiff, Nat.reduceLT, Nat.reduceAdd, Nat.reduceMul, Int.reduceToNat] <;> exact ⟨_, _, rfl⟩
theorem c136 {S : Kn} (hS : S.Only [22]) {m : Nat} (hm : 1 ≤ m) {row : List Value} (hrl : row.length = 4) {h : Hp} {nx b g : Nat} (hb : b < nx) (hr : rowL h b = some [.func (.func g) #[] #[]]) {y : Bool}
    (hp : ∀ h' nx', nx ≤ nx' → Same nx h h' → z06 g [.agg row.toArray] (z07 Tryz.prog vmL S (m - 1)) h' nx' = .gen (.bool y) h' nx' []) :
    z06 136 [.agg row.toArray, .pointer (some ⟨b, 0, none⟩)] (z07 Tryz.prog vmL S m) h nx = .gen (.bool (!y)) h nx [] := by
  refine fun136.ground (hS _ _ _ _ (by decide)) (by omega) rfl (by simp) ?_
  have hk := hp (hset h nx (.cells row none)) (nx + 1) (by omega) ((Same.refl nx h).set (Nat.le_refl _) _)
  have ht : (row.drop 0).take 4 = row := by rw [List.drop_zero]; exact List.take_of_length_le (by omega)
  have hpt : z09 true 4 row 0 = some (.agg row.toArray) := by rw [z4t _ _ _ (by omega), ht]
  simp (maxSteps := 10000000) (disch := omega) only [s136, hr, hk, hpt, z1p, List.nil_append, List.append_nil, List.cons_append, bz, z02, Nat.reduceEqDiff, Nat.reduceLT, Nat.reduceAdd, Nat.reduceMul, Int.reduceToNat]
  exact ⟨_, _, rfl⟩
theorem c106 {S : Kn} (hS : S.Only [22]) {m : Nat} (hm : 4 ≤ m) {rows : List (List Value)} {h : Hp} {nx g : Nat} {v : Value} {p : List Value → Bool} (hl : rows.length ≤ 140737488355328) (hv : Lst h nx 4 v rows) (lo hi : Int)
    (hp : ∀ row, row ∈ rows → ∀ h' nx', nx ≤ nx' → Same nx h h' → z06 g [.agg row.toArray] (z07 Tryz.prog vmL S (m - 4)) h' nx' = .gen (.bool (p row)) h' nx' []) :
    z06 106 [.agg #[vi lo, vi hi], v, .func (.func g) #[] #[]] (z07 Tryz.prog vmL S m) h nx = .gen (.bool (inB lo hi rows.length && rows.all p)) h nx [] := by
  refine fun106.ground (hS _ _ _ _ (by decide)) (by omega) rfl (by simp) ?_
  have k85 := fun (h : Hp) (nx : Nat) (lo hi x : Int) => c85 hS (m := m - 1) (h := h) (nx := nx) (by omega) lo hi x
  obtain ⟨a, c, hve, hrs⟩ := hv.form
  subst hve
  have hsm : Same nx h (hset (hset h nx (.cells [vi lo, vi hi] none)) (nx + 1) (.cells [.func (.func g) #[] #[]] none)) := ((Same.refl nx h).set (Nat.le_refl _) _).set (by omega) _
  have k := c89 hS (m := m - 1) (by omega) (fc := 136) (xs := []) (ys := [.pointer (some ⟨nx + 1, 0, none⟩)]) (p := fun row => !p row) hl (hv.same hsm (nx' := nx + 1 + 1) (by omega)) (fun row hrow => by
    obtain ⟨i, hi, hri⟩ := List.getElem_of_mem hrow
    have hlen := (hrs i row (by rw [← hri]; exact List.getElem?_eq_getElem hi)).1
    refine c136 hS (by omega) hlen (by omega) (z01 _ _) (fun h' nx' hn hs => ?_)
    rw [show m - 1 - 2 - 1 = m - 4 by omega]
    exact hp row hrow h' nx' (by omega) (hsm.trans (hs.mono (by omega))))
  have hall : rows.all p = !rows.any (fun row => !p row) := by simp [List.all_eq_not_any_not]
  rw [hall]
  rcases Bool.eq_false_or_eq_true (inB lo hi rows.length) with h1 | h1 <;> simp (maxSteps := 10000000) (disch := omega) only [s106, k85, h1, k, z1p, bz, z02, Nat.reduceEqDiff, Nat.reduceLT, Nat.reduceAdd, Nat.reduceMul, Int.reduceToNat] <;> exact ⟨_, _, rfl⟩
def ints (xs : List Int) : List (List Value) := xs.map fun x => [vi x]
theorem z1x (xs : List Int) : (ints xs).length = xs.length := by simp [ints]
theorem c139 {S : Kn} (hS : S.Only [22]) {m : Nat} (hm : 1 ≤ m) (x : Int) {h : Hp} {nx b g : Nat} (hb : b < nx) (hr : rowL h b = some [.func (.func g) #[] #[]]) {y : Bool}
    (hp : z06 g [vi x] (z07 Tryz.prog vmL S (m - 1)) h nx = .gen (.bool y) h nx []) :
    z06 139 [vi x, .pointer (some ⟨b, 0, none⟩)] (z07 Tryz.prog vmL S m) h nx = .gen (.bool (!y)) h nx [] := by
  refine fun139.ground (hS _ _ _ _ (by decide)) (by omega) rfl (by simp) ?_
  simp (maxSteps := 10000000) (disch := omega) only [s139, hr, hp, z1p, List.nil_append, List.append_nil, List.cons_append, bz, z02, Nat.reduceEqDiff, Nat.reduceLT, Nat.reduceAdd, Nat.reduceMul, Int.reduceToNat]
  exact ⟨_, _, rfl⟩
theorem c108 {S : Kn} (hS : S.Only [22]) {m : Nat} (hm : 4 ≤ m) {xs : List Int} {h : Hp} {nx g : Nat} {v : Value} {p : Int → Bool} (hl : xs.length ≤ 140737488355328) (hv : Lst h nx 1 v (ints xs)) (lo hi : Int)
    (hp : ∀ x, x ∈ xs → ∀ h' nx', nx ≤ nx' → Same nx h h' → z06 g [vi x] (z07 Tryz.prog vmL S (m - 4)) h' nx' = .gen (.bool (p x)) h' nx' []) :
    z06 108 [.agg #[vi lo, vi hi], v, .func (.func g) #[] #[]] (z07 Tryz.prog vmL S m) h nx = .gen (.bool (inB lo hi xs.length && xs.all p)) h nx [] := by
  refine fun108.ground (hS _ _ _ _ (by decide)) (by omega) rfl (by simp) ?_
  have k85 := fun (h : Hp) (nx : Nat) (lo hi x : Int) => c85 hS (m := m - 1) (h := h) (nx := nx) (by omega) lo hi x
  obtain ⟨a, c, hve, hrs⟩ := hv.form
  rw [z1x] at hve
  subst hve
  have hsm : Same nx h (hset (hset h nx (.cells [vi lo, vi hi] none)) (nx + 1) (.cells [.func (.func g) #[] #[]] none)) := ((Same.refl nx h).set (Nat.le_refl _) _).set (by omega) _
  let q : List Value → Bool := fun row => match row with | [.int _ x] => !p x | _ => false
  have k := c138 hS (m := m - 1) (by omega) (fc := 139) (xs := []) (ys := [.pointer (some ⟨nx + 1, 0, none⟩)]) (p := q) (rows := ints xs) (by rw [z1x]; exact hl) (hv.same hsm (nx' := nx + 1 + 1) (by omega)) (fun row hrow => by
    obtain ⟨x, hx, rfl⟩ := List.mem_map.1 hrow
    refine c139 hS (by omega) x (by omega) (z01 _ _) ?_
    rw [show m - 1 - 2 - 1 = m - 4 by omega]
    exact hp x hx _ _ (by omega) hsm)
  have hall : xs.all p = !(ints xs).any q := by
    rw [ints, List.any_map, List.all_eq_not_any_not]
    rfl
  rw [hall]
  rcases Bool.eq_false_or_eq_true (inB lo hi xs.length) with h1 | h1 <;> simp (maxSteps := 10000000) (disch := omega) only [s108, k85, h1, k, z1p, bz, z02, Nat.reduceEqDiff, Nat.reduceLT, Nat.reduceAdd, Nat.reduceMul, Int.reduceToNat] <;> exact ⟨_, _, rfl⟩
def incB : List Int → Bool
  | [] => true
  | [_] => true
  | a :: b :: l => decide (a < b) && incB (b :: l)
theorem zib : ∀ (l : List Int), incB l = true ↔ ∀ (j : Nat) a b, l[j]? = some a → l[j + 1]? = some b → a < b := by
  intro l
  induction l with
  | nil => simp [incB]
  | cons a l ih =>
    cases l with
    | nil => simp [incB]
    | cons b l =>
      rw [incB, Bool.and_eq_true, ih]
      constructor
      · rintro ⟨h1, h2⟩ j x y hx hy
        cases j with
        | zero => simp at hx hy; subst hx hy; simpa using h1
        | succ j => exact h2 j x y (by simpa using hx) (by simpa using hy)
      · intro h
        exact ⟨by simpa using h 0 a b rfl rfl, fun j x y hx hy => h (j + 1) x y (by simpa using hx) (by simpa using hy)⟩
theorem zsc {ih : Rec} {xs : List Int} {z : Z} {vs : Vs} {h : Hp} {nx : Nat} {v : Value} (hl : xs.length ≤ 140737488355328) (hv : Lst h nx 1 v (ints xs))
    (g0 : vs 0 = some v) (g5 : vs 5 = some v) (g6 : vs 6 = some (vi xs.length)) (g7 : vs 7 = some (vi 0)) {r : R} (hr : z14 (sC Tryz.prog 24 24 ih z97) z vs h nx = r) :
    (incB xs = false ∧ ∃ vs', r = .ret z vs' h nx ∧ vs' 2 = some (.bool false)) ∨ (incB xs = true ∧ ∃ vs', r = .exi 0 z vs' h nx) := by
  subst hr
  refine z0n (Post := fun r => (incB xs = false ∧ ∃ vs', r = .ret z vs' h nx ∧ vs' 2 = some (.bool false)) ∨ (incB xs = true ∧ ∃ vs', r = .exi 0 z vs' h nx))
    (fun i z' vs' h' nx' => i ≤ xs.length ∧ z' = z ∧ h' = h ∧ nx' = nx ∧ vs' 0 = some v ∧ vs' 5 = some v ∧ vs' 6 = some (vi xs.length) ∧ vs' 7 = some (vi (i : Int)) ∧ ∀ (j : Nat) a b, j + 1 < i → xs[j]? = some a → xs[j + 1]? = some b → a < b) xs.length (by omega)
    ⟨Nat.zero_le _, rfl, rfl, rfl, g0, g5, g6, g7, fun j a b hj => by omega⟩ ?_
  rintro i z' vs' h' nx' ⟨hi, rfl, rfl, rfl, e0, e5, e6, e7, ef⟩
  obtain ⟨a, c, hve, _⟩ := hv.form
  rw [z1x] at hve
  subst hve
  have hlen := z1x xs
  by_cases hlt : i < xs.length
  · obtain ⟨_, rr, o, row, cs, rfl, hrn, hrow, hrl, hcs, ho, hseg⟩ := hv.load (i := i) hlt
    have h1 : ((i : Int) < (xs.length : Int)) := by omega
    rw [ints, List.getElem?_map, List.getElem?_eq_getElem hlt] at hrow
    cases hrow
    have hel : z09 false 1 cs (o + i * 1) = some (vi xs[i]) := z2w (row := []) hseg
    have hel' : cs[o + i * 1]? = some (vi xs[i]) := by rw [← z3k 1]; exact hel
    cases i with
    | zero =>
      left
      have h2 : ¬ ((0 : Int) < 0) := by omega
      have hel0 : cs[o]? = some (vi xs[0]) := by simpa using hel'
      have c0 : ((0 : Nat) : Int) = 0 := rfl
      rw [c0] at e7 h1
      refine ⟨hlt, z', _, h', nx', (by simp (maxSteps := 10000000) (disch := omega) only [z97, e0, e5, e6, e7, hcs, hel0, h1, h2, Int.toNat_zero, Nat.zero_mul, z1p, bz, z02, Nat.reduceEqDiff, Nat.reduceLT, Nat.reduceAdd, Nat.reduceMul, Int.reduceToNat]; exact rfl), by omega, rfl, rfl, rfl, ?_, ?_, ?_, ?_, fun j a b hj => by omega⟩
      · simp only [pg, Nat.reduceEqDiff, e0]
      · simp only [pg, Nat.reduceEqDiff, e5]
      · simp only [pg, Nat.reduceEqDiff, e6]
      · simp only [pg, Nat.reduceEqDiff]; rfl
    | succ i =>
      obtain ⟨_, rr2, o2, row2, cs2, heq, hrn2, hrow2, hrl2, hcs2, ho2, hseg2⟩ := hv.load (i := i) (by omega)
      cases heq
      rw [hcs] at hcs2
      cases hcs2
      rw [ints, List.getElem?_map, List.getElem?_eq_getElem (show i < xs.length by omega)] at hrow2
      have hrow3 : [vi xs[i]] = row2 := by simpa using hrow2
      subst hrow3
      have hel2 : z09 false 1 cs (o + i * 1) = some (vi xs[i]) := z2w (row := []) hseg2
      have hel2' : cs[o + i * 1]? = some (vi xs[i]) := by rw [← z3k 1]; exact hel2
      have h2 : ((0 : Int) < ((i + 1 : Nat) : Int)) := by omega
      have h4 : (((i + 1 : Nat) : Int) - 1) = (i : Int) := by omega
      by_cases h3 : xs[i + 1] ≤ xs[i]
      · right
        have e : ∃ vs2, sC Tryz.prog 24 24 ih z97 z' vs' h' nx' = .ret z' vs2 h' nx' ∧ vs2 2 = some (.bool false) := by
          refine ⟨_, by simp (maxSteps := 10000000) (disch := omega) only [z97, e0, e5, e6, e7, hcs, hel, hel', hel2, hel2', h1, h2, h3, h4, z1p, bz, z02, Nat.reduceEqDiff, Nat.reduceLT, Nat.reduceAdd, Nat.reduceMul, Int.reduceToNat]; exact rfl, ?_⟩
          simp only [pg, Nat.reduceEqDiff]
        obtain ⟨vs2, e, e2⟩ := e
        rw [e]
        refine ⟨trivial, .inl ⟨?_, vs2, rfl, e2⟩⟩
        rw [Bool.eq_false_iff]
        intro hc
        have := (zib xs).1 hc i _ _ (List.getElem?_eq_getElem (by omega)) (List.getElem?_eq_getElem hlt)
        omega
      · left
        refine ⟨hlt, z', _, h', nx', (by simp (maxSteps := 10000000) (disch := omega) only [z97, e0, e5, e6, e7, hcs, hel, hel', hel2, hel2', h1, h2, h3, h4, z1p, bz, z02, Nat.reduceEqDiff, Nat.reduceLT, Nat.reduceAdd, Nat.reduceMul, Int.reduceToNat]; exact rfl), by omega, rfl, rfl, rfl, ?_, ?_, ?_, ?_, fun j a b hj ha hb => ?_⟩
        · simp only [pg, Nat.reduceEqDiff, e0]
        · simp only [pg, Nat.reduceEqDiff, e5]
        · simp only [pg, Nat.reduceEqDiff, e6]
        · simp only [pg, Nat.reduceEqDiff]; rfl
        · by_cases hji : j = i
          · subst hji
            rw [List.getElem?_eq_getElem (by omega)] at ha hb
            cases ha; cases hb
            omega
          · exact ef j a b (by omega) ha hb
  · right
    have h1 : ¬ ((i : Int) < (xs.length : Int)) := by omega
    have e : ∃ vs2, sC Tryz.prog 24 24 ih z97 z' vs' h' nx' = .exi 0 z' vs2 h' nx' := ⟨_, by simp (maxSteps := 10000000) (disch := omega) only [z97, e0, e5, e6, e7, h1, bz, z02, Nat.reduceEqDiff, Nat.reduceLT, Nat.reduceAdd, Nat.reduceMul, Int.reduceToNat]; exact rfl⟩
    obtain ⟨vs2, e⟩ := e
    rw [e]
    refine ⟨trivial, .inr ⟨(zib xs).2 fun j a b ha hb => ef j a b ?_ ha hb, vs2, rfl⟩⟩
    have := (List.getElem?_eq_some_iff.1 hb).1
    omega
theorem c110 {S : Kn} (hS : S.Only [22]) {m : Nat} (hm : 1 ≤ m) {xs : List Int} {h : Hp} {nx : Nat} {v : Value} (hl : xs.length ≤ 140737488355328) (hv : Lst h nx 1 v (ints xs)) :
    z06 110 [v] (z07 Tryz.prog vmL S m) h nx = .gen (.bool (incB xs)) h nx [] := by
  refine fun110.ground (hS _ _ _ _ (by decide)) (by omega) rfl (by simp) ?_
  obtain ⟨a, c, hve, _⟩ := hv.form
  rw [z1x] at hve
  subst hve
  simp (maxSteps := 10000000) (disch := omega) only [s110, z1j, bz, z02, Nat.reduceEqDiff, Nat.reduceLT, Nat.reduceAdd, Nat.reduceMul, Int.reduceToNat]
  generalize hr : z14 _ _ _ _ _ = r
  rcases zsc hl hv rfl rfl rfl rfl hr with ⟨hf, vs', rfl, e2⟩ | ⟨hf, vs', rfl⟩
  · rw [hf]
    exact ⟨_, _, by simp (maxSteps := 10000000) (disch := omega) only [e2, bz, z02, Nat.reduceEqDiff, Nat.reduceLT, Nat.reduceAdd, Nat.reduceMul, Int.reduceToNat]; rfl⟩
  · rw [hf]
    exact ⟨_, _, by simp (maxSteps := 10000000) (disch := omega) only [bz, z02, Nat.reduceEqDiff, Nat.reduceLT, Nat.reduceAdd, Nat.reduceMul, Int.reduceToNat]; rfl⟩
theorem ztf {h : Hp} {nx sz : Nat} {v : Value} {rows rows' : List (List Value)} (a : Lst h nx sz v rows) (b : Lst h nx sz v rows') : rows = rows' := by
  obtain ⟨x, c, e1, f1⟩ := a.form
  obtain ⟨y, d, e2, f2⟩ := b.form
  rw [e1] at e2
  injection e2 with q1 q2 q3
  subst q1
  refine List.ext_getElem? fun i => ?_
  by_cases hi : i < rows.length
  · have g1 := List.getElem?_eq_getElem hi
    have g2 := List.getElem?_eq_getElem (l := rows') (i := i) (by omega)
    obtain ⟨_, r, o, cs, k1, _, k2, _, k3⟩ := f1 i _ g1
    obtain ⟨_, r2, o2, cs2, m1, _, m2, _, m3⟩ := f2 i _ g2
    rw [k1] at m1
    cases m1
    rw [k2] at m2
    cases m2
    rw [g1, g2, ← k3, ← m3]
  · rw [List.getElem?_eq_none (by omega), List.getElem?_eq_none (by omega)]
theorem zoh : ∀ {a b : List Int}, ints a = ints b → a = b := by
  intro a
  induction a with
  | nil => intro b h; cases b with
    | nil => rfl
    | cons y b => cases h
  | cons x a ih =>
    intro b h
    cases b with
    | nil => cases h
    | cons y b =>
      have h2 : [vi x] :: ints a = [vi y] :: ints b := h
      injection h2 with e1 e2
      injection e1 with e3
      injection e3 with _ e4
      rw [e4, ih e2]
open Classical in
noncomputable def zsOf (h : Hp) (nx : Nat) (z : Value) : List Int := if hz : ∃ zs, Lst h nx 1 z (ints zs) then hz.choose else []
theorem zjo {h : Hp} {nx : Nat} {z : Value} {zs : List Int} (k : Lst h nx 1 z (ints zs)) : zsOf h nx z = zs := by
  have hz : ∃ zs, Lst h nx 1 z (ints zs) := ⟨zs, k⟩
  unfold zsOf
  rw [dif_pos hz]
  exact zoh (ztf hz.choose_spec k)
structure Pc where
  size : Int
  weight : Int
  worth : Int
  alone : Bool
def Pc.row (x : Pc) : List Value := [vi x.size, vi x.weight, vi x.worth, .bool x.alone]
def Pc.ok (x : Pc) : Bool := inB 1 500 x.size && (inB 1 5000 x.weight && inB 0 10000 x.worth)
structure Kd where
  room : Int
  most : Int
  zv : Value
  zs : List Int
  step : Int
def Kd.row (x : Kd) : List Value := [vi x.room, vi x.most, x.zv, vi x.step]
def zbt (room most : Int) (zs : List Int) (step : Int) : Bool := inB 1 500 room && (inB 1 5000 most && ((inB 5 5 zs.length && zs.all (inB 1 1000)) && inB 0 1000 step))
def Kd.ok (x : Kd) : Bool := zbt x.room x.most x.zs x.step
structure Bk where
  P : List Pc
  pv : Value
  K : List Kd
  kv : Value
  grams : Int
  free : Int
  unit : Int
  fee : Int
  S : List Int
  sv : Value
def Bk.cells (b : Bk) : List Value := [b.pv, b.kv, vi b.grams, vi b.free, vi b.unit, vi b.fee, b.sv]
structure Bk.At (b : Bk) (h : Hp) (nx : Nat) : Prop where
  pos : 1 ≤ nx
  lim : rowL h 0 = some limL
  p : Lst h nx 4 b.pv (b.P.map Pc.row)
  k : Lst h nx 4 b.kv (b.K.map Kd.row)
  z : ∀ x, x ∈ b.K → Lst h nx 1 x.zv (ints x.zs)
  s : Lst h nx 1 b.sv (ints b.S)
  pl : b.P.length ≤ 140737488355328
  kl : b.K.length ≤ 140737488355328
  zl : ∀ x, x ∈ b.K → x.zs.length ≤ 140737488355328
  sl : b.S.length ≤ 140737488355328
theorem Bk.At.same {b : Bk} {h h' : Hp} {nx nx' : Nat} (k : b.At h nx) (a : Same nx h h') (hn : nx ≤ nx') : b.At h' nx' :=
  ⟨by have := k.pos; omega, by rw [z0w a (by have := k.pos; omega)]; exact k.lim, k.p.same a hn, k.k.same a hn, fun x hx => (k.z x hx).same a hn, k.s.same a hn, k.pl, k.kl, k.zl, k.sl⟩
theorem c107 {S : Kn} (hS : S.Only [22]) {m : Nat} (hm : 7 ≤ m) {h : Hp} {nx : Nat} (hn : 1 ≤ nx) (hlim : rowL h 0 = some limL) (room most step : Int) {zv : Value} {zs : List Int} (hz : Lst h nx 1 zv (ints zs)) (hl : zs.length ≤ 140737488355328) :
    z06 107 [.agg #[vi room, vi most, zv, vi step]] (z07 Tryz.prog vmL S m) h nx = .gen (.bool (zbt room most zs step)) h nx [] := by
  refine fun107.ground (hS _ _ _ _ (by decide)) (by omega) rfl (by simp) ?_
  have k85 := fun (h : Hp) (nx : Nat) (lo hi x : Int) => c85 hS (m := m - 1) (h := h) (nx := nx) (by omega) lo hi x
  have k137 := fun (h : Hp) (nx : Nat) (n : Int) => c137 hS (m := m - 1) (h := h) (nx := nx) (by omega) n
  have hsm : Same nx h (hset h nx (.cells [vi room, vi most, zv, vi step] none)) := (Same.refl nx h).set (Nat.le_refl _) _
  have k := c108 hS (m := m - 1) (by omega) (g := 109) (p := inB 1 1000) hl (hz.same hsm (nx' := nx + 1) (by omega)) 5 5 (fun x _ h' nx' hn' hs => c109 hS (by omega) (by omega) (by rw [z0w hs (by omega), z0a _ (by omega)]; exact hlim) x)
  unfold zbt
  rcases Bool.eq_false_or_eq_true (inB 1 500 room) with h1 | h1 <;> rcases Bool.eq_false_or_eq_true (inB 1 5000 most) with h2 | h2 <;> rcases Bool.eq_false_or_eq_true (inB 5 5 zs.length && zs.all (inB 1 1000)) with h3 | h3 <;> rcases Bool.eq_false_or_eq_true (inB 0 1000 step) with h4 | h4 <;> rw [h3] at k ⊢ <;> simp (maxSteps := 10000000) (disch := omega) only [s107, k85, k137, k, hlim, h1, h2, h4, bz, z02, Nat.reduceEqDiff, Nat.reduceLT, Nat.reduceAdd, Nat.reduceMul, Int.reduceToNat] <;> exact ⟨_, _, rfl⟩
set_option maxRecDepth 20000
set_option maxHeartbeats 16000000
def zq4 (r : List Value) : Bool := match r with | [.int _ s, .int _ w, .int _ o, .bool _] => inB 1 500 s && (inB 1 5000 w && inB 0 10000 o) | _ => false
noncomputable def zoe (h : Hp) (nx : Nat) (r : List Value) : Bool := match r with | [.int _ a, .int _ b, z, .int _ s] => zbt a b (zsOf h nx z) s | _ => false
def Bk.valid (b : Bk) : Bool := (inB 1 7 b.P.length && b.P.all Pc.ok) && ((inB 1 4 b.K.length && b.K.all Kd.ok) && (inB 1 5000 b.grams && (inB 0 10000 b.free && (inB 1 10000 b.unit && (inB 0 1000 b.fee && ((inB 1 5 b.S.length && b.S.all (inB 1 1000)) && incB b.S))))))
theorem c81 {S : Kn} (hS : S.Only [22]) {m : Nat} (hm : 12 ≤ m) {h : Hp} {nx : Nat} {b : Bk} (hb : b.At h nx) :
    z06 81 [.agg b.cells.toArray] (z07 Tryz.prog vmL S m) h nx = .gen (.bool b.valid) h nx [] := by
  refine fun81.ground (hS _ _ _ _ (by decide)) (by omega) rfl (by simp) ?_
  have k85 := fun (h : Hp) (nx : Nat) (lo hi x : Int) => c85 hS (m := m - 1) (h := h) (nx := nx) (by omega) lo hi x
  have hsm : Same nx h (hset h nx (.cells b.cells none)) := (Same.refl nx h).set (Nat.le_refl _) _
  have hb1 := hb.same hsm (nx' := nx + 1) (by omega)
  have kp := c104 hS (m := m - 1) (by omega) (g := 105) (p := zq4) (rows := b.P.map Pc.row) (by simpa using hb.pl) hb1.p 1 7 (fun row hrow h' nx' hn' hs => by
    obtain ⟨x, hx, rfl⟩ := List.mem_map.1 hrow
    exact c105 hS (by omega) (by have := hb.pos; omega) (by rw [z0w hs (by omega)]; exact hb1.lim) x.size x.weight x.worth x.alone)
  have kk := c106 hS (m := m - 1) (by omega) (g := 107) (p := zoe (hset h nx (.cells b.cells none)) (nx + 1)) (rows := b.K.map Kd.row) (by simpa using hb.kl) hb1.k 1 4 (fun row hrow h' nx' hn' hs => by
    obtain ⟨x, hx, rfl⟩ := List.mem_map.1 hrow
    have hz := hb1.z x hx
    have e : zoe (hset h nx (.cells b.cells none)) (nx + 1) (Kd.row x) = zbt x.room x.most x.zs x.step := by
      show zbt x.room x.most (zsOf _ _ x.zv) x.step = _
      rw [zjo hz]
    rw [e]
    exact c107 hS (by omega) (by omega) (by rw [z0w hs (by omega)]; exact hb1.lim) x.room x.most x.step (hz.same hs hn') (hb.zl x hx))
  have ks := c108 hS (m := m - 1) (by omega) (g := 109) (p := inB 1 1000) hb.sl hb1.s 1 5 (fun x _ h' nx' hn' hs => c109 hS (by omega) (by omega) (by rw [z0w hs (by omega)]; exact hb1.lim) x)
  have ki := c110 hS (m := m - 1) (by omega) hb.sl hb1.s
  have ep : (b.P.map Pc.row).all zq4 = b.P.all Pc.ok := by rw [List.all_map]; rfl
  have ek : (b.K.map Kd.row).all (zoe (hset h nx (.cells b.cells none)) (nx + 1)) = b.K.all Kd.ok := by
    rw [List.all_map]
    have h1 : ∀ x ∈ b.K, (zoe (hset h nx (.cells b.cells none)) (nx + 1) ∘ Kd.row) x = Kd.ok x := fun x hx => by
      show zbt x.room x.most (zsOf _ _ x.zv) x.step = zbt x.room x.most x.zs x.step
      rw [zjo (hb1.z x hx)]
    rw [Bool.eq_iff_iff, List.all_eq_true, List.all_eq_true]
    exact ⟨fun q x hx => (h1 x hx).symm.trans (q x hx), fun q x hx => (h1 x hx).trans (q x hx)⟩
  rw [ep, List.length_map] at kp
  rw [ek, List.length_map] at kk
  have hlim := hb.lim
  have hpos := hb.pos
  unfold Bk.valid
  have hcell : b.cells = [b.pv, b.kv, vi b.grams, vi b.free, vi b.unit, vi b.fee, b.sv] := rfl
  rw [hcell] at kp kk ks ki ⊢
  rcases Bool.eq_false_or_eq_true (inB 1 7 b.P.length && b.P.all Pc.ok) with x1 | x1
  rotate_left
  · rw [x1] at kp ⊢
    simp (maxSteps := 10000000) (disch := omega) only [s81, k85, kp, kk, ks, ki, hlim,  bz, z02, Nat.reduceEqDiff, Nat.reduceLT, Nat.reduceAdd, Nat.reduceMul, Int.reduceToNat]
    exact ⟨_, _, rfl⟩
  rw [x1] at kp ⊢
  rcases Bool.eq_false_or_eq_true (inB 1 4 b.K.length && b.K.all Kd.ok) with x2 | x2
  rotate_left
  · rw [x2] at kk ⊢
    simp (maxSteps := 10000000) (disch := omega) only [s81, k85, kp, kk, ks, ki, hlim,  bz, z02, Nat.reduceEqDiff, Nat.reduceLT, Nat.reduceAdd, Nat.reduceMul, Int.reduceToNat]
    exact ⟨_, _, rfl⟩
  rw [x2] at kk ⊢
  rcases Bool.eq_false_or_eq_true (inB 1 5000 b.grams) with x3 | x3
  rotate_left
  · simp (maxSteps := 10000000) (disch := omega) only [s81, k85, kp, kk, ks, ki, hlim, x3, bz, z02, Nat.reduceEqDiff, Nat.reduceLT, Nat.reduceAdd, Nat.reduceMul, Int.reduceToNat]
    exact ⟨_, _, rfl⟩
  rcases Bool.eq_false_or_eq_true (inB 0 10000 b.free) with x4 | x4
  rotate_left
  · simp (maxSteps := 10000000) (disch := omega) only [s81, k85, kp, kk, ks, ki, hlim, x3, x4, bz, z02, Nat.reduceEqDiff, Nat.reduceLT, Nat.reduceAdd, Nat.reduceMul, Int.reduceToNat]
    exact ⟨_, _, rfl⟩
  rcases Bool.eq_false_or_eq_true (inB 1 10000 b.unit) with x5 | x5
  rotate_left
  · simp (maxSteps := 10000000) (disch := omega) only [s81, k85, kp, kk, ks, ki, hlim, x3, x4, x5, bz, z02, Nat.reduceEqDiff, Nat.reduceLT, Nat.reduceAdd, Nat.reduceMul, Int.reduceToNat]
    exact ⟨_, _, rfl⟩
  rcases Bool.eq_false_or_eq_true (inB 0 1000 b.fee) with x6 | x6
  rotate_left
  · simp (maxSteps := 10000000) (disch := omega) only [s81, k85, kp, kk, ks, ki, hlim, x3, x4, x5, x6, bz, z02, Nat.reduceEqDiff, Nat.reduceLT, Nat.reduceAdd, Nat.reduceMul, Int.reduceToNat]
    exact ⟨_, _, rfl⟩
  rcases Bool.eq_false_or_eq_true (inB 1 5 b.S.length && b.S.all (inB 1 1000)) with x7 | x7
  rotate_left
  · rw [x7] at ks ⊢
    simp (maxSteps := 10000000) (disch := omega) only [s81, k85, kp, kk, ks, ki, hlim, x3, x4, x5, x6, bz, z02, Nat.reduceEqDiff, Nat.reduceLT, Nat.reduceAdd, Nat.reduceMul, Int.reduceToNat]
    exact ⟨_, _, rfl⟩
  rw [x7] at ks ⊢
  rcases Bool.eq_false_or_eq_true (incB b.S) with x8 | x8
  rotate_left
  · rw [x8] at ki ⊢
    simp (maxSteps := 10000000) (disch := omega) only [s81, k85, kp, kk, ks, ki, hlim, x3, x4, x5, x6, bz, z02, Nat.reduceEqDiff, Nat.reduceLT, Nat.reduceAdd, Nat.reduceMul, Int.reduceToNat]
    exact ⟨_, _, rfl⟩
  rw [x8] at ki ⊢
  simp (maxSteps := 10000000) (disch := omega) only [s81, k85, kp, kk, ks, ki, hlim, x3, x4, x5, x6, bz, z02, Nat.reduceEqDiff, Nat.reduceLT, Nat.reduceAdd, Nat.reduceMul, Int.reduceToNat]
  exact ⟨_, _, rfl⟩
set_option maxRecDepth 10000
set_option maxHeartbeats 8000000
structure Fu where
  g : Nat
  xs : List Value
  ys : List Value
  y : Bool
def Fu.row (f : Fu) : List Value := [.func (.func f.g) f.xs.toArray f.ys.toArray]
theorem zug {ih : Rec} {F : List Fu} {z : Z} {vs : Vs} {h : Hp} {nx : Nat} {v : Value} (hl : F.length ≤ 140737488355328) (hv : Lst h nx 1 v (F.map Fu.row))
    (hp : ∀ f, f ∈ F → z06 f.g (f.xs ++ f.ys) ih h nx = .gen (.bool f.y) h nx [])
    (g10 : vs 10 = some v) (g11 : vs 11 = some (vi F.length)) (g12 : vs 12 = some (vi 0)) {r : R} (hr : z14 (sC Tryz.prog 20 20 ih zgx) z vs h nx = r) :
    (F.all Fu.y = false ∧ ∃ vs', r = .ret z vs' h nx ∧ vs' 4 = some (vi 61)) ∨ (F.all Fu.y = true ∧ ∃ vs', r = .exi 0 z vs' h nx) := by
  subst hr
  refine z0n (Post := fun r => (F.all Fu.y = false ∧ ∃ vs', r = .ret z vs' h nx ∧ vs' 4 = some (vi 61)) ∨ (F.all Fu.y = true ∧ ∃ vs', r = .exi 0 z vs' h nx))
    (fun i z' vs' h' nx' => i ≤ F.length ∧ z' = z ∧ h' = h ∧ nx' = nx ∧ vs' 10 = some v ∧ vs' 11 = some (vi F.length) ∧ vs' 12 = some (vi (i : Int)) ∧ ∀ (j : Nat) f, j < i → F[j]? = some f → f.y = true) F.length (by omega)
    ⟨Nat.zero_le _, rfl, rfl, rfl, g10, g11, g12, fun j f hj => by omega⟩ ?_
  rintro i z' vs' h' nx' ⟨hi, rfl, rfl, rfl, e10, e11, e12, ef⟩
  obtain ⟨a, c, hve, _⟩ := hv.form
  rw [List.length_map] at hve
  subst hve
  by_cases hlt : i < F.length
  · obtain ⟨_, rr, o, row, cs, rfl, hrn, hrow, hrl, hcs, ho, hseg⟩ := hv.load (i := i) hlt
    have h1 : ((i : Int) < (F.length : Int)) := by omega
    rw [List.getElem?_map, List.getElem?_eq_getElem hlt] at hrow
    cases hrow
    have hc := hp F[i] (List.getElem_mem hlt)
    have hel : cs[o + i * 1]? = some (.func (.func F[i].g) F[i].xs.toArray F[i].ys.toArray) := by rw [← z3k 1]; exact z2w (row := []) hseg
    rcases Bool.eq_false_or_eq_true F[i].y with hb | hb
    · left
      rw [hb] at hc
      refine ⟨hlt, z', _, h', nx', (by simp (maxSteps := 10000000) (disch := omega) only [zgx, e10, e11, e12, hcs, hel, h1, hc, z1p, List.append_nil, bz, z02, Nat.reduceEqDiff, Nat.reduceLT, Nat.reduceAdd, Nat.reduceMul, Int.reduceToNat]; exact rfl), by omega, rfl, rfl, rfl, ?_, ?_, ?_, fun j f hj hf => ?_⟩
      · simp only [pg, Nat.reduceEqDiff, e10]
      · simp only [pg, Nat.reduceEqDiff, e11]
      · simp only [pg, Nat.reduceEqDiff]; rfl
      · by_cases hji : j = i
        · subst hji; rw [List.getElem?_eq_getElem hlt] at hf; cases hf; exact hb
        · exact ef j f (by omega) hf
    · right
      rw [hb] at hc
      have e : ∃ vs2, sC Tryz.prog 20 20 ih zgx z' vs' h' nx' = .ret z' vs2 h' nx' ∧ vs2 4 = some (vi 61) := by
        refine ⟨_, by simp (maxSteps := 10000000) (disch := omega) only [zgx, e10, e11, e12, hcs, hel, h1, hc, z1p, List.append_nil, bz, z02, Nat.reduceEqDiff, Nat.reduceLT, Nat.reduceAdd, Nat.reduceMul, Int.reduceToNat]; exact rfl, ?_⟩
        simp only [pg, Nat.reduceEqDiff]
      obtain ⟨vs2, e, e4⟩ := e
      rw [e]
      refine ⟨trivial, .inl ⟨?_, vs2, rfl, e4⟩⟩
      rw [List.all_eq_false]
      exact ⟨F[i], List.getElem_mem hlt, by simp [hb]⟩
  · right
    have h1 : ¬ ((i : Int) < (F.length : Int)) := by omega
    have e : ∃ vs2, sC Tryz.prog 20 20 ih zgx z' vs' h' nx' = .exi 0 z' vs2 h' nx' := ⟨_, by simp (maxSteps := 10000000) (disch := omega) only [zgx, e10, e11, e12, h1, bz, z02, Nat.reduceEqDiff, Nat.reduceLT, Nat.reduceAdd, Nat.reduceMul, Int.reduceToNat]; exact rfl⟩
    obtain ⟨vs2, e⟩ := e
    rw [e]
    refine ⟨trivial, .inr ⟨?_, vs2, rfl⟩⟩
    rw [List.all_eq_true]
    intro f hf
    obtain ⟨j, hj, hjr⟩ := List.getElem_of_mem hf
    exact ef j f (by omega) (by rw [← hjr]; exact List.getElem?_eq_getElem hj)
def z2e (ok all : Bool) : Int := if ok then (if all then 0 else 61) else 60
theorem c52 {S : Kn} (hS : S.Only [22]) {m : Nat} (hm : 13 ≤ m) {h : Hp} {nx : Nat} {b : Bk} (hb : b.At h nx) {F : List Fu} {v : Value} (hl : F.length ≤ 140737488355328) (hv : Lst h nx 1 v (F.map Fu.row))
    (hp : b.valid = true → ∀ f, f ∈ F → ∀ h' nx', nx ≤ nx' → Same nx h h' → z06 f.g (f.xs ++ f.ys) (z07 Tryz.prog vmL S (m - 1)) h' nx' = .gen (.bool f.y) h' nx' []) :
    z06 52 [.agg b.cells.toArray, v] (z07 Tryz.prog vmL S m) h nx = .gen (vi (z2e b.valid (F.all Fu.y))) h nx [] := by
  refine fun52.ground (hS _ _ _ _ (by decide)) (by omega) rfl (by simp) ?_
  have hsm : Same nx h (hset h nx (.cells b.cells none)) := (Same.refl nx h).set (Nat.le_refl _) _
  have k81 := c81 hS (m := m - 1) (by omega) (hb.same hsm (nx' := nx + 1) (by omega))
  obtain ⟨a, c, hve, _⟩ := hv.form
  rw [List.length_map] at hve
  subst hve
  have hcell : b.cells = [b.pv, b.kv, vi b.grams, vi b.free, vi b.unit, vi b.fee, b.sv] := rfl
  unfold z2e
  rcases Bool.eq_false_or_eq_true b.valid with hx | hx
  · rw [hx] at k81
    have hv' := hv.same hsm (nx' := nx + 1) (by omega)
    have hp' := fun f hf => hp hx f hf (hset h nx (.cells b.cells none)) (nx + 1) (by omega) hsm
    rw [hcell] at k81 hv' hp' ⊢
    simp (maxSteps := 10000000) (disch := omega) only [s52, z1j, k81, hx, bz, z02, Nat.reduceEqDiff, Nat.reduceLT, Nat.reduceAdd, Nat.reduceMul, Int.reduceToNat]
    generalize hr : z14 _ _ _ _ _ = r
    rcases zug (F := F) hl hv' hp' rfl rfl rfl hr with ⟨hf, vs', rfl, e4⟩ | ⟨hf, vs', rfl⟩
    · rw [hf]
      exact ⟨_, _, by simp (maxSteps := 10000000) (disch := omega) only [e4, Bool.false_eq_true, bz, z02, Nat.reduceEqDiff, Nat.reduceLT, Nat.reduceAdd, Nat.reduceMul, Int.reduceToNat]; rfl⟩
    · rw [hf]
      exact ⟨_, _, by simp (maxSteps := 10000000) (disch := omega) only [bz, z02, Nat.reduceEqDiff, Nat.reduceLT, Nat.reduceAdd, Nat.reduceMul, Int.reduceToNat]; rfl⟩
  · rw [hx] at k81
    rw [hcell] at k81 ⊢
    simp (maxSteps := 10000000) (disch := omega) only [s52, k81, hx, Bool.false_eq_true, bz, z02, Nat.reduceEqDiff, Nat.reduceLT, Nat.reduceAdd, Nat.reduceMul, Int.reduceToNat]
    exact ⟨_, _, rfl⟩
theorem z1k (h : Hp) (r : Nat) (x y : Row) : hset (hset h r x) r y = hset h r y := by
  funext s
  show (if s = r then some y else if s = r then some x else h s) = if s = r then some y else h s
  by_cases q : s = r <;> simp [q]
theorem zny {P : Program} (t : TypeId) (x y : Operand) (a : Nat) (ha : a < 9223372036854775808) : binV P .and t x y (.int .i64 a) (.int .i64 1) = some (.int .i64 ((a &&& 1 : Nat) : Int)) := zrn t x y a 1 ha (by omega)
theorem zga (s n : Nat) : ((((s >>> n) &&& 1 : Nat) : Int) == 1) = s.testBit n := by
  rw [Nat.testBit, Nat.and_comm 1]
  have h : (s >>> n) &&& 1 = (s >>> n) % 2 := Nat.and_one_is_mod _
  rw [h]
  rcases Nat.mod_two_eq_zero_or_one (s >>> n) with q | q <;> rw [q] <;> rfl
theorem c129 {S : Kn} (hS : S.Only [22]) {m : Nat} (hm : 1 ≤ m) (s n : Nat) (hs : s < 4611686018427387904) (hn : n ≤ 62) {h : Hp} {nx : Nat} : z06 129 [vi s, vi n] (z07 Tryz.prog vmL S m) h nx = .gen (.bool (s.testBit n)) h nx [] := by
  refine fun129.ground (hS _ _ _ _ (by decide)) (by omega) rfl (by simp) ?_
  have hlt : s >>> n < 9223372036854775808 := Nat.lt_of_le_of_lt (Nat.shiftRight_le s n) (by omega)
  simp (maxSteps := 10000000) (disch := omega) only [s129, zrl, zny, zga, bz, z02, Nat.reduceEqDiff, Nat.reduceLT, Nat.reduceAdd, Nat.reduceMul, Int.reduceToNat]
  exact ⟨_, _, rfl⟩
theorem c121 {S : Kn} (hS : S.Only [22]) {m : Nat} (hm : 1 ≤ m) (s n : Nat) (hs : s < 4611686018427387904) (hn : n ≤ 60) {h : Hp} {nx : Nat} : z06 121 [vi s, vi n] (z07 Tryz.prog vmL S m) h nx = .gen (vi ((s ||| 2 ^ n : Nat) : Int)) h nx [] := by
  refine fun121.ground (hS _ _ _ _ (by decide)) (by omega) rfl (by simp) ?_
  have h2 : 2 ^ n < 4611686018427387904 := by
    have : 2 ^ n ≤ 2 ^ 60 := Nat.pow_le_pow_right (by omega) hn
    omega
  simp (maxSteps := 10000000) (disch := omega) only [s121, zrm, ztp, bz, z02, Nat.reduceEqDiff, Nat.reduceLT, Nat.reduceAdd, Nat.reduceMul, Int.reduceToNat]
  exact ⟨_, _, rfl⟩
def z08 (f : Nat → Bool) : List Value := [.bool (f 0), .bool (f 1), .bool (f 2), .bool (f 3), .bool (f 4), .bool (f 5), .bool (f 6)]
theorem zbi (f : Nat → Bool) (i : Nat) (hi : i < 7) (b : Bool) : z0y (z08 f) i [.bool b] = some (z08 fun k => if k = i then b else f k) := by
  have : i = 0 ∨ i = 1 ∨ i = 2 ∨ i = 3 ∨ i = 4 ∨ i = 5 ∨ i = 6 := by omega
  rcases this with rfl | rfl | rfl | rfl | rfl | rfl | rfl <;> rfl
theorem zbj {f g : Nat → Bool} (h : ∀ k, k < 7 → f k = g k) : z08 f = z08 g := by
  unfold z08
  rw [h 0 (by omega), h 1 (by omega), h 2 (by omega), h 3 (by omega), h 4 (by omega), h 5 (by omega), h 6 (by omega)]
theorem zsb {S : Kn} (hS : S.Only [22]) {m : Nat} (hm : 1 ≤ m) {s : Nat} (hs : s < 4611686018427387904) {z : Z} {vs : Vs} {h : Hp} {nx p p2 : Nat} (hz : z.n0 ≤ p) {f0 : Nat → Bool}
    (g0 : vs 0 = some (vi s)) (g3 : vs 3 = some (.pointer (some ⟨p, 0, none⟩))) (g5 : vs 5 = some (vi 0)) (g2 : vs 2 = some (.pointer (some ⟨p2, 0, none⟩))) {r : R} (hr : z14 (sC Tryz.prog 15 15 (z07 Tryz.prog vmL S m) zfc) z vs (hset h p (.cells (z08 f0) none)) nx = r) :
    ∃ vs', r = .exi 0 z vs' (hset h p (.cells (z08 s.testBit) none)) nx ∧ vs' 3 = some (.pointer (some ⟨p, 0, none⟩)) ∧ vs' 2 = some (.pointer (some ⟨p2, 0, none⟩)) := by
  subst hr
  refine z0n (Post := fun r => ∃ vs', r = .exi 0 z vs' (hset h p (.cells (z08 s.testBit) none)) nx ∧ vs' 3 = some (.pointer (some ⟨p, 0, none⟩)) ∧ vs' 2 = some (.pointer (some ⟨p2, 0, none⟩)))
    (fun i z' vs' h' nx' => i ≤ 7 ∧ z' = z ∧ nx' = nx ∧ vs' 0 = some (vi s) ∧ vs' 3 = some (.pointer (some ⟨p, 0, none⟩)) ∧ vs' 5 = some (vi (i : Int)) ∧ vs' 2 = some (.pointer (some ⟨p2, 0, none⟩)) ∧ ∃ f, h' = hset h p (.cells (z08 f) none) ∧ ∀ k, k < i → f k = s.testBit k) 7 (by omega)
    ⟨by omega, rfl, rfl, g0, g3, g5, g2, f0, rfl, fun k hk => by omega⟩ ?_
  rintro i z' vs' h' nx' ⟨hi, rfl, rfl, e0, e3, e5, e2, f, rfl, ef⟩
  have k129 := fun (h : Hp) (nx : Nat) (hi : i ≤ 62) => c129 hS hm s i hs hi (h := h) (nx := nx)
  by_cases hlt : i < 7
  · left
    have h1 : (i : Int) < 7 := by omega
    have kk := fun h nx => k129 h nx (by omega)
    have hst : ∀ b : Bool, storeAt 1 (hset h p (.cells (z08 f) none)) p (0 + i * 1) (.bool b) = .wr (hset h p (.cells (z08 fun k => if k = i then b else f k) none)) p := by
      intro b
      unfold storeAt
      rw [z1c]
      simp only [cellsL, List.length_cons, List.length_nil, Nat.zero_add, Nat.mul_one, zbi f i hlt b, z1k]
      rfl
    have hst' : ∀ b : Bool, storeAt 1 (hset h p (.cells (z08 f) none)) p (i * 1) (.bool b) = .wr (hset h p (.cells (z08 fun k => if k = i then b else f k) none)) p := fun b => by have := hst b; rwa [Nat.zero_add] at this
    have hix : z6u 7 (.int .i64 (i : Int)) = some i := z8m 7 .i64 i hlt
    refine ⟨hlt, z', _, _, nx', (by simp (maxSteps := 10000000) (disch := omega) only [zfc, e0, e3, e5, h1, kk, storeO, hix, hst', z26, bz, z02, Nat.reduceEqDiff, Nat.reduceLT, Nat.reduceAdd, Nat.reduceMul, Int.reduceToNat]; exact rfl), by omega, rfl, rfl, ?_, ?_, ?_, ?_, _, rfl, fun k hk => ?_⟩
    · simp only [pq, Nat.reduceEqDiff, e0]
    · simp only [pq, Nat.reduceEqDiff, e3]
    · simp only [pq, Nat.reduceEqDiff]; rfl
    · simp only [pq, Nat.reduceEqDiff, e2]
    · by_cases hki : k = i
      · simp [hki]
      · simp [hki, ef k (by omega)]
  · right
    have h1 : ¬ ((i : Int) < 7) := by omega
    have e : ∃ vs2, sC Tryz.prog 15 15 (z07 Tryz.prog vmL S m) zfc z' vs' (hset h p (.cells (z08 f) none)) nx' = .exi 0 z' vs2 (hset h p (.cells (z08 f) none)) nx' ∧ vs2 3 = some (.pointer (some ⟨p, 0, none⟩)) ∧ vs2 2 = some (.pointer (some ⟨p2, 0, none⟩)) := by
      refine ⟨_, by simp (maxSteps := 10000000) (disch := omega) only [zfc, e0, e3, e5, h1, bz, z02, Nat.reduceEqDiff, Nat.reduceLT, Nat.reduceAdd, Nat.reduceMul, Int.reduceToNat]; exact rfl, ?_, ?_⟩
      · simp only [pg, Nat.reduceEqDiff, e3]
      · simp only [pg, Nat.reduceEqDiff, e2]
    obtain ⟨vs2, e, q3, q2⟩ := e
    rw [e]
    refine ⟨trivial, vs2, ?_, q3, q2⟩
    rw [zbj fun k hk => ef k (by omega)]
theorem zl1 (f : Nat → Bool) : z09 true 7 (z08 f) 0 = some (.agg (z08 f).toArray) := rfl
theorem ztt (f g : Nat → Bool) : z0y (z08 f) 0 (z08 g) = some (z08 g) := rfl
theorem noB : ([.bool false, .bool false, .bool false, .bool false, .bool false, .bool false, .bool false] : List Value) = z08 fun _ => false := rfl
theorem zp0 (f : Nat → Bool) : (z08 f).length = 7 := rfl
theorem c111 {S : Kn} (hS : S.Only [22]) {m : Nat} (hm : 2 ≤ m) (s : Nat) (hs : s < 4611686018427387904) {h : Hp} {nx : Nat} : z06 111 [vi s] (z07 Tryz.prog vmL S m) h nx = .gen (.agg (z08 s.testBit).toArray) h nx [] := by
  refine fun111.ground (hS _ _ _ _ (by decide)) (by omega) rfl (by simp) ?_
  simp (maxSteps := 10000000) (disch := omega) only [s111, z1j, noB, bz, z02, Nat.reduceEqDiff, Nat.reduceLT, Nat.reduceAdd, Nat.reduceMul, Int.reduceToNat]
  generalize hr : z14 _ _ _ _ _ = r
  obtain ⟨vs', rfl, e3, e2⟩ := zsb hS (by omega) hs (p2 := nx) (by simp) rfl rfl rfl rfl hr
  have hn : nx ≠ nx + 1 := by omega
  exact ⟨_, _, by simp (maxSteps := 10000000) (disch := omega) only [e3, e2, storeO, zl1, ztt, zp0, storeAt, List.toList_toArray, bz, z02, Nat.reduceEqDiff, Nat.reduceLT, Nat.reduceAdd, Nat.reduceMul, Int.reduceToNat]; rfl⟩
def z0f (b : Bk) (f : Nat → Bool) : List Value := b.cells ++ z08 f
theorem zjk {b : Bk} {h : Hp} {nx : Nat} (hb : b.At h nx) (h1 : 0 < b.P.length) (h2 : 0 < b.K.length) (h3 : 0 < b.S.length) (f : Nat → Bool) : ∀ v, v ∈ z0f b f → oldV nx v := by
  have key : ∀ {sz : Nat} {v : Value} {rows : List (List Value)}, Lst h nx sz v rows → 0 < rows.length → oldV nx v := by
    intro sz v rows k hl
    obtain ⟨a, c, e, hr⟩ := k.form
    obtain ⟨_, r, o, cs, q1, q2, _⟩ := hr 0 _ (List.getElem?_eq_getElem hl)
    rw [e, q1]
    exact q2
  have k1 := key hb.p (by simpa using h1)
  have k2 := key hb.k (by simpa using h2)
  have k3 := key hb.s (by simpa [ints] using h3)
  intro v hv
  simp only [z0f, Bk.cells, z08, List.cons_append, List.nil_append, List.mem_cons, List.not_mem_nil, or_false] at hv
  rcases hv with rfl | rfl | rfl | rfl | rfl | rfl | rfl | rfl | rfl | rfl | rfl | rfl | rfl | rfl <;> first | assumption | rfl
theorem c82 {S : Kn} (hS : S.Only [22]) {m : Nat} (hm : 3 ≤ m) (s : Nat) (hs : s < 4611686018427387904) {b : Bk} {h : Hp} {nx : Nat} (hb : b.At h nx) (h1 : 0 < b.P.length) (h2 : 0 < b.K.length) (h3 : 0 < b.S.length) : z06 82 [.agg b.cells.toArray, vi s] (z07 Tryz.prog vmL S m) h nx = .gen (.agg (z0f b s.testBit).toArray) h nx [] := by
  refine fun82.same (hS _ _ _ _ (by decide)) (by omega) (fun g => zow (zjk hb h1 h2 h3 _) _) (by simp) ?_
  obtain ⟨P, pv, K, kv, grams, free, unit, fee, St, sv⟩ := b
  obtain ⟨a1, n1, e1, _⟩ := hb.p.form
  obtain ⟨a2, n2, e2, _⟩ := hb.k.form
  obtain ⟨a3, n3, e3, _⟩ := hb.s.form
  simp only at e1 e2 e3
  subst e1 e2 e3
  have k111 := fun (h : Hp) (nx : Nat) => c111 hS (m := m - 1) (by omega) s hs (h := h) (nx := nx)
  simp (maxSteps := 10000000) (disch := omega) only [s82, k111, Bk.cells, z0f, z08, List.cons_append, List.nil_append, bz, z02, Nat.reduceEqDiff, Nat.reduceLT, Nat.reduceAdd, Nat.reduceMul, Int.reduceToNat]
  exact ⟨_, _, rfl⟩
theorem ziw : ∀ (c : List Value) (o : Nat) (vs : List Value), o + vs.length ≤ c.length → z0y c o vs = some (c.take o ++ (vs ++ c.drop (o + vs.length))) := by
  intro c
  induction c with
  | nil => intro o vs h; cases vs with
    | nil => simp at h; subst h; rfl
    | cons _ _ => simp at h
  | cons x c ih =>
    intro o vs h
    cases o with
    | zero =>
      cases vs with
      | nil => rfl
      | cons v vs =>
        rw [z57, ih 0 vs (by simp at h ⊢; omega)]
        simp [Nat.add_comm]
    | succ o =>
      rw [z6p, ih o vs (by simp at h ⊢; omega)]
      simp only [List.take_succ_cons, List.cons_append]
      have e : o + 1 + vs.length = (o + vs.length) + 1 := by omega
      rw [e, List.drop_succ_cons]
def z0b (P : List Pc) (f : Nat → Bool) (i : Nat) : List Pc := ((P.take i).zipIdx.filter fun x => f x.2).map Prod.fst
theorem z7d {P : List Pc} (f : Nat → Bool) {i : Nat} (hi : i < P.length) : z0b P f (i + 1) = z0b P f i ++ if f i then [P[i]] else [] := by
  unfold z0b
  rw [List.take_add_one, List.getElem?_eq_getElem hi, Option.toList_some, List.zipIdx_append, List.filter_append, List.map_append]
  have hl : (P.take i).length = i := by simp; omega
  rw [hl]
  simp only [Nat.zero_add, List.zipIdx_cons, List.zipIdx_nil]
  cases hfi : f i <;> simp [List.filter_cons, hfi]
theorem z3x (P : List Pc) (f : Nat → Bool) (i : Nat) : (z0b P f i).length ≤ i := by
  unfold z0b
  rw [List.length_map]
  refine Nat.le_trans (List.length_filter_le _ _) ?_
  simp
  omega
def z8o (l : List Pc) : List Value := (l.map Pc.row).flatten
theorem zfj (l m : List Pc) : z8o (l ++ m) = z8o l ++ z8o m := by simp [z8o]
theorem z9a {l : List Value} (h : ∀ v, v ∈ l → flat v = true) : z0m flat l = true := by
  induction l with
  | nil => rfl
  | cons v l ih =>
    show (Bool.rec false (z0m flat l) (flat v) : Bool) = true
    rw [h v List.mem_cons_self]
    exact ih fun x hx => h x (List.mem_cons_of_mem _ hx)
def zh2 (l : List Value) : Prop := ∀ v, v ∈ l → flat v = true
theorem zo1 (x : Pc) : zh2 x.row := by
  intro v hv
  simp only [Pc.row, List.mem_cons, List.not_mem_nil, or_false] at hv
  rcases hv with rfl | rfl | rfl | rfl <;> rfl
theorem zna (b : Bk) (f : Nat → Bool) (i : Nat) (hi : i < 7) : (z0f b f)[7 + i]? = some (.bool (f i)) := by
  have : i = 0 ∨ i = 1 ∨ i = 2 ∨ i = 3 ∨ i = 4 ∨ i = 5 ∨ i = 6 := by omega
  rcases this with rfl | rfl | rfl | rfl | rfl | rfl | rfl <;> rfl
theorem zs7 {ih : Rec} {b : Bk} {f : Nat → Bool} {z : Z} {vs : Vs} {h : Hp} {nx n0 p q : Nat} {C0 : List Value} (hb : b.At h n0) (hp7 : b.P.length ≤ 7) (hn0 : z.n0 = n0) (hpq : n0 ≤ p) (hqq : p < q) (hqn : q < nx)
    (hrp : rowL h p = some (z0f b f)) (hrq : hget h q = some (.cells C0 none)) (hC : C0.length = b.P.length * 4) (hf0 : zh2 C0)
    (g1 : vs 1 = some (.pointer (some ⟨p, 0, none⟩))) (g3 : vs 3 = some (.slice (some ⟨q, 0, none⟩) 0 b.P.length)) (g15 : vs 15 = some b.pv) (g16 : vs 16 = some (vi b.P.length)) (g17 : vs 17 = some (vi 0)) {r : R} (hr : z14 (sC Tryz.prog 37 37 ih zcu) z vs h nx = r) :
    ∃ vs' h' nx' C, r = .exi 0 z vs' h' nx' ∧ vs' 3 = some (.slice (some ⟨q, 0, none⟩) (z0b b.P f b.P.length).length b.P.length) ∧ hget h' q = some (.cells C none) ∧ C.length = b.P.length * 4 ∧ zh2 C ∧ C.take ((z0b b.P f b.P.length).length * 4) = z8o (z0b b.P f b.P.length) := by
  subst hr hn0
  refine z0n (Post := fun r => ∃ vs' h' nx' C, r = .exi 0 z vs' h' nx' ∧ vs' 3 = some (.slice (some ⟨q, 0, none⟩) (z0b b.P f b.P.length).length b.P.length) ∧ hget h' q = some (.cells C none) ∧ C.length = b.P.length * 4 ∧ zh2 C ∧ C.take ((z0b b.P f b.P.length).length * 4) = z8o (z0b b.P f b.P.length))
    (fun i z' vs' h' nx' => i ≤ b.P.length ∧ z' = z ∧ q < nx' ∧ Same z.n0 h h' ∧ rowL h' p = some (z0f b f) ∧ vs' 1 = some (.pointer (some ⟨p, 0, none⟩)) ∧ vs' 3 = some (.slice (some ⟨q, 0, none⟩) (z0b b.P f i).length b.P.length) ∧ vs' 15 = some b.pv ∧ vs' 16 = some (vi b.P.length) ∧ vs' 17 = some (vi (i : Int)) ∧
      ∃ C, hget h' q = some (.cells C none) ∧ C.length = b.P.length * 4 ∧ zh2 C ∧ C.take ((z0b b.P f i).length * 4) = z8o (z0b b.P f i)) b.P.length (by omega)
    ⟨Nat.zero_le _, rfl, hqn, Same.refl _ _, hrp, g1, g3, g15, g16, g17, C0, hrq, hC, hf0, rfl⟩ ?_
  rintro i z' vs' h' nx' ⟨hi, rfl, hq', hs, erp, e1, e3, e15, e16, e17, C, erq, eC, ef, et⟩
  have hv := hb.p
  obtain ⟨a, c, hve, _⟩ := hv.form
  rw [List.length_map] at hve
  by_cases hlt : i < b.P.length
  · left
    rw [hve] at hv e15
    obtain ⟨_, rr, o, row, cs, rfl, hrn, hrow, hrl, hcs, ho, hseg⟩ := hv.load (i := i) hlt
    have h1 : ((i : Int) < (b.P.length : Int)) := by omega
    rw [List.getElem?_map, List.getElem?_eq_getElem hlt] at hrow
    cases hrow
    have hcs' : rowL h' rr = some cs := by rw [z0w hs (by omega)]; exact hcs
    have hel : z09 true 4 cs (o + i * 4) = some (.agg (Pc.row b.P[i]).toArray) := z3j ho hseg
    have hbit : (z0f b f)[7 + i]? = some (.bool (f i)) := zna b f i (by omega)
    have hix : z6u 7 (.int .i64 (i : Int)) = some i := z8m 7 .i64 i (by omega)
    have hcl := z3x b.P f i
    rw [show b.P[i].row = Pc.row b.P[i] from rfl] at hel
    have hpx : p ≠ nx' := by omega
    have hqx : q ≠ nx' := by omega
    have hst : storeAt 4 (hset h' nx' (.cells [.int .i64 0, .int .i64 0, .int .i64 0, .bool false] none)) nx' 0 (.agg (Pc.row b.P[i]).toArray) = .wr (hset h' nx' (.cells (Pc.row b.P[i]) none)) nx' := by
      have := z5q (h := hset h' nx' (.cells [.int .i64 0, .int .i64 0, .int .i64 0, .bool false] none)) (r := nx') (l := Pc.row b.P[i]) (cs := [.int .i64 0, .int .i64 0, .int .i64 0, .bool false]) (b := none) (z1c _ _) rfl
      rw [z1k] at this
      exact this
    have hrow1 : rowL (hset h' nx' (.cells (Pc.row b.P[i]) none)) p = some (z0f b f) := by rw [z0a _ hpx]; exact erp
    have hbit2 : z09 false 1 (z0f b f) (7 + i * 1) = some (.bool (f i)) := by rw [z3k, Nat.mul_one]; exact hbit
    have hpiece : z09 true 4 (Pc.row b.P[i]) 0 = some (.agg (Pc.row b.P[i]).toArray) := rfl
    rcases Bool.eq_false_or_eq_true (f i) with hfi | hfi
    · rw [hfi] at hbit2
      have ecs : z0b b.P f (i + 1) = z0b b.P f i ++ [b.P[i]] := by rw [z7d f hlt, hfi]; rfl
      have ecl : (z0b b.P f (i + 1)).length = (z0b b.P f i).length + 1 := by rw [ecs]; simp
      have hcl2 := z3x b.P f i
      have hrowl : (Pc.row b.P[i]).length = 4 := rfl
      have hfill : z3v [((0, 4), .agg (Pc.row b.P[i]).toArray)] [.int .i64 0, .int .i64 0, .int .i64 0, .bool false] = some (Pc.row b.P[i]) := rfl
      have hpc : rowL (hset h' nx' (.cells (Pc.row b.P[i]) none)) nx' = some (Pc.row b.P[i]) := z01 _ _
      have hsp : z0y C (0 + (z0b b.P f i).length * 4) (Pc.row b.P[i]) = some (C.take ((z0b b.P f i).length * 4) ++ (Pc.row b.P[i] ++ C.drop ((z0b b.P f i).length * 4 + 4))) := by
        rw [Nat.zero_add, ziw _ _ _ (by rw [hrowl, eC]; omega), hrowl]
      have happ := zw7 (nx := nx' + 1 + 1) (h := hset (hset h' nx' (.cells (Pc.row b.P[i]) none)) (nx' + 1) (.cells (Pc.row b.P[i]) none)) (r := q) (o := 0) (len := (z0b b.P f i).length) (cap := b.P.length) (size := 4) (cs := C) (b := none) (x := .slice (some ⟨nx' + 1, 0, none⟩) 1 1)
        (by rw [z0l _ (by omega), z0l _ (by omega)]; exact erq) (z6k (z01 _ _) hrowl) (by unfold HALF; omega) (by omega) (by omega) hsp
      refine ⟨hlt, z', _, _, _, (by simp (maxSteps := 10000000) (disch := omega) only [zcu, e1, e3, e15, e16, e17, h1, hcs', hel, hix, hst, hrow1, hbit2, hpiece, hfill, hpc, happ, z26, storeO, bl, z02, Nat.reduceEqDiff, Nat.reduceLT, Nat.reduceAdd, Nat.reduceMul, Int.reduceToNat]; exact rfl), by omega, rfl, by omega, ((hs.set (by omega) _).set (by omega) _).set (by omega) _, ?_, ?_, ?_, ?_, ?_, ?_, _, z1c _ _, ?_, ?_, ?_⟩
      · rw [z0a _ (by omega), z0a _ (by omega), z0a _ (by omega)]; exact erp
      · simp only [pq, Nat.reduceEqDiff, e1]
      · simp only [pq, Nat.reduceEqDiff, ecl]
      · simp only [pq, Nat.reduceEqDiff, e15, hve]
      · simp only [pq, Nat.reduceEqDiff, e16]
      · simp only [pq, Nat.reduceEqDiff]; rfl
      · simp only [List.length_append, List.length_take, List.length_drop, hrowl, eC]; omega
      · intro v hv
        rcases List.mem_append.1 hv with hv | hv
        · exact ef v (List.mem_of_mem_take hv)
        · rcases List.mem_append.1 hv with hv | hv
          · exact zo1 _ v hv
          · exact ef v (List.mem_of_mem_drop hv)
      · rw [ecl, ecs, zfj, ← et, ← List.append_assoc]
        have hl1 : (C.take ((z0b b.P f i).length * 4) ++ Pc.row b.P[i]).length = ((z0b b.P f i).length + 1) * 4 := by rw [List.length_append, List.length_take, hrowl, eC, Nat.min_eq_left (by omega)]; omega
        rw [← hl1, List.take_left]
        rfl
    · rw [hfi] at hbit2
      have ecs : z0b b.P f (i + 1) = z0b b.P f i := by rw [z7d f hlt, hfi]; simp
      rw [← ecs] at e3 et
      refine ⟨hlt, z', _, _, _, (by simp (maxSteps := 10000000) (disch := omega) only [zcu, e1, e3, e15, e16, e17, h1, hcs', hel, hix, hst, hrow1, hbit2, hpiece, z26, storeO, bm, z02, Nat.reduceEqDiff, Nat.reduceLT, Nat.reduceAdd, Nat.reduceMul, Int.reduceToNat]; exact rfl), by omega, rfl, by omega, hs.set (by omega) _, hrow1, ?_, ?_, ?_, ?_, ?_, C, by rw [z0l _ hqx]; exact erq, eC, ef, et⟩
      · simp only [pq, Nat.reduceEqDiff, e1]
      · simp only [pq, Nat.reduceEqDiff, e3]
      · simp only [pq, Nat.reduceEqDiff, e15, hve]
      · simp only [pq, Nat.reduceEqDiff, e16]
      · simp only [pq, Nat.reduceEqDiff]; rfl
  · right
    have h1 : ¬ ((i : Int) < (b.P.length : Int)) := by omega
    have hie : i = b.P.length := by omega
    have e : ∃ vs2, sC Tryz.prog 37 37 ih zcu z' vs' h' nx' = .exi 0 z' vs2 h' nx' ∧ vs2 3 = vs' 3 := by
      refine ⟨_, by simp (maxSteps := 10000000) (disch := omega) only [zcu, e1, e3, e15, e16, e17, h1, bz, z02, Nat.reduceEqDiff, Nat.reduceLT, Nat.reduceAdd, Nat.reduceMul, Int.reduceToNat]; exact rfl, ?_⟩
      simp only [pg, Nat.reduceEqDiff]
    obtain ⟨vs2, e, q3⟩ := e
    rw [e]
    rw [hie] at e3 et
    exact ⟨trivial, vs2, h', nx', C, rfl, q3.trans e3, erq, eC, ef, et⟩
theorem zlu {h : Hp} {nx n : Nat} {z : List Value} (hn : n ≤ 7) : zlv h nx (some z) (some (.int .i64 0)) (some (vi n)) = .new (.slice (some ⟨nx, 0, none⟩) 0 n) (hset h nx (.cells (repL n z []) none)) (nx + 1) := by
  unfold zlv
  have e1 : z77 (vi n) = some n := rfl
  have e0 : z77 (.int .i64 0) = some 0 := rfl
  simp only [e0, e1]
  have b1 : Nat.ble n 65536 = true := by rw [z1b]; simp; omega
  rw [b1]
  rfl
theorem c133 {S : Kn} (hS : S.Only [22]) {m : Nat} (hm : 1 ≤ m) {b : Bk} {h : Hp} {nx : Nat} (hb : b.At h nx) (h7 : b.P.length ≤ 7) (f : Nat → Bool) :
    ∃ C, z06 133 [.agg (z0f b f).toArray] (z07 Tryz.prog vmL S m) h nx = .gen (.slice (some ⟨nx, 0, none⟩) (z0b b.P f b.P.length).length (z0b b.P f b.P.length).length) (hset h nx (.cells C none)) (nx + 1) [] ∧ C.length = b.P.length * 4 ∧ C.take ((z0b b.P f b.P.length).length * 4) = z8o (z0b b.P f b.P.length) := by
  have key : ∃ C h1 n1 r, nx ≤ r ∧ hget h1 r = some (.cells C none) ∧ z9i Tryz.prog 37 [(.tmp 2)] (sC Tryz.prog 37 37 (z07 Tryz.prog vmL S (m - 1)) s133 ⟨nx, none, [], []⟩ (enum [.agg (z0f b f).toArray] 0) h nx) = .val (.slice (some ⟨r, 0, none⟩) (z0b b.P f b.P.length).length (z0b b.P f b.P.length).length) h1 n1 [] ∧ zh2 C ∧ C.length = b.P.length * 4 ∧ C.take ((z0b b.P f b.P.length).length * 4) = z8o (z0b b.P f b.P.length) := by
    have hcl := z3x b.P f b.P.length
    obtain ⟨a1, n1, e1, _⟩ := hb.p.form
    rw [List.length_map] at e1
    have hbox : rowL (hset h nx (.cells (z0f b f) none)) nx = some (z0f b f) := z01 _ _
    have hfld : (z0f b f)[0]? = some b.pv := rfl
    have hmk := fun (h : Hp) (nx : Nat) => zlu (h := h) (nx := nx) (z := [.int .i64 0, .int .i64 0, .int .i64 0, .bool false]) h7
    have hsl := ziy (size := 4) (r := nx + 1) (o := 0) (n := (z0b b.P f b.P.length).length) (c := b.P.length) (by unfold HALF; omega) hcl
    simp (maxSteps := 10000000) (disch := omega) only [s133, z1j, e1, hbox, hfld, hmk, bz, z02, Nat.reduceEqDiff, Nat.reduceLT, Nat.reduceAdd, Nat.reduceMul, Int.reduceToNat]
    generalize hr : z14 _ _ _ _ _ = r
    have hx1 : nx ≠ nx + 1 := by omega
    have hsm : Same nx h (hset (hset h nx (.cells (z0f b f) none)) (nx + 1) (.cells (repL b.P.length [.int .i64 0, .int .i64 0, .int .i64 0, .bool false] []) none)) := ((Same.refl nx h).set (Nat.le_refl _) _).set (by omega) _
    have hA : rowL (hset (hset h nx (.cells (z0f b f) none)) (nx + 1) (.cells (repL b.P.length [.int .i64 0, .int .i64 0, .int .i64 0, .bool false] []) none)) nx = some (z0f b f) := by rw [z0a _ hx1]; exact z01 _ _
    have hC : zh2 (repL b.P.length [Value.int .i64 0, .int .i64 0, .int .i64 0, .bool false] []) := by
      intro v hv
      have hv := z74 hv
      simp only [List.mem_cons, List.not_mem_nil, or_false] at hv
      rcases hv with rfl | rfl | rfl | rfl <;> rfl
    obtain ⟨vs', h', nx', C, rfl, e3, hq, eC, ef, et⟩ := zs7 (b := b) (f := f) (n0 := nx) (p := nx) (q := nx + 1) (hb.same hsm (Nat.le_refl _)) h7 rfl (Nat.le_refl _) (by omega) (by omega) hA (z1c _ _) (zo2 _ _) hC rfl rfl (by rw [e1]; rfl) rfl rfl hr
    refine ⟨C, h', nx', nx + 1, by omega, hq, ?_, ef, eC, et⟩
    simp (maxSteps := 10000000) (disch := omega) only [e3, hsl, bz, z02, Nat.reduceEqDiff, Nat.reduceLT, Nat.reduceAdd, Nat.reduceMul, Int.reduceToNat]
  obtain ⟨C, h1, n1, r, q1, q2, q3, q4, q5, q6⟩ := key
  exact ⟨C, fun133.fresh (hS _ _ _ _ (by decide)) hm (by simp) (z9a q4) ⟨h1, n1, r, q1, q2, q3⟩, q5, q6⟩
def sumR (p : List Value → Int) (rows : List (List Value)) (i : Nat) : Int := ((rows.take i).map p).sum
theorem z9t {p : List Value → Int} {rows : List (List Value)} {i : Nat} {row : List Value} (h : rows[i]? = some row) : sumR p rows (i + 1) = sumR p rows i + p row := by
  unfold sumR
  rw [List.take_add_one, h, Option.toList_some, List.map_append, List.sum_append]
  simp
theorem zbz {p : List Value → Int} {rows : List (List Value)} {B : Int} (hB : 0 ≤ B) (hp : ∀ row, row ∈ rows → -B ≤ p row ∧ p row ≤ B) : ∀ i : Nat, -(B * i) ≤ sumR p rows i ∧ sumR p rows i ≤ B * i := by
  intro i
  induction i with
  | zero => simp [sumR]
  | succ i ih =>
    have e : B * ((i + 1 : Nat) : Int) = B * i + B := by rw [Int.natCast_succ, Int.mul_add, Int.mul_one]
    rw [e]
    cases hr : rows[i]? with
    | none =>
      have : sumR p rows (i + 1) = sumR p rows i := by unfold sumR; rw [List.take_add_one, hr]; simp
      rw [this]; omega
    | some row =>
      have := hp row (List.mem_of_getElem? hr)
      rw [z9t hr]; omega
theorem zs8 {ih : Rec} {rows : List (List Value)} {z : Z} {vs : Vs} {h : Hp} {nx fc : Nat} {v : Value} {p : List Value → Int} (hl : rows.length ≤ 1000) (hv : Lst h nx 4 v rows) (hn0 : z.n0 ≤ nx)
    (hB : ∀ row, row ∈ rows → -1000000000 ≤ p row ∧ p row ≤ 1000000000)
    (hp : ∀ row, row ∈ rows → ∀ h' nx', nx ≤ nx' → Same nx h h' → z06 fc [.agg row.toArray] ih h' nx' = .gen (vi (p row)) h' nx' [])
    (g0 : vs 0 = some (.func (.func fc) #[] #[])) (g5 : vs 5 = some (vi 0)) (g8 : vs 8 = some v) (g9 : vs 9 = some (vi rows.length)) (g10 : vs 10 = some (vi 0)) {r : R} (hr : z14 (sC Tryz.prog 21 21 ih zfb) z vs h nx = r) :
    ∃ vs' h' nx', r = .exi 0 z vs' h' nx' ∧ vs' 5 = some (vi (sumR p rows rows.length)) := by
  subst hr
  refine z0n (Post := fun r => ∃ vs' h' nx', r = .exi 0 z vs' h' nx' ∧ vs' 5 = some (vi (sumR p rows rows.length)))
    (fun i z' vs' h' nx' => i ≤ rows.length ∧ z' = z ∧ nx ≤ nx' ∧ Same nx h h' ∧ vs' 0 = some (.func (.func fc) #[] #[]) ∧ vs' 5 = some (vi (sumR p rows i)) ∧ vs' 8 = some v ∧ vs' 9 = some (vi rows.length) ∧ vs' 10 = some (vi (i : Int))) rows.length (by omega)
    ⟨Nat.zero_le _, rfl, Nat.le_refl _, Same.refl _ _, g0, g5, g8, g9, g10⟩ ?_
  rintro i z' vs' h' nx' ⟨hi, rfl, hn, hs, e0, e5, e8, e9, e10⟩
  have hv' := hv.same hs hn
  obtain ⟨a, c, rfl, _⟩ := hv'.form
  by_cases hlt : i < rows.length
  · left
    obtain ⟨_, rr, o, row, cs, rfl, hrn, hrow, hrl, hcs, ho, hseg⟩ := hv'.load (i := i) hlt
    have h1 : ((i : Int) < (rows.length : Int)) := by omega
    have hmem := List.mem_of_getElem? hrow
    have hel : z09 true 4 cs (o + i * 4) = some (.agg row.toArray) := z3j (by omega) hseg
    have b1 := zbz (by decide) hB i
    have b2 := hB row hmem
    have b3 : (1000000000 : Int) * i ≤ 1000000000 * 1000 := by omega
    have hst : storeAt 4 (hset h' nx' (.cells [.int .i64 0, .int .i64 0, .int .i64 0, .bool false] none)) nx' 0 (.agg row.toArray) = .wr (hset h' nx' (.cells row none)) nx' := by
      have := z5q (h := hset h' nx' (.cells [.int .i64 0, .int .i64 0, .int .i64 0, .bool false] none)) (r := nx') (l := row) (cs := [.int .i64 0, .int .i64 0, .int .i64 0, .bool false]) (b := none) (z1c _ _) hrl
      rw [z1k] at this
      exact this
    have hpc : rowL (hset h' nx' (.cells row none)) nx' = some row := z01 _ _
    have hpt : z09 true 4 row 0 = some (.agg row.toArray) := by rw [z4t _ _ _ (by omega), List.drop_zero, List.take_of_length_le (by omega)]
    have hs2 : Same nx h (hset h' nx' (.cells row none)) := hs.set hn _
    have hc := hp row hmem (hset h' nx' (.cells row none)) (nx' + 1) (by omega) hs2
    have hw := z9t (p := p) hrow
    refine ⟨hlt, z', _, _, _, (by simp (maxSteps := 10000000) (disch := omega) only [zfb, e0, e5, e8, e9, e10, h1, hcs, hel, hst, hpc, hpt, hc, z1p, List.nil_append, List.append_nil, List.cons_append, z26, storeO, bm, z02, Nat.reduceEqDiff, Nat.reduceLT, Nat.reduceAdd, Nat.reduceMul, Int.reduceToNat]; exact rfl), by omega, rfl, by omega, hs2, ?_, ?_, ?_, ?_, ?_⟩
    · simp only [pq, Nat.reduceEqDiff, e0]
    · simp only [pq, Nat.reduceEqDiff, hw]
    · simp only [pq, Nat.reduceEqDiff, e8]
    · simp only [pq, Nat.reduceEqDiff, e9]
    · simp only [pq, Nat.reduceEqDiff]; rfl
  · right
    have h1 : ¬ ((i : Int) < (rows.length : Int)) := by omega
    have hie : i = rows.length := by omega
    have e : ∃ vs2, sC Tryz.prog 21 21 ih zfb z' vs' h' nx' = .exi 0 z' vs2 h' nx' ∧ vs2 5 = vs' 5 := by
      refine ⟨_, by simp (maxSteps := 10000000) (disch := omega) only [zfb, e0, e5, e8, e9, e10, h1, bz, z02, Nat.reduceEqDiff, Nat.reduceLT, Nat.reduceAdd, Nat.reduceMul, Int.reduceToNat]; exact rfl, ?_⟩
      simp only [pg, Nat.reduceEqDiff]
    obtain ⟨vs2, e, q5⟩ := e
    rw [e]
    rw [hie] at e5
    exact ⟨trivial, vs2, h', nx', rfl, q5.trans e5⟩
theorem c132 {S : Kn} (hS : S.Only [22]) {m : Nat} (hm : 1 ≤ m) {rows : List (List Value)} {h : Hp} {nx fc : Nat} {v : Value} {p : List Value → Int} (hl : rows.length ≤ 1000) (hv : Lst h nx 4 v rows)
    (hB : ∀ row, row ∈ rows → -1000000000 ≤ p row ∧ p row ≤ 1000000000)
    (hp : ∀ row, row ∈ rows → ∀ h' nx', nx ≤ nx' → Same nx h h' → z06 fc [.agg row.toArray] (z07 Tryz.prog vmL S (m - 1)) h' nx' = .gen (vi (p row)) h' nx' []) :
    z06 132 [.func (.func fc) #[] #[], v] (z07 Tryz.prog vmL S m) h nx = .gen (vi (sumR p rows rows.length)) h nx [] := by
  refine fun132.ground (hS _ _ _ _ (by decide)) (by omega) rfl (by simp) ?_
  obtain ⟨a, c, e1, _⟩ := hv.form
  simp (maxSteps := 10000000) (disch := omega) only [s132, z1j, e1, bz, z02, Nat.reduceEqDiff, Nat.reduceLT, Nat.reduceAdd, Nat.reduceMul, Int.reduceToNat]
  generalize hr : z14 _ _ _ _ _ = r
  obtain ⟨vs', h', nx', rfl, e5⟩ := zs8 hl hv (Nat.le_refl _) hB hp rfl rfl (by rw [e1]; rfl) rfl rfl hr
  exact ⟨_, _, by simp (maxSteps := 10000000) (disch := omega) only [e5, bz, z02, Nat.reduceEqDiff, Nat.reduceLT, Nat.reduceAdd, Nat.reduceMul, Int.reduceToNat]; rfl⟩
theorem zmr : ∀ (l : List Pc) (i : Nat) (x : Pc), l[i]? = some x → ((z8o l).drop (i * 4)).take 4 = x.row := by
  intro l
  induction l with
  | nil => intro i x h; simp at h
  | cons y l ih =>
    intro i x h
    have e : z8o (y :: l) = y.row ++ z8o l := rfl
    have hy : y.row.length = 4 := rfl
    cases i with
    | zero =>
      simp only [List.getElem?_cons_zero, Option.some.injEq] at h
      subst h
      rw [e, Nat.zero_mul, List.drop_zero, ← hy, List.take_left]
    | succ i =>
      rw [List.getElem?_cons_succ] at h
      have e2 : (i + 1) * 4 = y.row.length + i * 4 := by rw [hy]; omega
      rw [e, e2, List.drop_append, List.drop_of_length_le (by omega), List.nil_append, Nat.add_sub_cancel_left]
      exact ih i x h
theorem zi5 {l : List Pc} {C : List Value} {h : Hp} {r nx : Nat} (hr : r < nx) (hc : rowL h r = some C) (ht : C.take (l.length * 4) = z8o l) (hl : l.length * 4 ≤ C.length) : Lst h nx 4 (.slice (some ⟨r, 0, none⟩) l.length l.length) (l.map Pc.row) := by
  refine ⟨_, _, by rw [List.length_map], fun i row hi => ?_⟩
  rw [List.getElem?_map] at hi
  cases hx : l[i]? with
  | none => rw [hx] at hi; cases hi
  | some x =>
    rw [hx] at hi
    have hi : x.row = row := Option.some.inj hi
    subst hi
    have hlt : i < l.length := (List.getElem?_eq_some_iff.1 hx).1
    refine ⟨rfl, r, 0, C, rfl, hr, hc, by omega, ?_⟩
    have := zmr l i x hx
    rw [← ht, List.drop_take, List.take_take, Nat.min_eq_left (by omega)] at this
    rw [Nat.zero_add]; exact this
def sumP (g : Pc → Int) (P : List Pc) (f : Nat → Bool) : Int := ((z0b P f P.length).map g).sum
theorem c102 {S : Kn} (hS : S.Only [22]) {m : Nat} (hm : 2 ≤ m) {b : Bk} {h : Hp} {nx fc : Nat} (hb : b.At h nx) (h7 : b.P.length ≤ 7) (f : Nat → Bool) {g : Pc → Int} {p : List Value → Int} (hpg : ∀ x : Pc, p x.row = g x)
    (hB : ∀ x, x ∈ b.P → -1000000000 ≤ g x ∧ g x ≤ 1000000000)
    (hp : ∀ x : Pc, x ∈ b.P → ∀ h' nx', nx ≤ nx' → Same nx h h' → z06 fc [.agg x.row.toArray] (z07 Tryz.prog vmL S (m - 2)) h' nx' = .gen (vi (g x)) h' nx' []) :
    z06 102 [.agg (z0f b f).toArray, .func (.func fc) #[] #[]] (z07 Tryz.prog vmL S m) h nx = .gen (vi (sumP g b.P f)) h nx [] := by
  refine fun102.ground (hS _ _ _ _ (by decide)) (by omega) rfl (by simp) ?_
  have hsm : Same nx h (hset h nx (.cells (z0f b f) none)) := (Same.refl nx h).set (Nat.le_refl _) _
  obtain ⟨C, k133, eC, et⟩ := c133 hS (m := m - 1) (by omega) (hb.same hsm (nx' := nx + 1) (by omega)) h7 f
  have hcl := z3x b.P f b.P.length
  have hsm2 : Same nx h (hset (hset h nx (.cells (z0f b f) none)) (nx + 1) (.cells C none)) := hsm.set (by omega) _
  have hmem : ∀ x, x ∈ z0b b.P f b.P.length → x ∈ b.P := fun x hx => by
    unfold z0b at hx
    obtain ⟨y, hy, rfl⟩ := List.mem_map.1 hx
    have := List.mem_filter.1 hy
    exact List.mem_of_mem_take (List.fst_mem_of_mem_zipIdx this.1)
  have k132 := c132 hS (h := hset (hset h nx (.cells (z0f b f) none)) (nx + 1) (.cells C none)) (nx := nx + 1 + 1) (m := m - 1) (by omega) (fc := fc) (p := p) (rows := (z0b b.P f b.P.length).map Pc.row) (by rw [List.length_map]; omega) (zi5 (nx := nx + 1 + 1) (by omega) (z01 _ _) et (by omega))
    (fun row hrow => by
      obtain ⟨x, hx, rfl⟩ := List.mem_map.1 hrow
      rw [hpg]; exact hB x (hmem x hx))
    (fun row hrow h' nx' hn hs => by
      obtain ⟨x, hx, rfl⟩ := List.mem_map.1 hrow
      rw [hpg, show m - 1 - 1 = m - 2 by omega]
      exact hp x (hmem x hx) h' nx' (by omega) (hsm2.trans (hs.mono (by omega))))
  have hsum : sumR p ((z0b b.P f b.P.length).map Pc.row) ((z0b b.P f b.P.length).map Pc.row).length = sumP g b.P f := by
    unfold sumR sumP
    rw [List.take_length, List.map_map]
    congr 1
    exact List.map_congr_left fun x _ => hpg x
  rw [hsum] at k132
  have hbox : rowL (hset h nx (.cells (z0f b f) none)) nx = some (z0f b f) := z01 _ _
  have hld : z09 true 14 (z0f b f) 0 = some (.agg (z0f b f).toArray) := rfl
  simp (maxSteps := 10000000) (disch := omega) only [s102, hbox, hld, k133, k132, bz, z02, Nat.reduceEqDiff, Nat.reduceLT, Nat.reduceAdd, Nat.reduceMul, Int.reduceToNat]
  exact ⟨_, _, rfl⟩
theorem c112 {S : Kn} (hS : S.Only [22]) {m : Nat} (hm : 1 ≤ m) (x : Pc) {h : Hp} {nx : Nat} : z06 112 [.agg x.row.toArray] (z07 Tryz.prog vmL S m) h nx = .gen (vi x.size) h nx [] := by
  refine fun112.ground (hS _ _ _ _ (by decide)) (by omega) rfl (by simp) ?_
  simp (maxSteps := 10000000) (disch := omega) only [s112, Pc.row, bz, z02, Nat.reduceEqDiff, Nat.reduceLT, Nat.reduceAdd, Nat.reduceMul, Int.reduceToNat]
  exact ⟨_, _, rfl⟩
theorem c113 {S : Kn} (hS : S.Only [22]) {m : Nat} (hm : 1 ≤ m) (x : Pc) {h : Hp} {nx : Nat} : z06 113 [.agg x.row.toArray] (z07 Tryz.prog vmL S m) h nx = .gen (vi x.weight) h nx [] := by
  refine fun113.ground (hS _ _ _ _ (by decide)) (by omega) rfl (by simp) ?_
  simp (maxSteps := 10000000) (disch := omega) only [s113, Pc.row, bz, z02, Nat.reduceEqDiff, Nat.reduceLT, Nat.reduceAdd, Nat.reduceMul, Int.reduceToNat]
  exact ⟨_, _, rfl⟩
theorem c103 {S : Kn} (hS : S.Only [22]) {m : Nat} (hm : 1 ≤ m) (x : Pc) {h : Hp} {nx : Nat} : z06 103 [.agg x.row.toArray] (z07 Tryz.prog vmL S m) h nx = .gen (vi x.worth) h nx [] := by
  refine fun103.ground (hS _ _ _ _ (by decide)) (by omega) rfl (by simp) ?_
  simp (maxSteps := 10000000) (disch := omega) only [s103, Pc.row, bz, z02, Nat.reduceEqDiff, Nat.reduceLT, Nat.reduceAdd, Nat.reduceMul, Int.reduceToNat]
  exact ⟨_, _, rfl⟩
theorem c140 {S : Kn} (hS : S.Only [22]) {m : Nat} (hm : 1 ≤ m) (x : Pc) {h : Hp} {nx : Nat} : z06 140 [.agg x.row.toArray] (z07 Tryz.prog vmL S m) h nx = .gen (.bool x.alone) h nx [] := by
  refine fun140.ground (hS _ _ _ _ (by decide)) (by omega) rfl (by simp) ?_
  simp (maxSteps := 10000000) (disch := omega) only [s140, Pc.row, bz, z02, Nat.reduceEqDiff, Nat.reduceLT, Nat.reduceAdd, Nat.reduceMul, Int.reduceToNat]
  exact ⟨_, _, rfl⟩
def zrf (row : List Value) : Bool := match row with
  | [_, _, _, .bool a] => a
  | _ => false
def z3h (P : List Pc) (f : Nat → Bool) : Bool := (z0b P f P.length).length == 1 || !(z0b P f P.length).any Pc.alone
theorem c114 {S : Kn} (hS : S.Only [22]) {m : Nat} (hm : 4 ≤ m) {b : Bk} {h : Hp} {nx : Nat} (hb : b.At h nx) (h7 : b.P.length ≤ 7) (f : Nat → Bool) :
    z06 114 [.agg (z0f b f).toArray] (z07 Tryz.prog vmL S m) h nx = .gen (.bool (z3h b.P f)) h nx [] := by
  refine fun114.ground (hS _ _ _ _ (by decide)) (by omega) rfl (by simp) ?_
  have hsm : Same nx h (hset h nx (.cells (z0f b f) none)) := (Same.refl nx h).set (Nat.le_refl _) _
  obtain ⟨C, k133, eC, et⟩ := c133 hS (m := m - 1) (by omega) (hb.same hsm (nx' := nx + 1) (by omega)) h7 f
  have hcl := z3x b.P f b.P.length
  have k134 := c134 hS (h := hset (hset h nx (.cells (z0f b f) none)) (nx + 1) (.cells C none)) (nx := nx + 1 + 1) (m := m - 1) (by omega) (fc := 140) (xs := []) (ys := []) (p := zrf) (rows := (z0b b.P f b.P.length).map Pc.row) (by rw [List.length_map]; omega) (zi5 (nx := nx + 1 + 1) (by omega) (z01 _ _) et (by omega))
    (fun row hrow => by
      obtain ⟨x, hx, rfl⟩ := List.mem_map.1 hrow
      exact c140 hS (by omega) x)
  have hany : ((z0b b.P f b.P.length).map Pc.row).any zrf = (z0b b.P f b.P.length).any Pc.alone := by rw [List.any_map]; rfl
  rw [hany] at k134
  have hbox : rowL (hset h nx (.cells (z0f b f) none)) nx = some (z0f b f) := z01 _ _
  have hld : z09 true 14 (z0f b f) 0 = some (.agg (z0f b f).toArray) := rfl
  by_cases h1 : (z0b b.P f b.P.length).length = 1
  · have e : z3h b.P f = true := by unfold z3h; rw [h1]; rfl
    have h1' : (((z0b b.P f b.P.length).length : Int) == 1) = true := by rw [h1]; rfl
    rw [e]
    simp (maxSteps := 10000000) (disch := omega) only [s114, hbox, hld, k133, k134, h1', bz, z02, Nat.reduceEqDiff, Nat.reduceLT, Nat.reduceAdd, Nat.reduceMul, Int.reduceToNat]
    exact ⟨_, _, rfl⟩
  · have e : z3h b.P f = !(z0b b.P f b.P.length).any Pc.alone := by unfold z3h; rw [beq_false_of_ne h1, Bool.false_or]
    have h1' : (((z0b b.P f b.P.length).length : Int) == 1) = false := beq_false_of_ne (by omega)
    rw [e]
    rcases Bool.eq_false_or_eq_true ((z0b b.P f b.P.length).any Pc.alone) with h2 | h2 <;> rw [h2] at k134 ⊢ <;> simp (maxSteps := 10000000) (disch := omega) only [s114, hbox, hld, k133, k134, h1', bz, z02, Nat.reduceEqDiff, Nat.reduceLT, Nat.reduceAdd, Nat.reduceMul, Int.reduceToNat] <;> exact ⟨_, _, rfl⟩
end Go.Proofs.YtcmkngajdckndaaGreatDoor
namespace Go.Proofs.YtcmkngajdckndaaGreatDoor
open Go Go.Proofs Go.Lm
set_option maxRecDepth 10000
set_option maxHeartbeats 8000000
theorem z0u {lo hi x : Int} : inB lo hi x = true → lo ≤ x ∧ x ≤ hi := by
  intro h
  simpa [inB] using h
theorem zrk {x : Pc} (h : x.ok = true) : -1000000000 ≤ x.size ∧ x.size ≤ 1000000000 := by
  unfold Pc.ok at h
  have := z0u (Bool.and_eq_true_iff.1 h).1
  omega
theorem zjp {x : Pc} (h : x.ok = true) : -1000000000 ≤ x.weight ∧ x.weight ≤ 1000000000 := by
  unfold Pc.ok at h
  have := z0u (Bool.and_eq_true_iff.1 (Bool.and_eq_true_iff.1 h).2).1
  omega
theorem znr {x : Pc} (h : x.ok = true) : -1000000000 ≤ x.worth ∧ x.worth ≤ 1000000000 := by
  unfold Pc.ok at h
  have := z0u (Bool.and_eq_true_iff.1 (Bool.and_eq_true_iff.1 h).2).2
  omega
def zsp (row : List Value) (i : Nat) : Int := match row[i]? with
  | some (.int _ n) => n
  | _ => 0
variable {S : Kn} (hS : S.Only [22]) {m : Nat} {b : Bk} {h : Hp} {nx : Nat} (hb : b.At h nx) (h7 : b.P.length ≤ 7) (hok : b.P.all Pc.ok = true) (f : Nat → Bool)
include hS hb h7 hok
theorem zwg (hm : 3 ≤ m) : z06 102 [.agg (z0f b f).toArray, .func (.func 112) #[] #[]] (z07 Tryz.prog vmL S m) h nx = .gen (vi (sumP Pc.size b.P f)) h nx [] :=
  c102 hS (by omega) hb h7 f (p := fun r => zsp r 0) (fun _ => rfl) (fun x hx => zrk (List.all_eq_true.1 hok x hx)) fun x _ _ _ _ _ => c112 hS (by omega) x
theorem zw4 (hm : 3 ≤ m) : z06 102 [.agg (z0f b f).toArray, .func (.func 113) #[] #[]] (z07 Tryz.prog vmL S m) h nx = .gen (vi (sumP Pc.weight b.P f)) h nx [] :=
  c102 hS (by omega) hb h7 f (p := fun r => zsp r 1) (fun _ => rfl) (fun x hx => zjp (List.all_eq_true.1 hok x hx)) fun x _ _ _ _ _ => c113 hS (by omega) x
theorem zwh (hm : 3 ≤ m) : z06 102 [.agg (z0f b f).toArray, .func (.func 103) #[] #[]] (z07 Tryz.prog vmL S m) h nx = .gen (vi (sumP Pc.worth b.P f)) h nx [] :=
  c102 hS (by omega) hb h7 f (p := fun r => zsp r 2) (fun _ => rfl) (fun x hx => znr (List.all_eq_true.1 hok x hx)) fun x _ _ _ _ _ => c103 hS (by omega) x
def z8p (P : List Pc) (f : Nat → Bool) (k : Kd) : Bool := decide (sumP Pc.size P f ≤ k.room) && (decide (sumP Pc.weight P f ≤ k.most) && z3h P f)
theorem c83 (hm : 5 ≤ m) (k : Kd) : z06 83 [.agg (z0f b f).toArray, .agg k.row.toArray] (z07 Tryz.prog vmL S m) h nx = .gen (.bool (z8p b.P f k)) h nx [] := by
  refine fun83.ground (hS _ _ _ _ (by decide)) (by omega) rfl (by simp) ?_
  have hsm : Same nx h (hset (hset h nx (.cells (z0f b f) none)) (nx + 1) (.cells k.row none)) := ((Same.refl nx h).set (Nat.le_refl _) _).set (by omega) _
  have hb' := hb.same hsm (nx' := nx + 1 + 1) (by omega)
  have ks := zwg hS hb' h7 hok f (m := m - 1) (by omega)
  have kw := zw4 hS hb' h7 hok f (m := m - 1) (by omega)
  have kt := c114 hS (m := m - 1) (by omega) hb' h7 f
  have hx1 : nx ≠ nx + 1 := by omega
  have hbox : rowL (hset (hset h nx (.cells (z0f b f) none)) (nx + 1) (.cells k.row none)) nx = some (z0f b f) := by rw [z0a _ hx1]; exact z01 _ _
  have hld : z09 true 14 (z0f b f) 0 = some (.agg (z0f b f).toArray) := rfl
  unfold z8p
  simp only [Kd.row] at ks kw kt hbox
  rcases Bool.eq_false_or_eq_true (decide (sumP Pc.size b.P f ≤ k.room)) with h1 | h1 <;> rcases Bool.eq_false_or_eq_true (decide (sumP Pc.weight b.P f ≤ k.most)) with h2 | h2 <;> rw [h1, h2] <;> simp (maxSteps := 10000000) (disch := omega) only [s83, Kd.row, hbox, hld, ks, kw, kt, h1, h2, bz, z02, Nat.reduceEqDiff, Nat.reduceLT, Nat.reduceAdd, Nat.reduceMul, Int.reduceToNat] <;> exact ⟨_, _, rfl⟩
end Go.Proofs.YtcmkngajdckndaaGreatDoor
namespace Go
namespace Lm
variable {P : Program} {nv : Nat} {ih : Rec} {vs : Vs} {h : Hp} {nx : Nat}
noncomputable def maxO (P : Program) (x y : Option Value) : Option Value := match x, y with
  | some a, some b => bif z0m flat [a, b] then gr (z0j P (Builtin.max_ #[] 0 #[a, b])) else none
  | _, _ => none
theorem zu4 (x y : Operand) (t u : TypeId) : rOp P nv ih (.call { callee := .builtin .max, args := #[x, y], argTypes := #[t, u] }) vs h nx = outP (maxO P (opV nv x vs) (opV nv y vs)) := by
  unfold rOp
  show runO (z4d P nv { callee := .builtin .max, args := #[x, y], argTypes := #[t, u] }) ih vs [] h nx = _
  obtain ⟨f, hf⟩ := z03 nv x
  obtain ⟨g, hg⟩ := z03 nv y
  have hm : dXs nv [x, y] = .mk [f, g] := by
    have e : dXs nv [x, y] = match dX nv x, (match dX nv y, dXs nv [] with | .mk f, .mk l => XL.mk (f :: l)) with | .mk f, .mk l => XL.mk (f :: l) := rfl
    rw [e, hf, hg]; rfl
  unfold z4d
  simp only [hm]
  rw [← z6w hf, ← z6w hg]
  show outP (z43 P .max [f, g] vs []) = outP (maxO P (f vs []) (g vs []))
  unfold z43 maxO
  cases hx : f vs [] with
  | none =>
    have e : evs [f, g] vs [] = none := by unfold evs; simp only [hx]
    rw [e]
  | some a =>
    cases hy : g vs [] with
    | none =>
      have e : evs [f, g] vs [] = none := by unfold evs; simp only [hx, evs, hy]
      rw [e]
    | some b =>
      have e : evs [f, g] vs [] = some [a, b] := by unfold evs; simp only [hx, evs, hy]
      rw [e]
theorem zo9 (a b : Int) : maxO P (some (.int .i64 a)) (some (.int .i64 b)) = some (.int .i64 (max a b)) := by
  unfold maxO
  show gr (z0j P (Builtin.max_ #[] 0 #[.int .i64 a, .int .i64 b])) = _
  unfold Builtin.max_
  simp only [List.foldlM]
  unfold Builtin.max2
  by_cases hab : a < b
  · have : max a b = b := by omega
    rw [this]; simp only [gt_iff_lt, hab, if_true, if_false]; rfl
  · have : max a b = a := by omega
    rw [this]; simp only [gt_iff_lt, hab, if_true, if_false]; rfl
end Lm
end Go
namespace Go.Proofs.YtcmkngajdckndaaGreatDoor
open Go Go.Proofs Go.Lm
set_option maxRecDepth 10000
set_option maxHeartbeats 8000000
theorem zs6 {ih : Rec} {zs : List Int} {a0 : Int} {z : Z} {vs : Vs} {h : Hp} {nx : Nat} {v : Value} (hl : zs.length ≤ 140737488355328) (hv : Lst h nx 1 v (ints zs))
    (g0 : vs 0 = some (vi a0)) (g7 : vs 7 = some v) (g8 : vs 8 = some (vi zs.length)) (g9 : vs 9 = some (vi 0)) {r : R} (hr : z14 (sC Tryz.prog 18 18 ih zfa) z vs h nx = r) :
    ∃ vs', r = .exi 0 z vs' h nx ∧ vs' 0 = some (vi (zs.foldl max a0)) := by
  subst hr
  refine z0n (Post := fun r => ∃ vs', r = .exi 0 z vs' h nx ∧ vs' 0 = some (vi (zs.foldl max a0)))
    (fun i z' vs' h' nx' => i ≤ zs.length ∧ z' = z ∧ h' = h ∧ nx' = nx ∧ vs' 0 = some (vi ((zs.take i).foldl max a0)) ∧ vs' 7 = some v ∧ vs' 8 = some (vi zs.length) ∧ vs' 9 = some (vi (i : Int))) zs.length (by omega)
    ⟨Nat.zero_le _, rfl, rfl, rfl, g0, g7, g8, g9⟩ ?_
  rintro i z' vs' h' nx' ⟨hi, rfl, rfl, rfl, e0, e7, e8, e9⟩
  obtain ⟨a, c, rfl, _⟩ := hv.form
  have hil : (ints zs).length = zs.length := by simp [ints]
  rw [hil] at e7 hv
  by_cases hlt : i < zs.length
  · left
    obtain ⟨_, rr, o, row, cs, rfl, hrn, hrow, hrl, hcs, ho, hseg⟩ := hv.load (i := i) hlt
    have h1 : ((i : Int) < (zs.length : Int)) := by omega
    have hrw : row = [vi zs[i]] := by
      unfold ints at hrow
      rw [List.getElem?_map, List.getElem?_eq_getElem hlt] at hrow
      exact (Option.some.inj hrow).symm
    subst hrw
    have hel : z09 false 1 cs (o + i * 1) = some (vi zs[i]) := z2w (row := []) hseg
    have hw : (zs.take (i + 1)).foldl max a0 = max ((zs.take i).foldl max a0) zs[i] := by
      rw [List.take_add_one, List.getElem?_eq_getElem hlt, Option.toList_some, List.foldl_append]; rfl
    refine ⟨hlt, z', _, _, _, (by simp (maxSteps := 10000000) (disch := omega) only [zfa, e0, e7, e8, e9, h1, hcs, hel, zu4, zo9, bz, z02, Nat.reduceEqDiff, Nat.reduceLT, Nat.reduceAdd, Nat.reduceMul, Int.reduceToNat]; exact rfl), by omega, rfl, rfl, rfl, ?_, ?_, ?_, ?_⟩
    · simp only [pq, Nat.reduceEqDiff, hw]
    · simp only [pq, Nat.reduceEqDiff, e7, hil]
    · simp only [pq, Nat.reduceEqDiff, e8]
    · simp only [pq, Nat.reduceEqDiff]; rfl
  · right
    have h1 : ¬ ((i : Int) < (zs.length : Int)) := by omega
    have hie : i = zs.length := by omega
    have e : ∃ vs2, sC Tryz.prog 18 18 ih zfa z' vs' h' nx' = .exi 0 z' vs2 h' nx' ∧ vs2 0 = vs' 0 := by
      refine ⟨_, by simp (maxSteps := 10000000) (disch := omega) only [zfa, e0, e7, e8, e9, h1, bz, z02, Nat.reduceEqDiff, Nat.reduceLT, Nat.reduceAdd, Nat.reduceMul, Int.reduceToNat]; exact rfl, ?_⟩
      simp only [pg, Nat.reduceEqDiff]
    obtain ⟨vs2, e, q0⟩ := e
    rw [e]
    rw [hie, List.take_length] at e0
    exact ⟨trivial, vs2, rfl, q0.trans e0⟩
theorem c142 {S : Kn} (hS : S.Only [22]) {m : Nat} (hm : 1 ≤ m) {zs : List Int} (a0 : Int) {h : Hp} {nx : Nat} {v : Value} (hl : zs.length ≤ 140737488355328) (hv : Lst h nx 1 v (ints zs)) : z06 142 [vi a0, v] (z07 Tryz.prog vmL S m) h nx = .gen (vi (zs.foldl max a0)) h nx [] := by
  refine fun142.ground (hS _ _ _ _ (by decide)) (by omega) rfl (by simp) ?_
  obtain ⟨a, c, e1, _⟩ := hv.form
  have hil : (ints zs).length = zs.length := by simp [ints]
  rw [hil] at e1
  simp (maxSteps := 10000000) (disch := omega) only [s142, z1j, e1, bz, z02, Nat.reduceEqDiff, Nat.reduceLT, Nat.reduceAdd, Nat.reduceMul, Int.reduceToNat]
  generalize hr : z14 _ _ _ _ _ = r
  obtain ⟨vs', rfl, e0⟩ := zs6 (a0 := a0) hl hv rfl (by rw [e1]; rfl) rfl rfl hr
  exact ⟨_, _, by simp (maxSteps := 10000000) (disch := omega) only [e0, bz, z02, Nat.reduceEqDiff, Nat.reduceLT, Nat.reduceAdd, Nat.reduceMul, Int.reduceToNat]; rfl⟩
end Go.Proofs.YtcmkngajdckndaaGreatDoor
namespace Go.Proofs.YtcmkngajdckndaaGreatDoor
open Go Go.Proofs Go.Lm
set_option maxRecDepth 10000
set_option maxHeartbeats 8000000
def z2o (b : Bk) (f : Nat → Bool) (k : Kd) (zone : Int) : List Value := z0f b f ++ k.row ++ [vi zone]
variable {S : Kn} (hS : S.Only [22]) {m : Nat} {b : Bk} {h : Hp} {nx : Nat} (hb : b.At h nx) (h7 : b.P.length ≤ 7) (hok : b.P.all Pc.ok = true) (f : Nat → Bool)
include hS hb h7 hok
theorem c118 (hm : 4 ≤ m) (k : Kd) (zone : Int) (hst : 0 ≤ k.step) (hst2 : k.step ≤ 1000) (hg : 1 ≤ b.grams) (hg2 : b.grams ≤ 1000000) (hw : 0 ≤ sumP Pc.weight b.P f) (hw2 : sumP Pc.weight b.P f ≤ 1000000) : z06 118 [.agg (z2o b f k zone).toArray] (z07 Tryz.prog vmL S m) h nx = .gen (vi (k.step * ((sumP Pc.weight b.P f + b.grams - 1) / b.grams - 1))) h nx [] := by
  refine fun118.ground (hS _ _ _ _ (by decide)) (by omega) rfl (by simp) ?_
  have hsm : Same nx h (hset h nx (.cells (z2o b f k zone) none)) := (Same.refl nx h).set (Nat.le_refl _) _
  have hb' := hb.same hsm (nx' := nx + 1) (by omega)
  have kw := zw4 hS hb' h7 hok f (m := m - 1) (by omega)
  have k141 := fun (h : Hp) (nx : Nat) => c141 hS (m := m - 1) (h := h) (nx := nx) (by omega) (sumP Pc.weight b.P f) b.grams hw (by omega) hg hg2
  have hbox : rowL (hset h nx (.cells (z2o b f k zone) none)) nx = some (z2o b f k zone) := z01 _ _
  have hld : z09 true 14 (z2o b f k zone) 0 = some (.agg (z0f b f).toArray) := rfl
  have hl2 : (z2o b f k zone)[2]? = some (vi b.grams) := rfl
  have hl17 : (z2o b f k zone)[17]? = some (vi k.step) := rfl
  have hd : 0 ≤ (sumP Pc.weight b.P f + b.grams - 1) / b.grams := Int.ediv_nonneg (by omega) (by omega)
  have hd2 : (sumP Pc.weight b.P f + b.grams - 1) / b.grams ≤ 2000000 := Int.le_trans (Int.ediv_le_self _ (by omega)) (by omega)
  have hmul : IntKind.wrap .i64 (k.step * ((sumP Pc.weight b.P f + b.grams - 1) / b.grams - 1)) = k.step * ((sumP Pc.weight b.P f + b.grams - 1) / b.grams - 1) := by
    refine z21 _ ?_ ?_
    · have := Int.mul_le_mul_of_nonneg_left (show (-1 : Int) ≤ (sumP Pc.weight b.P f + b.grams - 1) / b.grams - 1 by omega) hst
      omega
    · have h1 := Int.mul_le_mul_of_nonneg_left (show (sumP Pc.weight b.P f + b.grams - 1) / b.grams - 1 ≤ 2000000 by omega) hst
      omega
  simp (maxSteps := 10000000) (disch := omega) only [s118, hbox, hld, hl2, hl17, kw, k141, hmul, bz, z02, Nat.reduceEqDiff, Nat.reduceLT, Nat.reduceAdd, Nat.reduceMul, Int.reduceToNat]
  exact ⟨_, _, rfl⟩
end Go.Proofs.YtcmkngajdckndaaGreatDoor
namespace Go.Proofs.YtcmkngajdckndaaGreatDoor
open Go Go.Proofs Go.Lm
set_option maxRecDepth 10000
set_option maxHeartbeats 8000000
theorem c117 {S : Kn} (hS : S.Only [22]) {m : Nat} {b : Bk} {h : Hp} {nx : Nat} (f : Nat → Bool) (hm : 1 ≤ m) (k : Kd) (zone : Nat) (hz : Lst h nx 1 k.zv (ints k.zs)) (hlt : zone < k.zs.length) (h5 : k.zs.length ≤ 1000) : z06 117 [.agg (z2o b f k zone).toArray] (z07 Tryz.prog vmL S m) h nx = .gen (vi k.zs[zone]) h nx [] := by
  refine fun117.ground (hS _ _ _ _ (by decide)) (by omega) rfl (by simp) ?_
  have hsm : Same nx h (hset h nx (.cells (z2o b f k zone) none)) := (Same.refl nx h).set (Nat.le_refl _) _
  have hz' := hz.same hsm (nx' := nx + 1) (by omega)
  obtain ⟨a, c, hve, _⟩ := hz'.form
  have hil : (ints k.zs).length = k.zs.length := by simp [ints]
  rw [hil] at hve
  rw [hve] at hz'
  obtain ⟨_, rr, o, row, cs, rfl, hrn, hrow, hrl, hcs, ho, hseg⟩ := hz'.load (i := zone) hlt
  have hrw : row = [vi k.zs[zone]] := by
    unfold ints at hrow
    rw [List.getElem?_map, List.getElem?_eq_getElem hlt] at hrow
    exact (Option.some.inj hrow).symm
  subst hrw
  have hel : z09 false 1 cs (o + zone * 1) = some (vi k.zs[zone]) := z2w (row := []) hseg
  have hbox : rowL (hset h nx (.cells (z2o b f k zone) none)) nx = some (z2o b f k zone) := z01 _ _
  have hl16 : (z2o b f k zone)[16]? = some k.zv := rfl
  have hl18 : (z2o b f k zone)[18]? = some (vi (zone : Int)) := rfl
  simp (maxSteps := 10000000) (disch := omega) only [s117, hbox, hl16, hl18, hve, hcs, hel, bz, z02, Nat.reduceEqDiff, Nat.reduceLT, Nat.reduceAdd, Nat.reduceMul, Int.reduceToNat]
  exact ⟨_, _, rfl⟩
variable {S : Kn} (hS : S.Only [22]) {m : Nat} {b : Bk} {h : Hp} {nx : Nat} (hb : b.At h nx) (h7 : b.P.length ≤ 7) (hok : b.P.all Pc.ok = true) (f : Nat → Bool)
include hS hb h7 hok
theorem c119 (hm : 4 ≤ m) (k : Kd) (zone : Int) (hf0 : 0 ≤ b.fee) (hf1 : b.fee ≤ 1000) (hg : 1 ≤ b.unit) (hg2 : b.unit ≤ 1000000) (hr0 : 0 ≤ b.free) (hr1 : b.free ≤ 1000000) (hw : 0 ≤ sumP Pc.worth b.P f) (hw2 : sumP Pc.worth b.P f ≤ 1000000) : z06 119 [.agg (z2o b f k zone).toArray] (z07 Tryz.prog vmL S m) h nx = .gen (vi (b.fee * ((max 0 (sumP Pc.worth b.P f - b.free) + b.unit - 1) / b.unit))) h nx [] := by
  refine fun119.ground (hS _ _ _ _ (by decide)) (by omega) rfl (by simp) ?_
  have hsm : Same nx h (hset h nx (.cells (z2o b f k zone) none)) := (Same.refl nx h).set (Nat.le_refl _) _
  have hb' := hb.same hsm (nx' := nx + 1) (by omega)
  have kw := zwh hS hb' h7 hok f (m := m - 1) (by omega)
  have k141 := fun (h : Hp) (nx : Nat) => c141 hS (m := m - 1) (h := h) (nx := nx) (by omega) (max 0 (sumP Pc.worth b.P f - b.free)) b.unit (by omega) (by omega) hg hg2
  have hbox : rowL (hset h nx (.cells (z2o b f k zone) none)) nx = some (z2o b f k zone) := z01 _ _
  have hlst : Lst (hset (hset h nx (.cells (z2o b f k zone) none)) (nx + 1) (.cells [vi (sumP Pc.worth b.P f - b.free)] none)) (nx + 1 + 1) 1 (.slice (some ⟨nx + 1, 0, none⟩) 1 1) (ints [sumP Pc.worth b.P f - b.free]) := by
    refine ⟨_, _, rfl, fun i row hi => ?_⟩
    cases i with
    | zero => cases hi; exact ⟨rfl, nx + 1, 0, _, rfl, by omega, z01 _ _, by simp, rfl⟩
    | succ i => simp [ints] at hi
  have k142 := c142 hS (m := m - 1) (by omega) 0 (by simp) hlst
  rw [show [sumP Pc.worth b.P f - b.free].foldl max 0 = max 0 (sumP Pc.worth b.P f - b.free) from rfl] at k142
  have hld : z09 true 14 (z2o b f k zone) 0 = some (.agg (z0f b f).toArray) := rfl
  have hl5 : (z2o b f k zone)[5]? = some (vi b.fee) := rfl
  have hl3 : (z2o b f k zone)[3]? = some (vi b.free) := rfl
  have hl4 : (z2o b f k zone)[4]? = some (vi b.unit) := rfl
  have hd : 0 ≤ (max 0 (sumP Pc.worth b.P f - b.free) + b.unit - 1) / b.unit := Int.ediv_nonneg (by omega) (by omega)
  have hd2 : (max 0 (sumP Pc.worth b.P f - b.free) + b.unit - 1) / b.unit ≤ 2000000 := Int.le_trans (Int.ediv_le_self _ (by omega)) (by omega)
  have hmul : IntKind.wrap .i64 (b.fee * ((max 0 (sumP Pc.worth b.P f - b.free) + b.unit - 1) / b.unit)) = b.fee * ((max 0 (sumP Pc.worth b.P f - b.free) + b.unit - 1) / b.unit) := by
    refine z21 _ ?_ ?_
    · have := Int.mul_nonneg hf0 hd
      omega
    · have h1 := Int.mul_le_mul_of_nonneg_left hd2 hf0
      omega
  simp (maxSteps := 10000000) (disch := omega) only [s119, hbox, hld, hl3, hl4, hl5, kw, k141, k142, hmul, bz, z02, Nat.reduceEqDiff, Nat.reduceLT, Nat.reduceAdd, Nat.reduceMul, Int.reduceToNat]
  exact ⟨_, _, rfl⟩
end Go.Proofs.YtcmkngajdckndaaGreatDoor
namespace Go
namespace Lm
variable {P : Program} {nvs : List (Nat × Nat)}
theorem zhc {f : FuncId} {us : List Value} {ih : Rec} {h : Hp} {nx : Nat} {v : Value} {h1 : Hp} {n1 : Nat} (hg : ground v = false) (hc : cmp3 h1 nx v ⟨h, nx, []⟩ = none) (hv : ih (.call f us) h nx = .val v h1 n1 []) : z06 f us ih h nx = .gen v h1 n1 [] := by
  unfold z06
  rw [hv]
  show (Bool.rec (match cmp3 h1 nx v ⟨h, nx, []⟩ with | some (u, s) => Out.gen u s.h s.nx [] | none => Out.gen v h1 n1 []) (Out.gen v h nx []) (ground v) : Out) = _
  rw [hg, hc]
theorem zbb {h1 h : Hp} {nx r o n c : Nat} {cs : List Value} {b : Option Nat} (hr : nx ≤ r) (hc : hget h1 r = some (.cells cs b)) (hf : z0m flat cs = false) :
    cmp3 h1 nx (.slice (some ⟨r, o, none⟩) n c) ⟨h, nx, []⟩ = none := by
  show cmp1 h1 nx (.slice (some ⟨r, o, none⟩) n c) ⟨h, nx, []⟩ = _
  unfold cmp1
  have h1' : Nat.blt r nx = false := by rw [z0c]; simp; omega
  simp only [h1', cond_false]
  show (bif z1v r [] then _ else none) = _
  have h2 : z1v r [] = true := rfl
  rw [h2]
  simp only [cond_true, hc, hf, cond_false]
theorem Fun.whole {f : FuncId} {n : Nat} {rs : List ResultVar} {s : SC} (F : Fun P nvs f n rs s) {S : Kn} {m : Nat} {us : List Value} {h : Hp} {nx : Nat} {v : Value} {h1 : Hp} {n1 : Nat} (hn : S f us h nx = none) (hm : 1 ≤ m) (hg : Lm.ground v = false) (hc : cmp3 h1 nx v ⟨h, nx, []⟩ = none) (ha : us.length ≤ n)
    (hx : z9i P n rs (sC P n n (z07 P nvs S (m - 1)) s ⟨nx, none, [], []⟩ (enum us 0) h nx) = .val v h1 n1 []) : z06 f us (z07 P nvs S m) h nx = .gen v h1 n1 [] := by
  obtain ⟨k, rfl⟩ : ∃ k, m = k + 1 := ⟨m - 1, by omega⟩
  rw [Nat.add_sub_cancel] at hx
  exact zhc hg hc ((z4x hn).trans ((F.run _ us h nx ha).trans hx))
theorem z00 (v : Value) (vs : Vs) : put none v vs = vs := (fun h => h) (z02 v)
end Lm
end Go
namespace Go.Proofs.YtcmkngajdckndaaGreatDoor
open Go Go.Proofs Go.Lm
set_option maxRecDepth 10000
set_option maxHeartbeats 8000000
abbrev fn (g : Nat) : Value := .func (.func g) #[] #[]
abbrev pt (p : Nat) : Value := .pointer (some ⟨p, 0, none⟩)
theorem c88 {S : Kn} (hS : S.Only [22]) {m : Nat} (hm : 1 ≤ m) {h : Hp} {nx : Nat} : z06 88 [] (z07 Tryz.prog vmL S m) h nx = .gen (.slice (some ⟨nx, 0, none⟩) 3 3) (hset h nx (.cells [fn 117, fn 118, fn 119] none)) (nx + 1) [] := by
  refine fun88.whole (hS _ _ _ _ (by decide)) hm rfl (zbb (Nat.le_refl _) (z1c _ _) rfl) (by simp) ?_
  simp (maxSteps := 10000000) (disch := omega) only [s88, bz, z02, Nat.reduceEqDiff, Nat.reduceLT, Nat.reduceAdd, Nat.reduceMul, Int.reduceToNat]
theorem c87 {S : Kn} (hS : S.Only [22]) {m : Nat} (hm : 1 ≤ m) {b : Bk} {f : Nat → Bool} {k : Kd} {zone : Int} {h : Hp} {nx p g : Nat} {x : Int} (hrow : rowL h p = some (z2o b f k zone))
    (hg : z06 g [.agg (z2o b f k zone).toArray] (z07 Tryz.prog vmL S (m - 1)) h nx = .gen (vi x) h nx []) : z06 87 [fn g, pt p] (z07 Tryz.prog vmL S m) h nx = .gen (vi x) h nx [] := by
  refine fun87.ground (hS _ _ _ _ (by decide)) hm rfl (by simp) ?_
  have hld : z09 true 19 (z2o b f k zone) 0 = some (.agg (z2o b f k zone).toArray) := rfl
  simp (maxSteps := 10000000) (disch := omega) only [s87, hrow, hld, hg, z1p, List.nil_append, List.append_nil, List.cons_append, bz, z02, Nat.reduceEqDiff, Nat.reduceLT, Nat.reduceAdd, Nat.reduceMul, Int.reduceToNat]
  exact ⟨_, _, rfl⟩
theorem zub {ih : Rec} {rows : List (List Value)} {z : Z} {vs : Vs} {h : Hp} {nx q : Nat} {v : Value} {p : List Value → Int} (hl : rows.length ≤ 1000) (hv : Lst h nx 1 v rows)
    (hB : ∀ row, row ∈ rows → -1000000000000 ≤ p row ∧ p row ≤ 1000000000000)
    (hp : ∀ row, row ∈ rows → ∃ g, row = [fn g] ∧ z06 87 [fn g, pt q] ih h nx = .gen (vi (p row)) h nx [])
    (g0 : vs 0 = some (.func (.func 87) #[] #[pt q])) (g5 : vs 5 = some (vi 0)) (g8 : vs 8 = some v) (g9 : vs 9 = some (vi rows.length)) (g10 : vs 10 = some (vi 0)) {r : R} (hr : z14 (sC Tryz.prog 21 21 ih zm5) z vs h nx = r) :
    ∃ vs', r = .exi 0 z vs' h nx ∧ vs' 5 = some (vi (sumR p rows rows.length)) := by
  subst hr
  refine z0n (Post := fun r => ∃ vs', r = .exi 0 z vs' h nx ∧ vs' 5 = some (vi (sumR p rows rows.length)))
    (fun i z' vs' h' nx' => i ≤ rows.length ∧ z' = z ∧ nx' = nx ∧ h' = h ∧ vs' 0 = some (.func (.func 87) #[] #[pt q]) ∧ vs' 5 = some (vi (sumR p rows i)) ∧ vs' 8 = some v ∧ vs' 9 = some (vi rows.length) ∧ vs' 10 = some (vi (i : Int))) rows.length (by omega)
    ⟨Nat.zero_le _, rfl, rfl, rfl, g0, g5, g8, g9, g10⟩ ?_
  rintro i z' vs' h' nx' ⟨hi, rfl, rfl, rfl, e0, e5, e8, e9, e10⟩
  obtain ⟨a, c, rfl, _⟩ := hv.form
  by_cases hlt : i < rows.length
  · left
    obtain ⟨_, rr, o, row, cs, rfl, hrn, hrow, hrl, hcs, ho, hseg⟩ := hv.load (i := i) hlt
    have h1 : ((i : Int) < (rows.length : Int)) := by omega
    have hmem := List.mem_of_getElem? hrow
    obtain ⟨g, rfl, hc⟩ := hp row hmem
    have hel : z09 false 1 cs (o + i * 1) = some (fn g) := z2w (row := []) hseg
    have b1 := zbz (by decide) hB i
    have b2 := hB _ hmem
    have b3 : (1000000000000 : Int) * i ≤ 1000000000000 * 1000 := by omega
    have hw := z9t (p := p) hrow
    refine ⟨hlt, z', _, _, _, (by simp (maxSteps := 10000000) (disch := omega) only [zm5, e0, e5, e8, e9, e10, h1, hcs, hel, hc, z1p, List.nil_append, List.append_nil, List.cons_append, bz, z02, Nat.reduceEqDiff, Nat.reduceLT, Nat.reduceAdd, Nat.reduceMul, Int.reduceToNat]; exact rfl), by omega, rfl, rfl, rfl, ?_, ?_, ?_, ?_, ?_⟩
    · simp only [pq, Nat.reduceEqDiff, e0]
    · simp only [pq, Nat.reduceEqDiff, hw]
    · simp only [pq, Nat.reduceEqDiff, e8]
    · simp only [pq, Nat.reduceEqDiff, e9]
    · simp only [pq, Nat.reduceEqDiff]; rfl
  · right
    have h1 : ¬ ((i : Int) < (rows.length : Int)) := by omega
    have hie : i = rows.length := by omega
    have e : ∃ vs2, sC Tryz.prog 21 21 ih zm5 z' vs' h' nx' = .exi 0 z' vs2 h' nx' ∧ vs2 5 = vs' 5 := by
      refine ⟨_, by simp (maxSteps := 10000000) (disch := omega) only [zm5, e0, e5, e8, e9, e10, h1, bz, z02, Nat.reduceEqDiff, Nat.reduceLT, Nat.reduceAdd, Nat.reduceMul, Int.reduceToNat]; exact rfl, ?_⟩
      simp only [pg, Nat.reduceEqDiff]
    obtain ⟨vs2, e, q5⟩ := e
    rw [e]
    rw [hie] at e5
    exact ⟨trivial, vs2, rfl, q5.trans e5⟩
theorem c86 {S : Kn} (hS : S.Only [22]) {m : Nat} (hm : 1 ≤ m) {rows : List (List Value)} {h : Hp} {nx q : Nat} {v : Value} {p : List Value → Int} (hl : rows.length ≤ 1000) (hv : Lst h nx 1 v rows)
    (hB : ∀ row, row ∈ rows → -1000000000000 ≤ p row ∧ p row ≤ 1000000000000)
    (hp : ∀ row, row ∈ rows → ∃ g, row = [fn g] ∧ z06 87 [fn g, pt q] (z07 Tryz.prog vmL S (m - 1)) h nx = .gen (vi (p row)) h nx []) :
    z06 86 [.func (.func 87) #[] #[pt q], v] (z07 Tryz.prog vmL S m) h nx = .gen (vi (sumR p rows rows.length)) h nx [] := by
  refine fun86.ground (hS _ _ _ _ (by decide)) (by omega) rfl (by simp) ?_
  obtain ⟨a, c, e1, _⟩ := hv.form
  simp (maxSteps := 10000000) (disch := omega) only [s86, z1j, e1, bz, z02, Nat.reduceEqDiff, Nat.reduceLT, Nat.reduceAdd, Nat.reduceMul, Int.reduceToNat]
  generalize hr : z14 _ _ _ _ _ = r
  obtain ⟨vs', rfl, e5⟩ := zub hl hv hB hp rfl rfl (by rw [e1]; rfl) rfl rfl hr
  exact ⟨_, _, by simp (maxSteps := 10000000) (disch := omega) only [e5, bz, z02, Nat.reduceEqDiff, Nat.reduceLT, Nat.reduceAdd, Nat.reduceMul, Int.reduceToNat]; rfl⟩
end Go.Proofs.YtcmkngajdckndaaGreatDoor
