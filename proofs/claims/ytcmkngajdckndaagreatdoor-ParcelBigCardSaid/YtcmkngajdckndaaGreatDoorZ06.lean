/- The program's functions as the machine runs them, and closed facts of its types; What the functions of package parcel answer, for any book, and why the law's comparison holds; how a book of a world reads; Rules by which a run of that machine is computed. Conditions: none. -/
import Derived.Test.YtcmkngajdckndaaGreatDoorZ05
set_option linter.unusedVariables false
set_option linter.unusedSimpArgs false
namespace Go.Proofs.YtcmkngajdckndaaGreatDoor
open Go Go.Proofs Go.Lm
theorem plS_24_1_0 : plS Tryz.prog 24 1 [0] = some ([(0, 1)], [.int .i64 0]) := by kernel_rfl
theorem plB_77_0 : plB Tryz.prog 77 [0] = some ([(0, 7)], [.slice none 0 0, .slice none 0 0, .int .i64 0, .int .i64 0, .int .i64 0, .int .i64 0, .slice none 0 0]) := by kernel_rfl
theorem plB_79_0_1 : plB Tryz.prog 79 [0, 1] = some ([(0, 7), (7, 2)], [.slice none 0 0, .slice none 0 0, .int .i64 0, .int .i64 0, .int .i64 0, .int .i64 0, .slice none 0 0, .int .i64 0, .slice none 0 0]) := by kernel_rfl
theorem plS_122_1_0 : plS Tryz.prog 122 1 [0] = some ([(0, 1)], [.nilFunc]) := by kernel_rfl
theorem z7k : plS Tryz.prog 122 2 [0, 1] = some ([(0, 1), (1, 1)], [.nilFunc, .nilFunc]) := by kernel_rfl
theorem plB_28_0_1 : plB Tryz.prog 28 [0, 1] = some ([(0, 1), (1, 1)], [.int .i64 0, .slice none 0 0]) := by kernel_rfl
theorem plB_84_ : plB Tryz.prog 84 [] = some ([], [.int .i64 0, .int .i64 0]) := by kernel_rfl
theorem z7l : plB Tryz.prog 132 [0, 1, 2] = some ([(0, 14), (14, 4), (18, 1)], [.slice none 0 0, .slice none 0 0, .int .i64 0, .int .i64 0, .int .i64 0, .int .i64 0, .slice none 0 0, .bool false, .bool false, .bool false, .bool false, .bool false, .bool false, .bool false, .int .i64 0, .int .i64 0, .slice none 0 0, .int .i64 0, .int .i64 0]) := by kernel_rfl
theorem plB_126_0_1 : plB Tryz.prog 126 [0, 1] = some ([(0, 7), (7, 7)], [.slice none 0 0, .slice none 0 0, .int .i64 0, .int .i64 0, .int .i64 0, .int .i64 0, .slice none 0 0, .bool false, .bool false, .bool false, .bool false, .bool false, .bool false, .bool false]) := by kernel_rfl
theorem plB_124_ : plB Tryz.prog 124 [] = some ([], [.bool false, .bool false, .bool false, .bool false, .bool false, .bool false, .bool false]) := by kernel_rfl
theorem plB_84_0_1 : plB Tryz.prog 84 [0, 1] = some ([(0, 1), (1, 1)], [.int .i64 0, .int .i64 0]) := by kernel_rfl
theorem z5p : plS Tryz.prog 136 3 [0, 1, 2] = some ([(0, 1), (1, 1), (2, 1)], [.nilFunc, .nilFunc, .nilFunc]) := by kernel_rfl
theorem plB_104_0_1 : plB Tryz.prog 104 [0, 1] = some ([(0, 1), (1, 1)], [.int .i64 0, .int .i64 0]) := by kernel_rfl
theorem plS_22_1_0 : plS Tryz.prog 22 1 [0] = some ([(0, 4)], [.int .i64 0, .int .i64 0, .int .i64 0, .bool false]) := by kernel_rfl
theorem lok2 : z1q [0, 0, 0, 4, 14, 0, 63, 127, 255, 255, 511, 2047] 11 = true := rfl
theorem lok3 : z1q [0, 0, 0, 4, 14, 31, 63, 127, 127, 255, 1023] 10 = true := rfl
theorem lok9 : z1q [0, 0, 2, 0, 0, 24, 56, 126, 254, 510, 1023, 0, 0, 4096, 0, 0, 49152, 114688, 258048, 520192, 1044480, 2095104, 2047, 8388607] 23 = true := rfl
theorem lok12 : z1q [0, 0, 2, 7, 0, 0, 32, 112, 15, 511] 9 = true := rfl
theorem lok13 : z1q [0, 0, 2, 7, 0, 16, 48, 0, 128, 496, 1008, 0, 4095, 0, 16383] 14 = true := rfl
theorem lok14 : z1q [0, 0, 2, 7, 0, 16, 48, 0, 128, 496, 1008, 2047, 4095] 12 = true := rfl
theorem lok15 : z1q [0, 0, 2, 7, 15] 4 = true := rfl
theorem lok18 : z1q [0, 1, 0, 0, 12, 28, 63, 127, 0, 511] 9 = true := rfl
theorem lok20 : z1q [0, 1, 0, 4, 0, 31, 63, 127] 7 = true := rfl
theorem lok21 : z1q [0, 1, 0, 4, 12, 31, 0, 64, 0, 256, 768, 2047, 0, 4096, 16383, 32767, 65535, 131071] 17 = true := rfl
theorem lok23 : z1q [0, 1, 0, 4, 12, 31, 63] 6 = true := rfl
theorem lok25 : z1q [0, 1, 0, 4, 15, 31] 5 = true := rfl
theorem lok26 : z1q [0, 1, 0, 4, 15, 31, 63] 6 = true := rfl
theorem lok28 : z1q [0, 1, 0, 4, 15, 31, 63, 127, 63, 319, 1023, 2047, 4095, 8191, 16383, 32767, 65535] 16 = true := rfl
theorem lok29 : z1q [0, 1, 0, 4, 15, 31, 63, 127, 63, 319, 1023, 2047, 4095, 8191, 8191, 24575, 65535, 131071, 262143, 524287, 1048575, 524287, 2621439, 8388607, 16777215, 33554431] 25 = true := rfl
theorem lok30 : z1q [0, 1, 3, 0, 0, 16, 48, 120, 248, 511, 1023] 10 = true := rfl
theorem lok31 : z1q [0, 1, 3, 0, 8, 24, 0, 64, 192, 448, 960, 2040, 4088, 8191, 16383] 14 = true := rfl
theorem lok32 : z1q [0, 1, 3, 7, 15, 0, 32, 127, 255, 511, 1023, 1023, 3071, 8191, 1023, 32767, 65535] 16 = true := rfl
theorem lok33 : z1q [0, 1, 3, 7, 15, 0, 32, 96, 0, 256, 768, 1792, 3840, 8160, 16352, 32736, 0, 65536, 196608, 458752, 983040, 2097120, 4194303, 8388607] 23 = true := rfl
theorem zeroE_22 : zeroE Tryz.prog 22 = some [.int .i64 0, .int .i64 0, .int .i64 0, .bool false] := by kernel_rfl
theorem appF_22 : appF Tryz.prog 22 22 = some 4 := by kernel_rfl
set_option maxRecDepth 10000
set_option maxHeartbeats 4000000
def limL : List Value := [vi 1, vi 7, vi 1, vi 500, vi 1, vi 5000, vi 0, vi 10000, vi 1, vi 4, vi 0, vi 4, vi 1, vi 1000, vi 0, vi 1000, vi 1, vi 10000, vi 1, vi 5, vi 0, vi 20000]
theorem pA2 (x0 x1 : Value) (l : List Value) : z0c true 2 (x0 :: x1 :: l) 0 = some (.agg #[x0, x1]) := rfl
theorem pA4 (x0 x1 x2 x3 : Value) (l : List Value) : z0c true 4 (x0 :: x1 :: x2 :: x3 :: l) 0 = some (.agg #[x0, x1, x2, x3]) := rfl
theorem pA7 (x0 x1 x2 x3 x4 x5 x6 : Value) (l : List Value) : z0c true 7 (x0 :: x1 :: x2 :: x3 :: x4 :: x5 :: x6 :: l) 0 = some (.agg #[x0, x1, x2, x3, x4, x5, x6]) := rfl
theorem pA14 (x0 x1 x2 x3 x4 x5 x6 x7 x8 x9 x10 x11 x12 x13 : Value) (l : List Value) : z0c true 14 (x0 :: x1 :: x2 :: x3 :: x4 :: x5 :: x6 :: x7 :: x8 :: x9 :: x10 :: x11 :: x12 :: x13 :: l) 0 = some (.agg #[x0, x1, x2, x3, x4, x5, x6, x7, x8, x9, x10, x11, x12, x13]) := rfl
theorem pAs (agg : Bool) (size : Nat) (x : Value) (l : List Value) (o : Nat) : z0c agg size (x :: l) (o + 1) = z0c agg size l o := rfl
theorem log_own2 (n0 : Nat) (rd : Option Nat) (D log : List Nat) (r : Nat) (hr : n0 ≤ r) : logZ ⟨n0, rd, D, log⟩ [r] = ⟨n0, rd, D, log⟩ := z1k _ _ hr
theorem limR0 : z0c true 2 limL 0 = some (.agg #[vi 1, vi 7]) := rfl
theorem limR1 : z0c true 2 limL 2 = some (.agg #[vi 1, vi 500]) := rfl
theorem limR2 : z0c true 2 limL 4 = some (.agg #[vi 1, vi 5000]) := rfl
theorem limR3 : z0c true 2 limL 6 = some (.agg #[vi 0, vi 10000]) := rfl
theorem limR4 : z0c true 2 limL 8 = some (.agg #[vi 1, vi 4]) := rfl
theorem limR5 : z0c true 2 limL 10 = some (.agg #[vi 0, vi 4]) := rfl
theorem limR6 : z0c true 2 limL 12 = some (.agg #[vi 1, vi 1000]) := rfl
theorem limR7 : z0c true 2 limL 14 = some (.agg #[vi 0, vi 1000]) := rfl
theorem limR8 : z0c true 2 limL 16 = some (.agg #[vi 1, vi 10000]) := rfl
theorem limR9 : z0c true 2 limL 18 = some (.agg #[vi 1, vi 5]) := rfl
theorem limR10 : z0c true 2 limL 20 = some (.agg #[vi 0, vi 20000]) := rfl
theorem g0V {nv : Nat} {vs : Vs} : opV nv (.global 0) vs = some (.pointer (some ⟨0, 0, none⟩)) := opV_global 0 (by decide)
theorem cel_int (k : IntKind) (n : Int) : cellsL (.int k n) = some [.int k n] := rfl
theorem cel_bool (t : Bool) : cellsL (.bool t) = some [.bool t] := rfl
theorem cel_sl (a : Option Addr) (n c : Nat) : cellsL (.slice a n c) = some [.slice a n c] := rfl
theorem cel_ptr (p : Option Addr) : cellsL (.pointer p) = some [.pointer p] := rfl
theorem cel_str (s : ByteArray) : cellsL (.string s) = some [.string s] := rfl
theorem cel_map (r : Option Nat) : cellsL (.map r) = some [.map r] := rfl
theorem cel_fn (f : Fn) (xs ys : Array Value) : cellsL (.func f xs ys) = some [.func f xs ys] := rfl
theorem cel_nf : cellsL .nilFunc = some [.nilFunc] := rfl
theorem cancel_iff (a b c : Nat) : a + b = a + c ↔ b = c := Nat.add_left_cancel_iff
theorem bq : type_of% (And.intro (And.intro (And.intro (And.intro (And.intro (And.intro (And.intro @enum_cons @enum_nil) (And.intro @s_seq (And.intro @s_reg @s_regQ))) (And.intro (And.intro @or_st (And.intro @q_nil @q_plain)) (And.intro @q_guard (And.intro @gq_tt @gq_ff)))) (And.intro (And.intro (And.intro @gq_tf (And.intro @gq_ft @cq_pur)) (And.intro @cq_rd (And.intro @cq_new @cq_gen))) (And.intro (And.intro @cq_wr (And.intro @s_skip @s_ret)) (And.intro @s_exit (And.intro @p_cons @p_nil))))) (And.intro (And.intro (And.intro (And.intro @one_plain (And.intro @one_guard @out_pur)) (And.intro @out_rd (And.intro @out_new @out_wr))) (And.intro (And.intro @out_gen (And.intro @log_nil @z1k)) (And.intro @ro_st (And.intro @o_move @o_assign)))) (And.intro (And.intro (And.intro @o_pick (And.intro @pickV_eq @o_alloc)) (And.intro @o_box (And.intro @o_load @rdO_some))) (And.intro (And.intro @o_store (And.intro @o_bin @o_un)) (And.intro @o_extract (And.intro @o_fieldAddr @o_field)))))) (And.intro (And.intro (And.intro (And.intro (And.intro @o_indexAddr (And.intro @o_call @o_nil)) (And.intro @o_makeFunc (And.intro @opV_t @opV_int))) (And.intro (And.intro @opV_bool (And.intro @opV_str @opV_nil)) (And.intro @opV_map0 (And.intro @opV_fn0 @opV_func)))) (And.intro (And.intro (And.intro @outP_some (And.intro @put_same @z01)) (And.intro @z11 (And.intro @z0p @z03))) (And.intro (And.intro @z0j (And.intro @z7d @z55)) (And.intro @z6h (And.intro @z7e @z83))))) (And.intro (And.intro (And.intro (And.intro @o_len (And.intro @z3k @z4p)) (And.intro @bin_add (And.intro @bin_sub @bin_mul))) (And.intro (And.intro @bin_eql (And.intro @bin_neq @bin_lss)) (And.intro @bin_leq (And.intro @bin_gtr @bin_geq)))) (And.intro (And.intro (And.intro @z3f (And.intro @unV_not @z8h)) (And.intro @idx_int (And.intro @Int.toNat_natCast @shut_nil))) (And.intro (And.intro @tup_one (And.intro @tup_two @tup_three)) (And.intro Nat.zero_add (And.intro Nat.add_zero @Bool.not_true))))))) (And.intro (And.intro (And.intro (And.intro (And.intro (And.intro @Bool.not_false (And.intro @decide_true @decide_false)) (And.intro @Bool.and_true (And.intro @Bool.true_and @Bool.and_false))) (And.intro (And.intro @Bool.false_and (And.intro cancel_iff @k_nor)) (And.intro @k_ret (And.intro @k_exi @s_cond)))) (And.intro (And.intro (And.intro @c_true (And.intro @c_false @s_block)) (And.intro @bk_nor (And.intro @bk_ret @bk_exi))) (And.intro (And.intro @ko_st (And.intro @g_tt @g_ff)) (And.intro @g_tf (And.intro @g_ft @done_ret))))) (And.intro (And.intro (And.intro (And.intro @done_nor (And.intro @o_build @z8y)) (And.intro @buildO_some (And.intro @buildSO_some @fill_nil))) (And.intro (And.intro @limR0 (And.intro @limR1 @limR2)) (And.intro @limR3 (And.intro @limR4 @limR5)))) (And.intro (And.intro (And.intro @limR6 (And.intro @limR7 @limR8)) (And.intro @limR9 (And.intro @limR10 @g0V))) (And.intro (And.intro @log_own2 (And.intro @bin_quo @bin_rem)) (And.intro @pA2 (And.intro @pA4 @pA7)))))) (And.intro (And.intro (And.intro (And.intro (And.intro @pA14 (And.intro @pAs @o_makeSlice)) (And.intro @o_append (And.intro @o_slice3 @boxO.eq_1))) (And.intro (And.intro @boxO.eq_2 (And.intro @cellsL.eq_1 @cel_int)) (And.intro @cel_bool (And.intro @cel_sl @cel_ptr)))) (And.intro (And.intro (And.intro @cel_str (And.intro @cel_map @cel_nf)) (And.intro @cel_fn (And.intro @loadO.eq_1 @addrO.eq_1))) (And.intro (And.intro @opVs.eq_1 (And.intro @opVs.eq_2 @loadAt.eq_1)) (And.intro @lenO.eq_1 (And.intro @lenO.eq_3 @lenO.eq_7))))) (And.intro (And.intro (And.intro (And.intro @lenO.eq_8 (And.intro @resVs.eq_1 @resVs.eq_2)) (And.intro @resO.eq_1 (And.intro @resO.eq_2 @if_true.{1}))) (And.intro (And.intro @if_false.{1} (And.intro @cond_true.{1} @cond_false.{1})) (And.intro @beq_self_eq_true.{0} (And.intro @List.getElem?_cons_zero.{0} @List.getElem?_cons_succ.{0})))) (And.intro (And.intro (And.intro @List.drop_zero.{0} (And.intro @List.drop_succ_cons.{0} @List.take_succ_cons.{0})) (And.intro @List.take_zero.{0} (And.intro @List.length_cons.{0} @List.length_nil.{0}))) (And.intro (And.intro @List.toList_toArray.{0} (And.intro @List.getElem?_toArray.{0} @List.zip_cons_cons.{0, 0})) (And.intro @List.zip_nil_left.{0, 0} (And.intro @List.map_cons.{0, 0} @List.map_nil.{0, 0})))))))) := (And.intro (And.intro (And.intro (And.intro (And.intro (And.intro (And.intro @enum_cons @enum_nil) (And.intro @s_seq (And.intro @s_reg @s_regQ))) (And.intro (And.intro @or_st (And.intro @q_nil @q_plain)) (And.intro @q_guard (And.intro @gq_tt @gq_ff)))) (And.intro (And.intro (And.intro @gq_tf (And.intro @gq_ft @cq_pur)) (And.intro @cq_rd (And.intro @cq_new @cq_gen))) (And.intro (And.intro @cq_wr (And.intro @s_skip @s_ret)) (And.intro @s_exit (And.intro @p_cons @p_nil))))) (And.intro (And.intro (And.intro (And.intro @one_plain (And.intro @one_guard @out_pur)) (And.intro @out_rd (And.intro @out_new @out_wr))) (And.intro (And.intro @out_gen (And.intro @log_nil @z1k)) (And.intro @ro_st (And.intro @o_move @o_assign)))) (And.intro (And.intro (And.intro @o_pick (And.intro @pickV_eq @o_alloc)) (And.intro @o_box (And.intro @o_load @rdO_some))) (And.intro (And.intro @o_store (And.intro @o_bin @o_un)) (And.intro @o_extract (And.intro @o_fieldAddr @o_field)))))) (And.intro (And.intro (And.intro (And.intro (And.intro @o_indexAddr (And.intro @o_call @o_nil)) (And.intro @o_makeFunc (And.intro @opV_t @opV_int))) (And.intro (And.intro @opV_bool (And.intro @opV_str @opV_nil)) (And.intro @opV_map0 (And.intro @opV_fn0 @opV_func)))) (And.intro (And.intro (And.intro @outP_some (And.intro @put_same @z01)) (And.intro @z11 (And.intro @z0p @z03))) (And.intro (And.intro @z0j (And.intro @z7d @z55)) (And.intro @z6h (And.intro @z7e @z83))))) (And.intro (And.intro (And.intro (And.intro @o_len (And.intro @z3k @z4p)) (And.intro @bin_add (And.intro @bin_sub @bin_mul))) (And.intro (And.intro @bin_eql (And.intro @bin_neq @bin_lss)) (And.intro @bin_leq (And.intro @bin_gtr @bin_geq)))) (And.intro (And.intro (And.intro @z3f (And.intro @unV_not @z8h)) (And.intro @idx_int (And.intro @Int.toNat_natCast @shut_nil))) (And.intro (And.intro @tup_one (And.intro @tup_two @tup_three)) (And.intro Nat.zero_add (And.intro Nat.add_zero @Bool.not_true))))))) (And.intro (And.intro (And.intro (And.intro (And.intro (And.intro @Bool.not_false (And.intro @decide_true @decide_false)) (And.intro @Bool.and_true (And.intro @Bool.true_and @Bool.and_false))) (And.intro (And.intro @Bool.false_and (And.intro cancel_iff @k_nor)) (And.intro @k_ret (And.intro @k_exi @s_cond)))) (And.intro (And.intro (And.intro @c_true (And.intro @c_false @s_block)) (And.intro @bk_nor (And.intro @bk_ret @bk_exi))) (And.intro (And.intro @ko_st (And.intro @g_tt @g_ff)) (And.intro @g_tf (And.intro @g_ft @done_ret))))) (And.intro (And.intro (And.intro (And.intro @done_nor (And.intro @o_build @z8y)) (And.intro @buildO_some (And.intro @buildSO_some @fill_nil))) (And.intro (And.intro @limR0 (And.intro @limR1 @limR2)) (And.intro @limR3 (And.intro @limR4 @limR5)))) (And.intro (And.intro (And.intro @limR6 (And.intro @limR7 @limR8)) (And.intro @limR9 (And.intro @limR10 @g0V))) (And.intro (And.intro @log_own2 (And.intro @bin_quo @bin_rem)) (And.intro @pA2 (And.intro @pA4 @pA7)))))) (And.intro (And.intro (And.intro (And.intro (And.intro @pA14 (And.intro @pAs @o_makeSlice)) (And.intro @o_append (And.intro @o_slice3 @boxO.eq_1))) (And.intro (And.intro @boxO.eq_2 (And.intro @cellsL.eq_1 @cel_int)) (And.intro @cel_bool (And.intro @cel_sl @cel_ptr)))) (And.intro (And.intro (And.intro @cel_str (And.intro @cel_map @cel_nf)) (And.intro @cel_fn (And.intro @loadO.eq_1 @addrO.eq_1))) (And.intro (And.intro @opVs.eq_1 (And.intro @opVs.eq_2 @loadAt.eq_1)) (And.intro @lenO.eq_1 (And.intro @lenO.eq_3 @lenO.eq_7))))) (And.intro (And.intro (And.intro (And.intro @lenO.eq_8 (And.intro @resVs.eq_1 @resVs.eq_2)) (And.intro @resO.eq_1 (And.intro @resO.eq_2 @if_true.{1}))) (And.intro (And.intro @if_false.{1} (And.intro @cond_true.{1} @cond_false.{1})) (And.intro @beq_self_eq_true.{0} (And.intro @List.getElem?_cons_zero.{0} @List.getElem?_cons_succ.{0})))) (And.intro (And.intro (And.intro @List.drop_zero.{0} (And.intro @List.drop_succ_cons.{0} @List.take_succ_cons.{0})) (And.intro @List.take_zero.{0} (And.intro @List.length_cons.{0} @List.length_nil.{0}))) (And.intro (And.intro @List.toList_toArray.{0} (And.intro @List.getElem?_toArray.{0} @List.zip_cons_cons.{0, 0})) (And.intro @List.zip_nil_left.{0, 0} (And.intro @List.map_cons.{0, 0} @List.map_nil.{0, 0}))))))))
theorem bf : type_of% (And.intro (And.intro (And.intro (And.intro (And.intro (And.intro (And.intro elemF_105 (And.intro elemF_113 elemF_119)) (And.intro elemF_120 (And.intro elemF_122 elemF_124))) (And.intro (And.intro elemF_136 (And.intro elemF_147 elemF_149)) (And.intro elemF_22 (And.intro elemF_23 elemF_24)))) (And.intro (And.intro (And.intro elemF_40 (And.intro elemF_62 elemF_67)) (And.intro z96 (And.intro z95 hb_102))) (And.intro (And.intro hb_104 (And.intro hb_106 hb_108)) (And.intro hb_110 (And.intro hb_111 hb_114))))) (And.intro (And.intro (And.intro (And.intro hb_115 (And.intro hb_116 hb_120)) (And.intro hb_121 (And.intro hb_129 hb_13))) (And.intro (And.intro hb_132 (And.intro hb_133 hb_134)) (And.intro hb_137 (And.intro hb_138 hb_141)))) (And.intro (And.intro (And.intro hb_142 (And.intro hb_149 hb_15)) (And.intro hb_150 (And.intro hb_17 hb_19))) (And.intro (And.intro hb_22 (And.intro hb_34 hb_35)) (And.intro (And.intro hb_40 hb_41) (And.intro hb_42 hb_43)))))) (And.intro (And.intro (And.intro (And.intro (And.intro hb_44 (And.intro hb_52 hb_54)) (And.intro hb_55 (And.intro hb_60 hb_62))) (And.intro (And.intro hb_81 (And.intro hb_82 hb_83)) (And.intro hb_84 (And.intro hb_85 hb_86)))) (And.intro (And.intro (And.intro hb_88 (And.intro hb_89 hb_90)) (And.intro lenK_113 (And.intro lenK_122 lenK_136))) (And.intro (And.intro lenK_147 (And.intro lenK_22 lenK_23)) (And.intro lenK_24 (And.intro lenK_40 offF_100_0))))) (And.intro (And.intro (And.intro (And.intro offF_100_1 (And.intro offF_100_2 offF_104_0)) (And.intro offF_104_1 (And.intro offF_108_0 offF_108_1))) (And.intro (And.intro offF_108_2 (And.intro offF_112_0 offF_112_1)) (And.intro offF_126_0 (And.intro offF_126_1 offF_132_0)))) (And.intro (And.intro (And.intro offF_132_1 (And.intro offF_132_2 offF_26_0)) (And.intro offF_26_1 (And.intro offF_26_2 offF_26_3))) (And.intro (And.intro offF_26_4 (And.intro offF_26_5 offF_26_6)) (And.intro (And.intro offF_28_0 offF_28_1) (And.intro offF_71_0 offF_71_1))))))) (And.intro (And.intro (And.intro (And.intro (And.intro (And.intro offF_71_2 (And.intro offF_71_3 offF_77_0)) (And.intro offF_79_0 (And.intro offF_79_1 offF_84_0))) (And.intro (And.intro offF_84_1 (And.intro offF_89_0 offF_89_1)) (And.intro offF_89_2 (And.intro offF_89_3 tyS_100)))) (And.intro (And.intro (And.intro tyS_104 (And.intro tyS_108 tyS_112)) (And.intro tyS_124 (And.intro tyS_126 tyS_128))) (And.intro (And.intro tyS_132 (And.intro tyS_134 tyS_143)) (And.intro tyS_149 (And.intro tyS_161 tyS_164))))) (And.intro (And.intro (And.intro (And.intro tyS_22 (And.intro tyS_23 tyS_24)) (And.intro tyS_26 (And.intro tyS_28 tyS_3))) (And.intro (And.intro tyS_37 (And.intro tyS_38 tyS_4)) (And.intro tyS_71 (And.intro tyS_77 tyS_79)))) (And.intro (And.intro (And.intro tyS_81 (And.intro tyS_82 tyS_84)) (And.intro tyS_89 (And.intro tyS_97 tyS_98))) (And.intro (And.intro tyZ_100 (And.intro tyZ_104 tyZ_108)) (And.intro (And.intro tyZ_112 tyZ_119) (And.intro tyZ_120 tyZ_124)))))) (And.intro (And.intro (And.intro (And.intro (And.intro tyZ_126 (And.intro tyZ_132 tyZ_143)) (And.intro tyZ_149 (And.intro tyZ_24 tyZ_26))) (And.intro (And.intro tyZ_28 (And.intro tyZ_3 tyZ_37)) (And.intro tyZ_71 (And.intro tyZ_77 tyZ_79)))) (And.intro (And.intro (And.intro tyZ_84 (And.intro tyZ_89 plS_24_1_0)) (And.intro plB_77_0 (And.intro plB_79_0_1 plS_122_1_0))) (And.intro (And.intro z7k (And.intro plB_28_0_1 plB_84_)) (And.intro z7l (And.intro plB_126_0_1 plB_124_))))) (And.intro (And.intro (And.intro (And.intro plB_84_0_1 (And.intro z5p plB_104_0_1)) (And.intro plS_22_1_0 (And.intro lok2 lok3))) (And.intro (And.intro lok9 (And.intro lok12 lok13)) (And.intro lok14 (And.intro lok15 lok18)))) (And.intro (And.intro (And.intro lok20 (And.intro lok21 lok23)) (And.intro lok25 (And.intro lok26 lok28))) (And.intro (And.intro lok29 (And.intro lok30 lok31)) (And.intro (And.intro lok32 lok33) (And.intro zeroE_22 appF_22)))))))) := (And.intro (And.intro (And.intro (And.intro (And.intro (And.intro (And.intro elemF_105 (And.intro elemF_113 elemF_119)) (And.intro elemF_120 (And.intro elemF_122 elemF_124))) (And.intro (And.intro elemF_136 (And.intro elemF_147 elemF_149)) (And.intro elemF_22 (And.intro elemF_23 elemF_24)))) (And.intro (And.intro (And.intro elemF_40 (And.intro elemF_62 elemF_67)) (And.intro z96 (And.intro z95 hb_102))) (And.intro (And.intro hb_104 (And.intro hb_106 hb_108)) (And.intro hb_110 (And.intro hb_111 hb_114))))) (And.intro (And.intro (And.intro (And.intro hb_115 (And.intro hb_116 hb_120)) (And.intro hb_121 (And.intro hb_129 hb_13))) (And.intro (And.intro hb_132 (And.intro hb_133 hb_134)) (And.intro hb_137 (And.intro hb_138 hb_141)))) (And.intro (And.intro (And.intro hb_142 (And.intro hb_149 hb_15)) (And.intro hb_150 (And.intro hb_17 hb_19))) (And.intro (And.intro hb_22 (And.intro hb_34 hb_35)) (And.intro (And.intro hb_40 hb_41) (And.intro hb_42 hb_43)))))) (And.intro (And.intro (And.intro (And.intro (And.intro hb_44 (And.intro hb_52 hb_54)) (And.intro hb_55 (And.intro hb_60 hb_62))) (And.intro (And.intro hb_81 (And.intro hb_82 hb_83)) (And.intro hb_84 (And.intro hb_85 hb_86)))) (And.intro (And.intro (And.intro hb_88 (And.intro hb_89 hb_90)) (And.intro lenK_113 (And.intro lenK_122 lenK_136))) (And.intro (And.intro lenK_147 (And.intro lenK_22 lenK_23)) (And.intro lenK_24 (And.intro lenK_40 offF_100_0))))) (And.intro (And.intro (And.intro (And.intro offF_100_1 (And.intro offF_100_2 offF_104_0)) (And.intro offF_104_1 (And.intro offF_108_0 offF_108_1))) (And.intro (And.intro offF_108_2 (And.intro offF_112_0 offF_112_1)) (And.intro offF_126_0 (And.intro offF_126_1 offF_132_0)))) (And.intro (And.intro (And.intro offF_132_1 (And.intro offF_132_2 offF_26_0)) (And.intro offF_26_1 (And.intro offF_26_2 offF_26_3))) (And.intro (And.intro offF_26_4 (And.intro offF_26_5 offF_26_6)) (And.intro (And.intro offF_28_0 offF_28_1) (And.intro offF_71_0 offF_71_1))))))) (And.intro (And.intro (And.intro (And.intro (And.intro (And.intro offF_71_2 (And.intro offF_71_3 offF_77_0)) (And.intro offF_79_0 (And.intro offF_79_1 offF_84_0))) (And.intro (And.intro offF_84_1 (And.intro offF_89_0 offF_89_1)) (And.intro offF_89_2 (And.intro offF_89_3 tyS_100)))) (And.intro (And.intro (And.intro tyS_104 (And.intro tyS_108 tyS_112)) (And.intro tyS_124 (And.intro tyS_126 tyS_128))) (And.intro (And.intro tyS_132 (And.intro tyS_134 tyS_143)) (And.intro tyS_149 (And.intro tyS_161 tyS_164))))) (And.intro (And.intro (And.intro (And.intro tyS_22 (And.intro tyS_23 tyS_24)) (And.intro tyS_26 (And.intro tyS_28 tyS_3))) (And.intro (And.intro tyS_37 (And.intro tyS_38 tyS_4)) (And.intro tyS_71 (And.intro tyS_77 tyS_79)))) (And.intro (And.intro (And.intro tyS_81 (And.intro tyS_82 tyS_84)) (And.intro tyS_89 (And.intro tyS_97 tyS_98))) (And.intro (And.intro tyZ_100 (And.intro tyZ_104 tyZ_108)) (And.intro (And.intro tyZ_112 tyZ_119) (And.intro tyZ_120 tyZ_124)))))) (And.intro (And.intro (And.intro (And.intro (And.intro tyZ_126 (And.intro tyZ_132 tyZ_143)) (And.intro tyZ_149 (And.intro tyZ_24 tyZ_26))) (And.intro (And.intro tyZ_28 (And.intro tyZ_3 tyZ_37)) (And.intro tyZ_71 (And.intro tyZ_77 tyZ_79)))) (And.intro (And.intro (And.intro tyZ_84 (And.intro tyZ_89 plS_24_1_0)) (And.intro plB_77_0 (And.intro plB_79_0_1 plS_122_1_0))) (And.intro (And.intro z7k (And.intro plB_28_0_1 plB_84_)) (And.intro z7l (And.intro plB_126_0_1 plB_124_))))) (And.intro (And.intro (And.intro (And.intro plB_84_0_1 (And.intro z5p plB_104_0_1)) (And.intro plS_22_1_0 (And.intro lok2 lok3))) (And.intro (And.intro lok9 (And.intro lok12 lok13)) (And.intro lok14 (And.intro lok15 lok18)))) (And.intro (And.intro (And.intro lok20 (And.intro lok21 lok23)) (And.intro lok25 (And.intro lok26 lok28))) (And.intro (And.intro lok29 (And.intro lok30 lok31)) (And.intro (And.intro lok32 lok33) (And.intro zeroE_22 appF_22))))))))
theorem bl : type_of% (And.intro bq bf) := (And.intro bq bf)
theorem bm : type_of% (And.intro bl @fill_cons) := (And.intro bl @fill_cons)
theorem bz : type_of% (And.intro bm (And.intro @storeAt_eq @storeO.eq_1)) := (And.intro bm (And.intro @storeAt_eq @storeO.eq_1))
def inB (lo hi x : Int) : Bool := decide (lo ≤ x) && decide (x ≤ hi)
section
variable {S : Kn} (hS : S.Only [22]) {m : Nat} {h : Hp} {nx : Nat}
include hS
theorem c85 (hm : 1 ≤ m) (lo hi x : Int) : z07 85 [.agg #[vi lo, vi hi], vi x] (z08 Tryz.prog vmL S m) h nx = .gen (.bool (inB lo hi x)) h nx [] := by
  refine fun85.ground (hS _ _ _ _ (by decide)) hm rfl (by simp) ?_
  unfold inB
  by_cases h1 : lo ≤ x <;> by_cases h2 : x ≤ hi <;> simp (maxSteps := 10000000) (disch := omega) only [s85, h1, h2, bz, z00, Nat.reduceEqDiff, Nat.reduceLT, Nat.reduceAdd, Nat.reduceMul, Int.reduceToNat] <;> exact ⟨_, _, rfl⟩
theorem c40 (hm : 1 ≤ m) (x lo hi : Int) : z07 40 [vi x, vi lo, vi hi] (z08 Tryz.prog vmL S m) h nx = .gen (.bool (inB lo hi x)) h nx [] := by
  refine fun40.ground (hS _ _ _ _ (by decide)) hm rfl (by simp) ?_
  unfold inB
  by_cases h1 : lo ≤ x <;> by_cases h2 : x ≤ hi <;> simp (maxSteps := 10000000) (disch := omega) only [s40, h1, h2, bz, z00, Nat.reduceEqDiff, Nat.reduceLT, Nat.reduceAdd, Nat.reduceMul, Int.reduceToNat] <;> exact ⟨_, _, rfl⟩
theorem c109 (hm : 2 ≤ m) (hn : 1 ≤ nx) (hl : rowL h 0 = some limL) (x : Int) : z07 109 [vi x] (z08 Tryz.prog vmL S m) h nx = .gen (.bool (inB 1 1000 x)) h nx [] := by
  refine fun109.ground (hS _ _ _ _ (by decide)) (by omega) rfl (by simp) ?_
  have k85 := fun (h : Hp) (nx : Nat) (lo hi x : Int) => c85 hS (m := m - 1) (h := h) (nx := nx) (by omega) lo hi x
  simp (maxSteps := 10000000) (disch := omega) only [s109, k85, hl, bz, z00, Nat.reduceEqDiff, Nat.reduceLT, Nat.reduceAdd, Nat.reduceMul, Int.reduceToNat]
  exact ⟨_, _, rfl⟩
theorem c105 (hm : 2 ≤ m) (hn : 1 ≤ nx) (hl : rowL h 0 = some limL) (size weight worth : Int) (alone : Bool) : z07 105 [.agg #[vi size, vi weight, vi worth, .bool alone]] (z08 Tryz.prog vmL S m) h nx = .gen (.bool (inB 1 500 size && (inB 1 5000 weight && inB 0 10000 worth))) h nx [] := by
  refine fun105.ground (hS _ _ _ _ (by decide)) (by omega) rfl (by simp) ?_
  have k85 := fun (h : Hp) (nx : Nat) (lo hi x : Int) => c85 hS (m := m - 1) (h := h) (nx := nx) (by omega) lo hi x
  rcases Bool.eq_false_or_eq_true (inB 1 500 size) with h1 | h1 <;> rcases Bool.eq_false_or_eq_true (inB 1 5000 weight) with h2 | h2 <;> rcases Bool.eq_false_or_eq_true (inB 0 10000 worth) with h3 | h3 <;> simp (maxSteps := 10000000) (disch := omega) only [s105, k85, hl, h1, h2, h3, bz, z00, Nat.reduceEqDiff, Nat.reduceLT, Nat.reduceAdd, Nat.reduceMul, Int.reduceToNat] <;> exact ⟨_, _, rfl⟩
theorem c137 (hm : 1 ≤ m) (n : Int) : z07 137 [vi n] (z08 Tryz.prog vmL S m) h nx = .gen (.agg #[vi n, vi n]) h nx [] := by
  refine fun137.ground (hS _ _ _ _ (by decide)) (by omega) rfl (by simp) ?_
  simp (maxSteps := 10000000) (disch := omega) only [s137, bz, z00, Nat.reduceEqDiff, Nat.reduceLT, Nat.reduceAdd, Nat.reduceMul, Int.reduceToNat]
  exact ⟨_, _, rfl⟩
theorem c115 (hm : 1 ≤ m) (n : Int) (h0 : -9223372036854775807 ≤ n) (h1 : n ≤ 9223372036854775807) : z07 115 [vi n] (z08 Tryz.prog vmL S m) h nx = .gen (.agg #[vi 0, vi (n - 1)]) h nx [] := by
  refine fun115.ground (hS _ _ _ _ (by decide)) (by omega) rfl (by simp) ?_
  simp (maxSteps := 10000000) (disch := omega) only [s115, bz, z00, Nat.reduceEqDiff, Nat.reduceLT, Nat.reduceAdd, Nat.reduceMul, Int.reduceToNat]
  exact ⟨_, _, rfl⟩
theorem c141 (hm : 1 ≤ m) (a b : Int) (h0 : 0 ≤ a) (h1 : a ≤ 1000000000) (h2 : 1 ≤ b) (h3 : b ≤ 1000000) : z07 141 [vi a, vi b] (z08 Tryz.prog vmL S m) h nx = .gen (vi ((a + b - 1) / b)) h nx [] := by
  refine fun141.ground (hS _ _ _ _ (by decide)) (by omega) rfl (by simp) ?_
  have hq : (a + b - 1).tdiv b = (a + b - 1) / b := Int.tdiv_eq_ediv_of_nonneg (by omega)
  have hd : 0 ≤ (a + b - 1) / b := Int.ediv_nonneg (by omega) (by omega)
  have hd2 : (a + b - 1) / b ≤ a + b - 1 := Int.ediv_le_self _ (by omega)
  simp (maxSteps := 10000000) (disch := omega) only [s141, hq, bz, z00, Nat.reduceEqDiff, Nat.reduceLT, Nat.reduceAdd, Nat.reduceMul, Int.reduceToNat]
  exact ⟨_, _, rfl⟩
end
open Go Go.Proofs Go.Lm
set_option maxRecDepth 10000
set_option maxHeartbeats 8000000
theorem z1p {P : Program} {nv : Nat} {ih : Rec} {vs : Vs} {h : Hp} {nx : Nat} (t : Nat) (args : Array Operand) (ts : Array TypeId) : rOp P nv ih (.call { callee := .value (.tmp t), args := args, argTypes := ts }) vs h nx =
    match opV nv (.tmp t) vs, opVs nv vs args.toList with
    | some (.func (.func f) xs ys), some us => z07 f (xs.toList ++ us ++ ys.toList) ih h nx
    | some (.func (.yield l) xs ys), some us => bif xs.isEmpty && ys.isEmpty then z3w l us ih h nx else .bad
    | _, _ => .bad := o_callV (.tmp t) (fun f hf => by cases hf) args ts
theorem z3j {cs row : List Value} {o n : Nat} (ho : o + n ≤ cs.length) (hs : (cs.drop o).take n = row) : z0c true n cs o = some (.agg row.toArray) := by rw [z4p _ _ _ ho, hs]
theorem z2u {cs row : List Value} {o : Nat} {x : Value} (hs : (cs.drop o).take 1 = [x]) : z0c false 1 cs o = some x := by
  rw [z3k]
  cases hd : cs.drop o with
  | nil => rw [hd] at hs; cases hs
  | cons y l =>
    rw [hd] at hs
    simp at hs
    have := List.getElem?_drop (xs := cs) (i := o) (j := 0)
    rw [hd] at this
    simp at this
    rw [← this, hs]
theorem part1_el1 {cs row : List Value} {o : Nat} (hl : row.length = 1) (hs : (cs.drop o).take 1 = row) : z0c false 1 cs o = some (row.headD .nilFunc) := by
  cases row with
  | nil => cases hl
  | cons x l =>
    have : l = [] := by cases l with | nil => rfl | cons _ _ => simp at hl
    subst this
    exact z2u (row := [x]) hs
theorem loop149 {ih : Rec} {rows : List (List Value)} {z : Z} {vs : Vs} {h : Hp} {nx fc : Nat} {xs ys : List Value} {v : Value} {p : List Value → Bool} (hl : rows.length ≤ 140737488355328) (hv : Lst h nx 4 v rows)
    (hp : ∀ row, row ∈ rows → z07 fc (xs ++ [.agg row.toArray] ++ ys) ih h nx = .gen (.bool (p row)) h nx [])
    (g0 : vs 0 = some v) (g1 : vs 1 = some (.func (.func fc) xs.toArray ys.toArray)) (g7 : vs 7 = some (vi rows.length)) (g8 : vs 8 = some (vi 0)) {r : R} (hr : z0w (sC Tryz.prog 19 19 ih l149_0) z vs h nx = r) :
    (∃ i vs', rows.findIdx? p = some i ∧ r = .ret z vs' h nx ∧ vs' 4 = some (vi (i : Int))) ∨ (rows.findIdx? p = none ∧ ∃ vs', r = .exi 0 z vs' h nx) := by
  subst hr
  refine z0o (Post := fun r => (∃ i vs', rows.findIdx? p = some i ∧ r = .ret z vs' h nx ∧ vs' 4 = some (vi (i : Int))) ∨ (rows.findIdx? p = none ∧ ∃ vs', r = .exi 0 z vs' h nx))
    (fun i z' vs' h' nx' => i ≤ rows.length ∧ z' = z ∧ h' = h ∧ nx' = nx ∧ vs' 0 = some v ∧ vs' 1 = some (.func (.func fc) xs.toArray ys.toArray) ∧ vs' 7 = some (vi rows.length) ∧ vs' 8 = some (vi (i : Int)) ∧ ∀ j row, j < i → rows[j]? = some row → p row = false) rows.length (by omega)
    ⟨Nat.zero_le _, rfl, rfl, rfl, g0, g1, g7, g8, fun j row hj => by omega⟩ ?_
  rintro i z' vs' h' nx' ⟨hi, rfl, rfl, rfl, e0, e1, e7, e8, ef⟩
  obtain ⟨a, c, rfl, _⟩ := hv.form
  by_cases hlt : i < rows.length
  · obtain ⟨_, rr, o, row, cs, rfl, hrn, hrow, hrl, hcs, ho, hseg⟩ := hv.load (i := i) hlt
    have h1 : ((i : Int) < (rows.length : Int)) := by omega
    have hmem := List.mem_of_getElem? hrow
    have hc := hp row hmem
    have hel : z0c true 4 cs (o + i * 4) = some (.agg row.toArray) := z3j (by omega) hseg
    rcases Bool.eq_false_or_eq_true (p row) with hb | hb
    · right
      rw [hb] at hc
      have e : ∃ vs2, sC Tryz.prog 19 19 ih l149_0 z' vs' h' nx' = .ret z' vs2 h' nx' ∧ vs2 4 = some (vi (i : Int)) := by
        refine ⟨_, by simp (maxSteps := 10000000) (disch := omega) only [l149_0, e0, e1, e7, e8, hcs, hel, h1, hc, z1p, bz, z00, Nat.reduceEqDiff, Nat.reduceLT, Nat.reduceAdd, Nat.reduceMul, Int.reduceToNat]; exact rfl, ?_⟩
        simp only [z01, Nat.reduceEqDiff, decide_true, decide_false, cond_true, cond_false]
      obtain ⟨vs2, e, e4⟩ := e
      rw [e]
      refine ⟨trivial, .inl ⟨i, vs2, ?_, rfl, e4⟩⟩
      rw [List.findIdx?_eq_some_iff_getElem]
      refine ⟨hlt, ?_, fun j hj => ?_⟩
      · have : rows[i] = row := by have := List.getElem?_eq_getElem hlt; rw [this] at hrow; exact Option.some.inj hrow
        rw [this]; exact hb
      · have := ef j _ hj (List.getElem?_eq_getElem (by omega))
        simp [this]
    · left
      rw [hb] at hc
      refine ⟨hlt, z', _, h', nx', (by simp (maxSteps := 10000000) (disch := omega) only [l149_0, e0, e1, e7, e8, hcs, hel, h1, hc, z1p, bz, z00, Nat.reduceEqDiff, Nat.reduceLT, Nat.reduceAdd, Nat.reduceMul, Int.reduceToNat]; exact rfl), by omega, rfl, rfl, rfl, ?_, ?_, ?_, ?_, fun j row' hj hr' => ?_⟩
      · simp only [z01, Nat.reduceEqDiff, decide_true, decide_false, cond_true, cond_false, e0]
      · simp only [z01, Nat.reduceEqDiff, decide_true, decide_false, cond_true, cond_false, e1]
      · simp only [z01, Nat.reduceEqDiff, decide_true, decide_false, cond_true, cond_false, e7]
      · simp only [z01, Nat.reduceEqDiff, decide_true, decide_false, cond_true, cond_false]; rfl
      · by_cases hji : j = i
        · subst hji; rw [hr'] at hrow; cases hrow; exact hb
        · exact ef j row' (by omega) hr'
  · right
    have h1 : ¬ ((i : Int) < (rows.length : Int)) := by omega
    have e : ∃ vs2, sC Tryz.prog 19 19 ih l149_0 z' vs' h' nx' = .exi 0 z' vs2 h' nx' := ⟨_, by simp (maxSteps := 10000000) (disch := omega) only [l149_0, e0, e1, e7, e8, h1, bz, z00, Nat.reduceEqDiff, Nat.reduceLT, Nat.reduceAdd, Nat.reduceMul, Int.reduceToNat]; exact rfl⟩
    obtain ⟨vs2, e⟩ := e
    rw [e]
    refine ⟨trivial, .inr ⟨?_, vs2, rfl⟩⟩
    rw [List.findIdx?_eq_none_iff]
    intro row hr
    obtain ⟨j, hj, hjr⟩ := List.getElem_of_mem hr
    exact ef j row (by omega) (by rw [← hjr]; exact List.getElem?_eq_getElem hj)
theorem c149 {S : Kn} (hS : S.Only [22]) {m : Nat} (hm : 1 ≤ m) {rows : List (List Value)} {h : Hp} {nx fc : Nat} {xs ys : List Value} {v : Value} {p : List Value → Bool} (hl : rows.length ≤ 140737488355328) (hv : Lst h nx 4 v rows)
    (hp : ∀ row, row ∈ rows → z07 fc (xs ++ [.agg row.toArray] ++ ys) (z08 Tryz.prog vmL S (m - 1)) h nx = .gen (.bool (p row)) h nx []) :
    z07 149 [v, .func (.func fc) xs.toArray ys.toArray] (z08 Tryz.prog vmL S m) h nx = .gen (vi (match rows.findIdx? p with | some i => (i : Int) | none => -1)) h nx [] := by
  refine fun149.ground (hS _ _ _ _ (by decide)) (by omega) (by split <;> rfl) (by simp) ?_
  obtain ⟨a, c, rfl, _⟩ := hv.form
  simp (maxSteps := 10000000) (disch := omega) only [s149, z1x, bz, z00, Nat.reduceEqDiff, Nat.reduceLT, Nat.reduceAdd, Nat.reduceMul, Int.reduceToNat]
  generalize hr : z0w _ _ _ _ _ = r
  rcases loop149 (p := p) (xs := xs) (ys := ys) hl hv hp rfl rfl rfl rfl hr with ⟨i, vs', hf, rfl, e4⟩ | ⟨hf, vs', rfl⟩
  · rw [hf]
    exact ⟨_, _, by simp (maxSteps := 10000000) (disch := omega) only [e4, bz, z00, Nat.reduceEqDiff, Nat.reduceLT, Nat.reduceAdd, Nat.reduceMul, Int.reduceToNat]; rfl⟩
  · rw [hf]
    exact ⟨_, _, by simp (maxSteps := 10000000) (disch := omega) only [bz, z00, Nat.reduceEqDiff, Nat.reduceLT, Nat.reduceAdd, Nat.reduceMul, Int.reduceToNat]; rfl⟩
theorem c134 {S : Kn} (hS : S.Only [22]) {m : Nat} (hm : 2 ≤ m) {rows : List (List Value)} {h : Hp} {nx fc : Nat} {xs ys : List Value} {v : Value} {p : List Value → Bool} (hl : rows.length ≤ 140737488355328) (hv : Lst h nx 4 v rows)
    (hp : ∀ row, row ∈ rows → z07 fc (xs ++ [.agg row.toArray] ++ ys) (z08 Tryz.prog vmL S (m - 2)) h nx = .gen (.bool (p row)) h nx []) :
    z07 134 [v, .func (.func fc) xs.toArray ys.toArray] (z08 Tryz.prog vmL S m) h nx = .gen (.bool (rows.any p)) h nx [] := by
  refine fun134.ground (hS _ _ _ _ (by decide)) (by omega) rfl (by simp) ?_
  have k := c149 hS (m := m - 1) (by omega) hl hv (p := p) (xs := xs) (ys := ys) (fc := fc) (by rw [Nat.sub_sub]; exact hp)
  have ha : rows.any p = (rows.findIdx? p).isSome := by rw [List.findIdx?_isSome]
  rw [ha]
  cases hf : rows.findIdx? p with
  | none =>
    rw [hf] at k
    simp (maxSteps := 10000000) (disch := omega) only [s134, k, bz, z00, Nat.reduceEqDiff, Nat.reduceLT, Nat.reduceAdd, Nat.reduceMul, Int.reduceToNat]
    exact ⟨_, _, rfl⟩
  | some i =>
    rw [hf] at k
    have h1 : (0 : Int) ≤ (i : Int) := by omega
    simp (maxSteps := 10000000) (disch := omega) only [s134, k, h1, bz, z00, Nat.reduceEqDiff, Nat.reduceLT, Nat.reduceAdd, Nat.reduceMul, Int.reduceToNat]
    exact ⟨_, _, rfl⟩
theorem loop120 {ih : Rec} {rows : List (List Value)} {z : Z} {vs : Vs} {h : Hp} {nx fc : Nat} {xs ys : List Value} {v : Value} {p : List Value → Bool} (hl : rows.length ≤ 140737488355328) (hv : Lst h nx 4 v rows)
    (hp : ∀ row, row ∈ rows → z07 fc (xs ++ [.agg row.toArray] ++ ys) ih h nx = .gen (.bool (p row)) h nx [])
    (g0 : vs 0 = some v) (g1 : vs 1 = some (.func (.func fc) xs.toArray ys.toArray)) (g7 : vs 7 = some (vi rows.length)) (g8 : vs 8 = some (vi 0)) {r : R} (hr : z0w (sC Tryz.prog 19 19 ih l120_0) z vs h nx = r) :
    (∃ i vs', rows.findIdx? p = some i ∧ r = .ret z vs' h nx ∧ vs' 4 = some (vi (i : Int))) ∨ (rows.findIdx? p = none ∧ ∃ vs', r = .exi 0 z vs' h nx) := by
  subst hr
  refine z0o (Post := fun r => (∃ i vs', rows.findIdx? p = some i ∧ r = .ret z vs' h nx ∧ vs' 4 = some (vi (i : Int))) ∨ (rows.findIdx? p = none ∧ ∃ vs', r = .exi 0 z vs' h nx))
    (fun i z' vs' h' nx' => i ≤ rows.length ∧ z' = z ∧ h' = h ∧ nx' = nx ∧ vs' 0 = some v ∧ vs' 1 = some (.func (.func fc) xs.toArray ys.toArray) ∧ vs' 7 = some (vi rows.length) ∧ vs' 8 = some (vi (i : Int)) ∧ ∀ j row, j < i → rows[j]? = some row → p row = false) rows.length (by omega)
    ⟨Nat.zero_le _, rfl, rfl, rfl, g0, g1, g7, g8, fun j row hj => by omega⟩ ?_
  rintro i z' vs' h' nx' ⟨hi, rfl, rfl, rfl, e0, e1, e7, e8, ef⟩
  obtain ⟨a, c, rfl, _⟩ := hv.form
  by_cases hlt : i < rows.length
  · obtain ⟨_, rr, o, row, cs, rfl, hrn, hrow, hrl, hcs, ho, hseg⟩ := hv.load (i := i) hlt
    have h1 : ((i : Int) < (rows.length : Int)) := by omega
    have hmem := List.mem_of_getElem? hrow
    have hc := hp row hmem
    have hel : z0c true 4 cs (o + i * 4) = some (.agg row.toArray) := z3j (by omega) hseg
    rcases Bool.eq_false_or_eq_true (p row) with hb | hb
    · right
      rw [hb] at hc
      have e : ∃ vs2, sC Tryz.prog 19 19 ih l120_0 z' vs' h' nx' = .ret z' vs2 h' nx' ∧ vs2 4 = some (vi (i : Int)) := by
        refine ⟨_, by simp (maxSteps := 10000000) (disch := omega) only [l120_0, e0, e1, e7, e8, hcs, hel, h1, hc, z1p, bz, z00, Nat.reduceEqDiff, Nat.reduceLT, Nat.reduceAdd, Nat.reduceMul, Int.reduceToNat]; exact rfl, ?_⟩
        simp only [z01, Nat.reduceEqDiff, decide_true, decide_false, cond_true, cond_false]
      obtain ⟨vs2, e, e4⟩ := e
      rw [e]
      refine ⟨trivial, .inl ⟨i, vs2, ?_, rfl, e4⟩⟩
      rw [List.findIdx?_eq_some_iff_getElem]
      refine ⟨hlt, ?_, fun j hj => ?_⟩
      · have : rows[i] = row := by have := List.getElem?_eq_getElem hlt; rw [this] at hrow; exact Option.some.inj hrow
        rw [this]; exact hb
      · have := ef j _ hj (List.getElem?_eq_getElem (by omega))
        simp [this]
    · left
      rw [hb] at hc
      refine ⟨hlt, z', _, h', nx', (by simp (maxSteps := 10000000) (disch := omega) only [l120_0, e0, e1, e7, e8, hcs, hel, h1, hc, z1p, bz, z00, Nat.reduceEqDiff, Nat.reduceLT, Nat.reduceAdd, Nat.reduceMul, Int.reduceToNat]; exact rfl), by omega, rfl, rfl, rfl, ?_, ?_, ?_, ?_, fun j row' hj hr' => ?_⟩
      · simp only [z01, Nat.reduceEqDiff, decide_true, decide_false, cond_true, cond_false, e0]
      · simp only [z01, Nat.reduceEqDiff, decide_true, decide_false, cond_true, cond_false, e1]
      · simp only [z01, Nat.reduceEqDiff, decide_true, decide_false, cond_true, cond_false, e7]
      · simp only [z01, Nat.reduceEqDiff, decide_true, decide_false, cond_true, cond_false]; rfl
      · by_cases hji : j = i
        · subst hji; rw [hr'] at hrow; cases hrow; exact hb
        · exact ef j row' (by omega) hr'
  · right
    have h1 : ¬ ((i : Int) < (rows.length : Int)) := by omega
    have e : ∃ vs2, sC Tryz.prog 19 19 ih l120_0 z' vs' h' nx' = .exi 0 z' vs2 h' nx' := ⟨_, by simp (maxSteps := 10000000) (disch := omega) only [l120_0, e0, e1, e7, e8, h1, bz, z00, Nat.reduceEqDiff, Nat.reduceLT, Nat.reduceAdd, Nat.reduceMul, Int.reduceToNat]; exact rfl⟩
    obtain ⟨vs2, e⟩ := e
    rw [e]
    refine ⟨trivial, .inr ⟨?_, vs2, rfl⟩⟩
    rw [List.findIdx?_eq_none_iff]
    intro row hr
    obtain ⟨j, hj, hjr⟩ := List.getElem_of_mem hr
    exact ef j row (by omega) (by rw [← hjr]; exact List.getElem?_eq_getElem hj)
theorem c120 {S : Kn} (hS : S.Only [22]) {m : Nat} (hm : 1 ≤ m) {rows : List (List Value)} {h : Hp} {nx fc : Nat} {xs ys : List Value} {v : Value} {p : List Value → Bool} (hl : rows.length ≤ 140737488355328) (hv : Lst h nx 4 v rows)
    (hp : ∀ row, row ∈ rows → z07 fc (xs ++ [.agg row.toArray] ++ ys) (z08 Tryz.prog vmL S (m - 1)) h nx = .gen (.bool (p row)) h nx []) :
    z07 120 [v, .func (.func fc) xs.toArray ys.toArray] (z08 Tryz.prog vmL S m) h nx = .gen (vi (match rows.findIdx? p with | some i => (i : Int) | none => -1)) h nx [] := by
  refine fun120.ground (hS _ _ _ _ (by decide)) (by omega) (by split <;> rfl) (by simp) ?_
  obtain ⟨a, c, rfl, _⟩ := hv.form
  simp (maxSteps := 10000000) (disch := omega) only [s120, z1x, bz, z00, Nat.reduceEqDiff, Nat.reduceLT, Nat.reduceAdd, Nat.reduceMul, Int.reduceToNat]
  generalize hr : z0w _ _ _ _ _ = r
  rcases loop120 (p := p) (xs := xs) (ys := ys) hl hv hp rfl rfl rfl rfl hr with ⟨i, vs', hf, rfl, e4⟩ | ⟨hf, vs', rfl⟩
  · rw [hf]
    exact ⟨_, _, by simp (maxSteps := 10000000) (disch := omega) only [e4, bz, z00, Nat.reduceEqDiff, Nat.reduceLT, Nat.reduceAdd, Nat.reduceMul, Int.reduceToNat]; rfl⟩
  · rw [hf]
    exact ⟨_, _, by simp (maxSteps := 10000000) (disch := omega) only [bz, z00, Nat.reduceEqDiff, Nat.reduceLT, Nat.reduceAdd, Nat.reduceMul, Int.reduceToNat]; rfl⟩
theorem c89 {S : Kn} (hS : S.Only [22]) {m : Nat} (hm : 2 ≤ m) {rows : List (List Value)} {h : Hp} {nx fc : Nat} {xs ys : List Value} {v : Value} {p : List Value → Bool} (hl : rows.length ≤ 140737488355328) (hv : Lst h nx 4 v rows)
    (hp : ∀ row, row ∈ rows → z07 fc (xs ++ [.agg row.toArray] ++ ys) (z08 Tryz.prog vmL S (m - 2)) h nx = .gen (.bool (p row)) h nx []) :
    z07 89 [v, .func (.func fc) xs.toArray ys.toArray] (z08 Tryz.prog vmL S m) h nx = .gen (.bool (rows.any p)) h nx [] := by
  refine fun89.ground (hS _ _ _ _ (by decide)) (by omega) rfl (by simp) ?_
  have k := c120 hS (m := m - 1) (by omega) hl hv (p := p) (xs := xs) (ys := ys) (fc := fc) (by rw [Nat.sub_sub]; exact hp)
  have ha : rows.any p = (rows.findIdx? p).isSome := by rw [List.findIdx?_isSome]
  rw [ha]
  cases hf : rows.findIdx? p with
  | none =>
    rw [hf] at k
    simp (maxSteps := 10000000) (disch := omega) only [s89, k, bz, z00, Nat.reduceEqDiff, Nat.reduceLT, Nat.reduceAdd, Nat.reduceMul, Int.reduceToNat]
    exact ⟨_, _, rfl⟩
  | some i =>
    rw [hf] at k
    have h1 : (0 : Int) ≤ (i : Int) := by omega
    simp (maxSteps := 10000000) (disch := omega) only [s89, k, h1, bz, z00, Nat.reduceEqDiff, Nat.reduceLT, Nat.reduceAdd, Nat.reduceMul, Int.reduceToNat]
    exact ⟨_, _, rfl⟩
theorem loop150 {ih : Rec} {rows : List (List Value)} {z : Z} {vs : Vs} {h : Hp} {nx fc : Nat} {xs ys : List Value} {v : Value} {p : List Value → Bool} (hl : rows.length ≤ 140737488355328) (hv : Lst h nx 1 v rows)
    (hp : ∀ row, row ∈ rows → z07 fc (xs ++ [row.headD .nilFunc] ++ ys) ih h nx = .gen (.bool (p row)) h nx [])
    (g0 : vs 0 = some v) (g1 : vs 1 = some (.func (.func fc) xs.toArray ys.toArray)) (g7 : vs 7 = some (vi rows.length)) (g8 : vs 8 = some (vi 0)) {r : R} (hr : z0w (sC Tryz.prog 19 19 ih l150_0) z vs h nx = r) :
    (∃ i vs', rows.findIdx? p = some i ∧ r = .ret z vs' h nx ∧ vs' 4 = some (vi (i : Int))) ∨ (rows.findIdx? p = none ∧ ∃ vs', r = .exi 0 z vs' h nx) := by
  subst hr
  refine z0o (Post := fun r => (∃ i vs', rows.findIdx? p = some i ∧ r = .ret z vs' h nx ∧ vs' 4 = some (vi (i : Int))) ∨ (rows.findIdx? p = none ∧ ∃ vs', r = .exi 0 z vs' h nx))
    (fun i z' vs' h' nx' => i ≤ rows.length ∧ z' = z ∧ h' = h ∧ nx' = nx ∧ vs' 0 = some v ∧ vs' 1 = some (.func (.func fc) xs.toArray ys.toArray) ∧ vs' 7 = some (vi rows.length) ∧ vs' 8 = some (vi (i : Int)) ∧ ∀ j row, j < i → rows[j]? = some row → p row = false) rows.length (by omega)
    ⟨Nat.zero_le _, rfl, rfl, rfl, g0, g1, g7, g8, fun j row hj => by omega⟩ ?_
  rintro i z' vs' h' nx' ⟨hi, rfl, rfl, rfl, e0, e1, e7, e8, ef⟩
  obtain ⟨a, c, rfl, _⟩ := hv.form
  by_cases hlt : i < rows.length
  · obtain ⟨_, rr, o, row, cs, rfl, hrn, hrow, hrl, hcs, ho, hseg⟩ := hv.load (i := i) hlt
    have h1 : ((i : Int) < (rows.length : Int)) := by omega
    have hmem := List.mem_of_getElem? hrow
    have hc := hp row hmem
    have hel : z0c false 1 cs (o + i * 1) = some (row.headD .nilFunc) := part1_el1 hrl hseg
    rcases Bool.eq_false_or_eq_true (p row) with hb | hb
    · right
      rw [hb] at hc
      have e : ∃ vs2, sC Tryz.prog 19 19 ih l150_0 z' vs' h' nx' = .ret z' vs2 h' nx' ∧ vs2 4 = some (vi (i : Int)) := by
        refine ⟨_, by simp (maxSteps := 10000000) (disch := omega) only [l150_0, e0, e1, e7, e8, hcs, hel, h1, hc, z1p, bz, z00, Nat.reduceEqDiff, Nat.reduceLT, Nat.reduceAdd, Nat.reduceMul, Int.reduceToNat]; exact rfl, ?_⟩
        simp only [z01, Nat.reduceEqDiff, decide_true, decide_false, cond_true, cond_false]
      obtain ⟨vs2, e, e4⟩ := e
      rw [e]
      refine ⟨trivial, .inl ⟨i, vs2, ?_, rfl, e4⟩⟩
      rw [List.findIdx?_eq_some_iff_getElem]
      refine ⟨hlt, ?_, fun j hj => ?_⟩
      · have : rows[i] = row := by have := List.getElem?_eq_getElem hlt; rw [this] at hrow; exact Option.some.inj hrow
        rw [this]; exact hb
      · have := ef j _ hj (List.getElem?_eq_getElem (by omega))
        simp [this]
    · left
      rw [hb] at hc
      refine ⟨hlt, z', _, h', nx', (by simp (maxSteps := 10000000) (disch := omega) only [l150_0, e0, e1, e7, e8, hcs, hel, h1, hc, z1p, bz, z00, Nat.reduceEqDiff, Nat.reduceLT, Nat.reduceAdd, Nat.reduceMul, Int.reduceToNat]; exact rfl), by omega, rfl, rfl, rfl, ?_, ?_, ?_, ?_, fun j row' hj hr' => ?_⟩
      · simp only [z01, Nat.reduceEqDiff, decide_true, decide_false, cond_true, cond_false, e0]
      · simp only [z01, Nat.reduceEqDiff, decide_true, decide_false, cond_true, cond_false, e1]
      · simp only [z01, Nat.reduceEqDiff, decide_true, decide_false, cond_true, cond_false, e7]
      · simp only [z01, Nat.reduceEqDiff, decide_true, decide_false, cond_true, cond_false]; rfl
      · by_cases hji : j = i
        · subst hji; rw [hr'] at hrow; cases hrow; exact hb
        · exact ef j row' (by omega) hr'
  · right
    have h1 : ¬ ((i : Int) < (rows.length : Int)) := by omega
    have e : ∃ vs2, sC Tryz.prog 19 19 ih l150_0 z' vs' h' nx' = .exi 0 z' vs2 h' nx' := ⟨_, by simp (maxSteps := 10000000) (disch := omega) only [l150_0, e0, e1, e7, e8, h1, bz, z00, Nat.reduceEqDiff, Nat.reduceLT, Nat.reduceAdd, Nat.reduceMul, Int.reduceToNat]; exact rfl⟩
    obtain ⟨vs2, e⟩ := e
    rw [e]
    refine ⟨trivial, .inr ⟨?_, vs2, rfl⟩⟩
    rw [List.findIdx?_eq_none_iff]
    intro row hr
    obtain ⟨j, hj, hjr⟩ := List.getElem_of_mem hr
    exact ef j row (by omega) (by rw [← hjr]; exact List.getElem?_eq_getElem hj)
theorem c150 {S : Kn} (hS : S.Only [22]) {m : Nat} (hm : 1 ≤ m) {rows : List (List Value)} {h : Hp} {nx fc : Nat} {xs ys : List Value} {v : Value} {p : List Value → Bool} (hl : rows.length ≤ 140737488355328) (hv : Lst h nx 1 v rows)
    (hp : ∀ row, row ∈ rows → z07 fc (xs ++ [row.headD .nilFunc] ++ ys) (z08 Tryz.prog vmL S (m - 1)) h nx = .gen (.bool (p row)) h nx []) :
    z07 150 [v, .func (.func fc) xs.toArray ys.toArray] (z08 Tryz.prog vmL S m) h nx = .gen (vi (match rows.findIdx? p with | some i => (i : Int) | none => -1)) h nx [] := by
  refine fun150.ground (hS _ _ _ _ (by decide)) (by omega) (by split <;> rfl) (by simp) ?_
  obtain ⟨a, c, rfl, _⟩ := hv.form
  simp (maxSteps := 10000000) (disch := omega) only [s150, z1x, bz, z00, Nat.reduceEqDiff, Nat.reduceLT, Nat.reduceAdd, Nat.reduceMul, Int.reduceToNat]
  generalize hr : z0w _ _ _ _ _ = r
  rcases loop150 (p := p) (xs := xs) (ys := ys) hl hv hp rfl rfl rfl rfl hr with ⟨i, vs', hf, rfl, e4⟩ | ⟨hf, vs', rfl⟩
  · rw [hf]
    exact ⟨_, _, by simp (maxSteps := 10000000) (disch := omega) only [e4, bz, z00, Nat.reduceEqDiff, Nat.reduceLT, Nat.reduceAdd, Nat.reduceMul, Int.reduceToNat]; rfl⟩
  · rw [hf]
    exact ⟨_, _, by simp (maxSteps := 10000000) (disch := omega) only [bz, z00, Nat.reduceEqDiff, Nat.reduceLT, Nat.reduceAdd, Nat.reduceMul, Int.reduceToNat]; rfl⟩
theorem c138 {S : Kn} (hS : S.Only [22]) {m : Nat} (hm : 2 ≤ m) {rows : List (List Value)} {h : Hp} {nx fc : Nat} {xs ys : List Value} {v : Value} {p : List Value → Bool} (hl : rows.length ≤ 140737488355328) (hv : Lst h nx 1 v rows)
    (hp : ∀ row, row ∈ rows → z07 fc (xs ++ [row.headD .nilFunc] ++ ys) (z08 Tryz.prog vmL S (m - 2)) h nx = .gen (.bool (p row)) h nx []) :
    z07 138 [v, .func (.func fc) xs.toArray ys.toArray] (z08 Tryz.prog vmL S m) h nx = .gen (.bool (rows.any p)) h nx [] := by
  refine fun138.ground (hS _ _ _ _ (by decide)) (by omega) rfl (by simp) ?_
  have k := c150 hS (m := m - 1) (by omega) hl hv (p := p) (xs := xs) (ys := ys) (fc := fc) (by rw [Nat.sub_sub]; exact hp)
  have ha : rows.any p = (rows.findIdx? p).isSome := by rw [List.findIdx?_isSome]
  rw [ha]
  cases hf : rows.findIdx? p with
  | none =>
    rw [hf] at k
    simp (maxSteps := 10000000) (disch := omega) only [s138, k, bz, z00, Nat.reduceEqDiff, Nat.reduceLT, Nat.reduceAdd, Nat.reduceMul, Int.reduceToNat]
    exact ⟨_, _, rfl⟩
  | some i =>
    rw [hf] at k
    have h1 : (0 : Int) ≤ (i : Int) := by omega
    simp (maxSteps := 10000000) (disch := omega) only [s138, k, h1, bz, z00, Nat.reduceEqDiff, Nat.reduceLT, Nat.reduceAdd, Nat.reduceMul, Int.reduceToNat]
    exact ⟨_, _, rfl⟩
theorem c135 {S : Kn} (hS : S.Only [22]) {m : Nat} (hm : 1 ≤ m) {row : List Value} (hrl : row.length = 4) {h : Hp} {nx b g : Nat} (hb : b < nx) (hr : rowL h b = some [.func (.func g) #[] #[]]) {y : Bool}
    (hp : ∀ h' nx', nx ≤ nx' → Same nx h h' → z07 g [.agg row.toArray] (z08 Tryz.prog vmL S (m - 1)) h' nx' = .gen (.bool y) h' nx' []) :
    z07 135 [.agg row.toArray, .pointer (some ⟨b, 0, none⟩)] (z08 Tryz.prog vmL S m) h nx = .gen (.bool (!y)) h nx [] := by
  refine fun135.ground (hS _ _ _ _ (by decide)) (by omega) rfl (by simp) ?_
  have hk := hp (hset h nx (.cells row none)) (nx + 1) (by omega) ((Same.refl nx h).set (Nat.le_refl _) _)
  have ht : (row.drop 0).take 4 = row := by rw [List.drop_zero]; exact List.take_of_length_le (by omega)
  have hpt : z0c true 4 row 0 = some (.agg row.toArray) := by rw [z4p _ _ _ (by omega), ht]
  simp (maxSteps := 10000000) (disch := omega) only [s135, hr, hk, hpt, z1p, List.nil_append, List.append_nil, List.cons_append, bz, z00, Nat.reduceEqDiff, Nat.reduceLT, Nat.reduceAdd, Nat.reduceMul, Int.reduceToNat]
  exact ⟨_, _, rfl⟩
theorem c104 {S : Kn} (hS : S.Only [22]) {m : Nat} (hm : 4 ≤ m) {rows : List (List Value)} {h : Hp} {nx g : Nat} {v : Value} {p : List Value → Bool} (hl : rows.length ≤ 140737488355328) (hv : Lst h nx 4 v rows) (lo hi : Int)
    (hp : ∀ row, row ∈ rows → ∀ h' nx', nx ≤ nx' → Same nx h h' → z07 g [.agg row.toArray] (z08 Tryz.prog vmL S (m - 4)) h' nx' = .gen (.bool (p row)) h' nx' []) :
    z07 104 [.agg #[vi lo, vi hi], v, .func (.func g) #[] #[]] (z08 Tryz.prog vmL S m) h nx = .gen (.bool (inB lo hi rows.length && rows.all p)) h nx [] := by
  refine fun104.ground (hS _ _ _ _ (by decide)) (by omega) rfl (by simp) ?_
  have k85 := fun (h : Hp) (nx : Nat) (lo hi x : Int) => c85 hS (m := m - 1) (h := h) (nx := nx) (by omega) lo hi x
  obtain ⟨a, c, hve, hrs⟩ := hv.form
  subst hve
  have hsm : Same nx h (hset (hset h nx (.cells [vi lo, vi hi] none)) (nx + 1) (.cells [.func (.func g) #[] #[]] none)) := ((Same.refl nx h).set (Nat.le_refl _) _).set (by omega) _
  have k := c134 hS (m := m - 1) (by omega) (fc := 135) (xs := []) (ys := [.pointer (some ⟨nx + 1, 0, none⟩)]) (p := fun row => !p row) hl (hv.same hsm (nx' := nx + 1 + 1) (by omega)) (fun row hrow => by
    obtain ⟨i, hi, hri⟩ := List.getElem_of_mem hrow
    have hlen := (hrs i row (by rw [← hri]; exact List.getElem?_eq_getElem hi)).1
    refine c135 hS (by omega) hlen (by omega) (z03 _ _) (fun h' nx' hn hs => ?_)
    rw [show m - 1 - 2 - 1 = m - 4 by omega]
    exact hp row hrow h' nx' (by omega) (hsm.trans (hs.mono (by omega))))
  have hall : rows.all p = !rows.any (fun row => !p row) := by simp [List.all_eq_not_any_not]
  rw [hall]
  rcases Bool.eq_false_or_eq_true (inB lo hi rows.length) with h1 | h1 <;> simp (maxSteps := 10000000) (disch := omega) only [s104, k85, h1, k, z1p, bz, z00, Nat.reduceEqDiff, Nat.reduceLT, Nat.reduceAdd, Nat.reduceMul, Int.reduceToNat] <;> exact ⟨_, _, rfl⟩
theorem c136 {S : Kn} (hS : S.Only [22]) {m : Nat} (hm : 1 ≤ m) {row : List Value} (hrl : row.length = 4) {h : Hp} {nx b g : Nat} (hb : b < nx) (hr : rowL h b = some [.func (.func g) #[] #[]]) {y : Bool}
    (hp : ∀ h' nx', nx ≤ nx' → Same nx h h' → z07 g [.agg row.toArray] (z08 Tryz.prog vmL S (m - 1)) h' nx' = .gen (.bool y) h' nx' []) :
    z07 136 [.agg row.toArray, .pointer (some ⟨b, 0, none⟩)] (z08 Tryz.prog vmL S m) h nx = .gen (.bool (!y)) h nx [] := by
  refine fun136.ground (hS _ _ _ _ (by decide)) (by omega) rfl (by simp) ?_
  have hk := hp (hset h nx (.cells row none)) (nx + 1) (by omega) ((Same.refl nx h).set (Nat.le_refl _) _)
  have ht : (row.drop 0).take 4 = row := by rw [List.drop_zero]; exact List.take_of_length_le (by omega)
  have hpt : z0c true 4 row 0 = some (.agg row.toArray) := by rw [z4p _ _ _ (by omega), ht]
  simp (maxSteps := 10000000) (disch := omega) only [s136, hr, hk, hpt, z1p, List.nil_append, List.append_nil, List.cons_append, bz, z00, Nat.reduceEqDiff, Nat.reduceLT, Nat.reduceAdd, Nat.reduceMul, Int.reduceToNat]
  exact ⟨_, _, rfl⟩
theorem c106 {S : Kn} (hS : S.Only [22]) {m : Nat} (hm : 4 ≤ m) {rows : List (List Value)} {h : Hp} {nx g : Nat} {v : Value} {p : List Value → Bool} (hl : rows.length ≤ 140737488355328) (hv : Lst h nx 4 v rows) (lo hi : Int)
    (hp : ∀ row, row ∈ rows → ∀ h' nx', nx ≤ nx' → Same nx h h' → z07 g [.agg row.toArray] (z08 Tryz.prog vmL S (m - 4)) h' nx' = .gen (.bool (p row)) h' nx' []) :
    z07 106 [.agg #[vi lo, vi hi], v, .func (.func g) #[] #[]] (z08 Tryz.prog vmL S m) h nx = .gen (.bool (inB lo hi rows.length && rows.all p)) h nx [] := by
  refine fun106.ground (hS _ _ _ _ (by decide)) (by omega) rfl (by simp) ?_
  have k85 := fun (h : Hp) (nx : Nat) (lo hi x : Int) => c85 hS (m := m - 1) (h := h) (nx := nx) (by omega) lo hi x
  obtain ⟨a, c, hve, hrs⟩ := hv.form
  subst hve
  have hsm : Same nx h (hset (hset h nx (.cells [vi lo, vi hi] none)) (nx + 1) (.cells [.func (.func g) #[] #[]] none)) := ((Same.refl nx h).set (Nat.le_refl _) _).set (by omega) _
  have k := c89 hS (m := m - 1) (by omega) (fc := 136) (xs := []) (ys := [.pointer (some ⟨nx + 1, 0, none⟩)]) (p := fun row => !p row) hl (hv.same hsm (nx' := nx + 1 + 1) (by omega)) (fun row hrow => by
    obtain ⟨i, hi, hri⟩ := List.getElem_of_mem hrow
    have hlen := (hrs i row (by rw [← hri]; exact List.getElem?_eq_getElem hi)).1
    refine c136 hS (by omega) hlen (by omega) (z03 _ _) (fun h' nx' hn hs => ?_)
    rw [show m - 1 - 2 - 1 = m - 4 by omega]
    exact hp row hrow h' nx' (by omega) (hsm.trans (hs.mono (by omega))))
  have hall : rows.all p = !rows.any (fun row => !p row) := by simp [List.all_eq_not_any_not]
  rw [hall]
  rcases Bool.eq_false_or_eq_true (inB lo hi rows.length) with h1 | h1 <;> simp (maxSteps := 10000000) (disch := omega) only [s106, k85, h1, k, z1p, bz, z00, Nat.reduceEqDiff, Nat.reduceLT, Nat.reduceAdd, Nat.reduceMul, Int.reduceToNat] <;> exact ⟨_, _, rfl⟩
def ints (xs : List Int) : List (List Value) := xs.map fun x => [vi x]
theorem z7u (xs : List Int) : (ints xs).length = xs.length := by simp [ints]
theorem c139 {S : Kn} (hS : S.Only [22]) {m : Nat} (hm : 1 ≤ m) (x : Int) {h : Hp} {nx b g : Nat} (hb : b < nx) (hr : rowL h b = some [.func (.func g) #[] #[]]) {y : Bool}
    (hp : z07 g [vi x] (z08 Tryz.prog vmL S (m - 1)) h nx = .gen (.bool y) h nx []) :
    z07 139 [vi x, .pointer (some ⟨b, 0, none⟩)] (z08 Tryz.prog vmL S m) h nx = .gen (.bool (!y)) h nx [] := by
  refine fun139.ground (hS _ _ _ _ (by decide)) (by omega) rfl (by simp) ?_
  simp (maxSteps := 10000000) (disch := omega) only [s139, hr, hp, z1p, List.nil_append, List.append_nil, List.cons_append, bz, z00, Nat.reduceEqDiff, Nat.reduceLT, Nat.reduceAdd, Nat.reduceMul, Int.reduceToNat]
  exact ⟨_, _, rfl⟩
theorem c108 {S : Kn} (hS : S.Only [22]) {m : Nat} (hm : 4 ≤ m) {xs : List Int} {h : Hp} {nx g : Nat} {v : Value} {p : Int → Bool} (hl : xs.length ≤ 140737488355328) (hv : Lst h nx 1 v (ints xs)) (lo hi : Int)
    (hp : ∀ x, x ∈ xs → ∀ h' nx', nx ≤ nx' → Same nx h h' → z07 g [vi x] (z08 Tryz.prog vmL S (m - 4)) h' nx' = .gen (.bool (p x)) h' nx' []) :
    z07 108 [.agg #[vi lo, vi hi], v, .func (.func g) #[] #[]] (z08 Tryz.prog vmL S m) h nx = .gen (.bool (inB lo hi xs.length && xs.all p)) h nx [] := by
  refine fun108.ground (hS _ _ _ _ (by decide)) (by omega) rfl (by simp) ?_
  have k85 := fun (h : Hp) (nx : Nat) (lo hi x : Int) => c85 hS (m := m - 1) (h := h) (nx := nx) (by omega) lo hi x
  obtain ⟨a, c, hve, hrs⟩ := hv.form
  rw [z7u] at hve
  subst hve
  have hsm : Same nx h (hset (hset h nx (.cells [vi lo, vi hi] none)) (nx + 1) (.cells [.func (.func g) #[] #[]] none)) := ((Same.refl nx h).set (Nat.le_refl _) _).set (by omega) _
  let q : List Value → Bool := fun row => match row with | [.int _ x] => !p x | _ => false
  have k := c138 hS (m := m - 1) (by omega) (fc := 139) (xs := []) (ys := [.pointer (some ⟨nx + 1, 0, none⟩)]) (p := q) (rows := ints xs) (by rw [z7u]; exact hl) (hv.same hsm (nx' := nx + 1 + 1) (by omega)) (fun row hrow => by
    obtain ⟨x, hx, rfl⟩ := List.mem_map.1 hrow
    refine c139 hS (by omega) x (by omega) (z03 _ _) ?_
    rw [show m - 1 - 2 - 1 = m - 4 by omega]
    exact hp x hx _ _ (by omega) hsm)
  have hall : xs.all p = !(ints xs).any q := by
    rw [ints, List.any_map, List.all_eq_not_any_not]
    rfl
  rw [hall]
  rcases Bool.eq_false_or_eq_true (inB lo hi xs.length) with h1 | h1 <;> simp (maxSteps := 10000000) (disch := omega) only [s108, k85, h1, k, z1p, bz, z00, Nat.reduceEqDiff, Nat.reduceLT, Nat.reduceAdd, Nat.reduceMul, Int.reduceToNat] <;> exact ⟨_, _, rfl⟩
def incB : List Int → Bool
  | [] => true
  | [_] => true
  | a :: b :: l => decide (a < b) && incB (b :: l)
theorem incB_iff : ∀ (l : List Int), incB l = true ↔ ∀ (j : Nat) a b, l[j]? = some a → l[j + 1]? = some b → a < b := by
  intro l
  induction l with
  | nil => simp [incB]
  | cons a l ih =>
    cases l with
    | nil => simp [incB]
    | cons b l =>
      rw [incB, Bool.and_eq_true, ih]
      constructor
      · rintro ⟨h1, h2⟩ j x y hx hy
        cases j with
        | zero => simp at hx hy; subst hx hy; simpa using h1
        | succ j => exact h2 j x y (by simpa using hx) (by simpa using hy)
      · intro h
        exact ⟨by simpa using h 0 a b rfl rfl, fun j x y hx hy => h (j + 1) x y (by simpa using hx) (by simpa using hy)⟩
theorem loop110 {ih : Rec} {xs : List Int} {z : Z} {vs : Vs} {h : Hp} {nx : Nat} {v : Value} (hl : xs.length ≤ 140737488355328) (hv : Lst h nx 1 v (ints xs))
    (g0 : vs 0 = some v) (g5 : vs 5 = some v) (g6 : vs 6 = some (vi xs.length)) (g7 : vs 7 = some (vi 0)) {r : R} (hr : z0w (sC Tryz.prog 24 24 ih z92) z vs h nx = r) :
    (incB xs = false ∧ ∃ vs', r = .ret z vs' h nx ∧ vs' 2 = some (.bool false)) ∨ (incB xs = true ∧ ∃ vs', r = .exi 0 z vs' h nx) := by
  subst hr
  refine z0o (Post := fun r => (incB xs = false ∧ ∃ vs', r = .ret z vs' h nx ∧ vs' 2 = some (.bool false)) ∨ (incB xs = true ∧ ∃ vs', r = .exi 0 z vs' h nx))
    (fun i z' vs' h' nx' => i ≤ xs.length ∧ z' = z ∧ h' = h ∧ nx' = nx ∧ vs' 0 = some v ∧ vs' 5 = some v ∧ vs' 6 = some (vi xs.length) ∧ vs' 7 = some (vi (i : Int)) ∧ ∀ (j : Nat) a b, j + 1 < i → xs[j]? = some a → xs[j + 1]? = some b → a < b) xs.length (by omega)
    ⟨Nat.zero_le _, rfl, rfl, rfl, g0, g5, g6, g7, fun j a b hj => by omega⟩ ?_
  rintro i z' vs' h' nx' ⟨hi, rfl, rfl, rfl, e0, e5, e6, e7, ef⟩
  obtain ⟨a, c, hve, _⟩ := hv.form
  rw [z7u] at hve
  subst hve
  have hlen := z7u xs
  by_cases hlt : i < xs.length
  · obtain ⟨_, rr, o, row, cs, rfl, hrn, hrow, hrl, hcs, ho, hseg⟩ := hv.load (i := i) hlt
    have h1 : ((i : Int) < (xs.length : Int)) := by omega
    rw [ints, List.getElem?_map, List.getElem?_eq_getElem hlt] at hrow
    cases hrow
    have hel : z0c false 1 cs (o + i * 1) = some (vi xs[i]) := z2u (row := []) hseg
    have hel' : cs[o + i * 1]? = some (vi xs[i]) := by rw [← z3k 1]; exact hel
    cases i with
    | zero =>
      left
      have h2 : ¬ ((0 : Int) < 0) := by omega
      have hel0 : cs[o]? = some (vi xs[0]) := by simpa using hel'
      have c0 : ((0 : Nat) : Int) = 0 := rfl
      rw [c0] at e7 h1
      refine ⟨hlt, z', _, h', nx', (by simp (maxSteps := 10000000) (disch := omega) only [z92, e0, e5, e6, e7, hcs, hel0, h1, h2, Int.toNat_zero, Nat.zero_mul, z1p, bz, z00, Nat.reduceEqDiff, Nat.reduceLT, Nat.reduceAdd, Nat.reduceMul, Int.reduceToNat]; exact rfl), by omega, rfl, rfl, rfl, ?_, ?_, ?_, ?_, fun j a b hj => by omega⟩
      · simp only [z01, Nat.reduceEqDiff, decide_true, decide_false, cond_true, cond_false, e0]
      · simp only [z01, Nat.reduceEqDiff, decide_true, decide_false, cond_true, cond_false, e5]
      · simp only [z01, Nat.reduceEqDiff, decide_true, decide_false, cond_true, cond_false, e6]
      · simp only [z01, Nat.reduceEqDiff, decide_true, decide_false, cond_true, cond_false]; rfl
    | succ i =>
      obtain ⟨_, rr2, o2, row2, cs2, heq, hrn2, hrow2, hrl2, hcs2, ho2, hseg2⟩ := hv.load (i := i) (by omega)
      cases heq
      rw [hcs] at hcs2
      cases hcs2
      rw [ints, List.getElem?_map, List.getElem?_eq_getElem (show i < xs.length by omega)] at hrow2
      have hrow3 : [vi xs[i]] = row2 := by simpa using hrow2
      subst hrow3
      have hel2 : z0c false 1 cs (o + i * 1) = some (vi xs[i]) := z2u (row := []) hseg2
      have hel2' : cs[o + i * 1]? = some (vi xs[i]) := by rw [← z3k 1]; exact hel2
      have h2 : ((0 : Int) < ((i + 1 : Nat) : Int)) := by omega
      have h4 : (((i + 1 : Nat) : Int) - 1) = (i : Int) := by omega
      by_cases h3 : xs[i + 1] ≤ xs[i]
      · right
        have e : ∃ vs2, sC Tryz.prog 24 24 ih z92 z' vs' h' nx' = .ret z' vs2 h' nx' ∧ vs2 2 = some (.bool false) := by
          refine ⟨_, by simp (maxSteps := 10000000) (disch := omega) only [z92, e0, e5, e6, e7, hcs, hel, hel', hel2, hel2', h1, h2, h3, h4, z1p, bz, z00, Nat.reduceEqDiff, Nat.reduceLT, Nat.reduceAdd, Nat.reduceMul, Int.reduceToNat]; exact rfl, ?_⟩
          simp only [z01, Nat.reduceEqDiff, decide_true, decide_false, cond_true, cond_false]
        obtain ⟨vs2, e, e2⟩ := e
        rw [e]
        refine ⟨trivial, .inl ⟨?_, vs2, rfl, e2⟩⟩
        rw [Bool.eq_false_iff]
        intro hc
        have := (incB_iff xs).1 hc i _ _ (List.getElem?_eq_getElem (by omega)) (List.getElem?_eq_getElem hlt)
        omega
      · left
        refine ⟨hlt, z', _, h', nx', (by simp (maxSteps := 10000000) (disch := omega) only [z92, e0, e5, e6, e7, hcs, hel, hel', hel2, hel2', h1, h2, h3, h4, z1p, bz, z00, Nat.reduceEqDiff, Nat.reduceLT, Nat.reduceAdd, Nat.reduceMul, Int.reduceToNat]; exact rfl), by omega, rfl, rfl, rfl, ?_, ?_, ?_, ?_, fun j a b hj ha hb => ?_⟩
        · simp only [z01, Nat.reduceEqDiff, decide_true, decide_false, cond_true, cond_false, e0]
        · simp only [z01, Nat.reduceEqDiff, decide_true, decide_false, cond_true, cond_false, e5]
        · simp only [z01, Nat.reduceEqDiff, decide_true, decide_false, cond_true, cond_false, e6]
        · simp only [z01, Nat.reduceEqDiff, decide_true, decide_false, cond_true, cond_false]; rfl
        · by_cases hji : j = i
          · subst hji
            rw [List.getElem?_eq_getElem (by omega)] at ha hb
            cases ha; cases hb
            omega
          · exact ef j a b (by omega) ha hb
  · right
    have h1 : ¬ ((i : Int) < (xs.length : Int)) := by omega
    have e : ∃ vs2, sC Tryz.prog 24 24 ih z92 z' vs' h' nx' = .exi 0 z' vs2 h' nx' := ⟨_, by simp (maxSteps := 10000000) (disch := omega) only [z92, e0, e5, e6, e7, h1, bz, z00, Nat.reduceEqDiff, Nat.reduceLT, Nat.reduceAdd, Nat.reduceMul, Int.reduceToNat]; exact rfl⟩
    obtain ⟨vs2, e⟩ := e
    rw [e]
    refine ⟨trivial, .inr ⟨(incB_iff xs).2 fun j a b ha hb => ef j a b ?_ ha hb, vs2, rfl⟩⟩
    have := (List.getElem?_eq_some_iff.1 hb).1
    omega
theorem c110 {S : Kn} (hS : S.Only [22]) {m : Nat} (hm : 1 ≤ m) {xs : List Int} {h : Hp} {nx : Nat} {v : Value} (hl : xs.length ≤ 140737488355328) (hv : Lst h nx 1 v (ints xs)) :
    z07 110 [v] (z08 Tryz.prog vmL S m) h nx = .gen (.bool (incB xs)) h nx [] := by
  refine fun110.ground (hS _ _ _ _ (by decide)) (by omega) rfl (by simp) ?_
  obtain ⟨a, c, hve, _⟩ := hv.form
  rw [z7u] at hve
  subst hve
  simp (maxSteps := 10000000) (disch := omega) only [s110, z1x, bz, z00, Nat.reduceEqDiff, Nat.reduceLT, Nat.reduceAdd, Nat.reduceMul, Int.reduceToNat]
  generalize hr : z0w _ _ _ _ _ = r
  rcases loop110 hl hv rfl rfl rfl rfl hr with ⟨hf, vs', rfl, e2⟩ | ⟨hf, vs', rfl⟩
  · rw [hf]
    exact ⟨_, _, by simp (maxSteps := 10000000) (disch := omega) only [e2, bz, z00, Nat.reduceEqDiff, Nat.reduceLT, Nat.reduceAdd, Nat.reduceMul, Int.reduceToNat]; rfl⟩
  · rw [hf]
    exact ⟨_, _, by simp (maxSteps := 10000000) (disch := omega) only [bz, z00, Nat.reduceEqDiff, Nat.reduceLT, Nat.reduceAdd, Nat.reduceMul, Int.reduceToNat]; rfl⟩
theorem Lst_one {h : Hp} {nx sz : Nat} {v : Value} {rows rows' : List (List Value)} (a : Lst h nx sz v rows) (b : Lst h nx sz v rows') : rows = rows' := by
  obtain ⟨x, c, e1, f1⟩ := a.form
  obtain ⟨y, d, e2, f2⟩ := b.form
  rw [e1] at e2
  injection e2 with q1 q2 q3
  subst q1
  refine List.ext_getElem? fun i => ?_
  by_cases hi : i < rows.length
  · have g1 := List.getElem?_eq_getElem hi
    have g2 := List.getElem?_eq_getElem (l := rows') (i := i) (by omega)
    obtain ⟨_, r, o, cs, k1, _, k2, _, k3⟩ := f1 i _ g1
    obtain ⟨_, r2, o2, cs2, m1, _, m2, _, m3⟩ := f2 i _ g2
    rw [k1] at m1
    cases m1
    rw [k2] at m2
    cases m2
    rw [g1, g2, ← k3, ← m3]
  · rw [List.getElem?_eq_none (by omega), List.getElem?_eq_none (by omega)]
theorem ints_inj : ∀ {a b : List Int}, ints a = ints b → a = b := by
  intro a
  induction a with
  | nil => intro b h; cases b with
    | nil => rfl
    | cons y b => cases h
  | cons x a ih =>
    intro b h
    cases b with
    | nil => cases h
    | cons y b =>
      have h2 : [vi x] :: ints a = [vi y] :: ints b := h
      injection h2 with e1 e2
      injection e1 with e3
      injection e3 with _ e4
      rw [e4, ih e2]
open Classical in
noncomputable def zsOf (h : Hp) (nx : Nat) (z : Value) : List Int := if hz : ∃ zs, Lst h nx 1 z (ints zs) then hz.choose else []
theorem zsOf_is {h : Hp} {nx : Nat} {z : Value} {zs : List Int} (k : Lst h nx 1 z (ints zs)) : zsOf h nx z = zs := by
  have hz : ∃ zs, Lst h nx 1 z (ints zs) := ⟨zs, k⟩
  unfold zsOf
  rw [dif_pos hz]
  exact ints_inj (Lst_one hz.choose_spec k)
structure Pc where
  size : Int
  weight : Int
  worth : Int
  alone : Bool
def Pc.row (x : Pc) : List Value := [vi x.size, vi x.weight, vi x.worth, .bool x.alone]
def Pc.ok (x : Pc) : Bool := inB 1 500 x.size && (inB 1 5000 x.weight && inB 0 10000 x.worth)
structure Kd where
  room : Int
  most : Int
  zv : Value
  zs : List Int
  step : Int
def Kd.row (x : Kd) : List Value := [vi x.room, vi x.most, x.zv, vi x.step]
def kindB (room most : Int) (zs : List Int) (step : Int) : Bool := inB 1 500 room && (inB 1 5000 most && ((inB 5 5 zs.length && zs.all (inB 1 1000)) && inB 0 1000 step))
def Kd.ok (x : Kd) : Bool := kindB x.room x.most x.zs x.step
structure Bk where
  P : List Pc
  pv : Value
  K : List Kd
  kv : Value
  grams : Int
  free : Int
  unit : Int
  fee : Int
  S : List Int
  sv : Value
def Bk.cells (b : Bk) : List Value := [b.pv, b.kv, vi b.grams, vi b.free, vi b.unit, vi b.fee, b.sv]
structure Bk.At (b : Bk) (h : Hp) (nx : Nat) : Prop where
  pos : 1 ≤ nx
  lim : rowL h 0 = some limL
  p : Lst h nx 4 b.pv (b.P.map Pc.row)
  k : Lst h nx 4 b.kv (b.K.map Kd.row)
  z : ∀ x, x ∈ b.K → Lst h nx 1 x.zv (ints x.zs)
  s : Lst h nx 1 b.sv (ints b.S)
  pl : b.P.length ≤ 140737488355328
  kl : b.K.length ≤ 140737488355328
  zl : ∀ x, x ∈ b.K → x.zs.length ≤ 140737488355328
  sl : b.S.length ≤ 140737488355328
theorem Bk.At.same {b : Bk} {h h' : Hp} {nx nx' : Nat} (k : b.At h nx) (a : Same nx h h') (hn : nx ≤ nx') : b.At h' nx' :=
  ⟨by have := k.pos; omega, by rw [z0n a (by have := k.pos; omega)]; exact k.lim, k.p.same a hn, k.k.same a hn, fun x hx => (k.z x hx).same a hn, k.s.same a hn, k.pl, k.kl, k.zl, k.sl⟩
theorem c107 {S : Kn} (hS : S.Only [22]) {m : Nat} (hm : 7 ≤ m) {h : Hp} {nx : Nat} (hn : 1 ≤ nx) (hlim : rowL h 0 = some limL) (room most step : Int) {zv : Value} {zs : List Int} (hz : Lst h nx 1 zv (ints zs)) (hl : zs.length ≤ 140737488355328) :
    z07 107 [.agg #[vi room, vi most, zv, vi step]] (z08 Tryz.prog vmL S m) h nx = .gen (.bool (kindB room most zs step)) h nx [] := by
  refine fun107.ground (hS _ _ _ _ (by decide)) (by omega) rfl (by simp) ?_
  have k85 := fun (h : Hp) (nx : Nat) (lo hi x : Int) => c85 hS (m := m - 1) (h := h) (nx := nx) (by omega) lo hi x
  have k137 := fun (h : Hp) (nx : Nat) (n : Int) => c137 hS (m := m - 1) (h := h) (nx := nx) (by omega) n
  have hsm : Same nx h (hset h nx (.cells [vi room, vi most, zv, vi step] none)) := (Same.refl nx h).set (Nat.le_refl _) _
  have k := c108 hS (m := m - 1) (by omega) (g := 109) (p := inB 1 1000) hl (hz.same hsm (nx' := nx + 1) (by omega)) 5 5 (fun x _ h' nx' hn' hs => c109 hS (by omega) (by omega) (by rw [z0n hs (by omega), z0j _ (by omega)]; exact hlim) x)
  unfold kindB
  rcases Bool.eq_false_or_eq_true (inB 1 500 room) with h1 | h1 <;> rcases Bool.eq_false_or_eq_true (inB 1 5000 most) with h2 | h2 <;> rcases Bool.eq_false_or_eq_true (inB 5 5 zs.length && zs.all (inB 1 1000)) with h3 | h3 <;> rcases Bool.eq_false_or_eq_true (inB 0 1000 step) with h4 | h4 <;> rw [h3] at k ⊢ <;> simp (maxSteps := 10000000) (disch := omega) only [s107, k85, k137, k, hlim, h1, h2, h4, bz, z00, Nat.reduceEqDiff, Nat.reduceLT, Nat.reduceAdd, Nat.reduceMul, Int.reduceToNat] <;> exact ⟨_, _, rfl⟩
set_option maxRecDepth 20000
set_option maxHeartbeats 16000000
def pieceR (r : List Value) : Bool := match r with | [.int _ s, .int _ w, .int _ o, .bool _] => inB 1 500 s && (inB 1 5000 w && inB 0 10000 o) | _ => false
noncomputable def kindR (h : Hp) (nx : Nat) (r : List Value) : Bool := match r with | [.int _ a, .int _ b, z, .int _ s] => kindB a b (zsOf h nx z) s | _ => false
def Bk.valid (b : Bk) : Bool := (inB 1 7 b.P.length && b.P.all Pc.ok) && ((inB 1 4 b.K.length && b.K.all Kd.ok) && (inB 1 5000 b.grams && (inB 0 10000 b.free && (inB 1 10000 b.unit && (inB 0 1000 b.fee && ((inB 1 5 b.S.length && b.S.all (inB 1 1000)) && incB b.S))))))
theorem c81 {S : Kn} (hS : S.Only [22]) {m : Nat} (hm : 12 ≤ m) {h : Hp} {nx : Nat} {b : Bk} (hb : b.At h nx) :
    z07 81 [.agg b.cells.toArray] (z08 Tryz.prog vmL S m) h nx = .gen (.bool b.valid) h nx [] := by
  refine fun81.ground (hS _ _ _ _ (by decide)) (by omega) rfl (by simp) ?_
  have k85 := fun (h : Hp) (nx : Nat) (lo hi x : Int) => c85 hS (m := m - 1) (h := h) (nx := nx) (by omega) lo hi x
  have hsm : Same nx h (hset h nx (.cells b.cells none)) := (Same.refl nx h).set (Nat.le_refl _) _
  have hb1 := hb.same hsm (nx' := nx + 1) (by omega)
  have kp := c104 hS (m := m - 1) (by omega) (g := 105) (p := pieceR) (rows := b.P.map Pc.row) (by simpa using hb.pl) hb1.p 1 7 (fun row hrow h' nx' hn' hs => by
    obtain ⟨x, hx, rfl⟩ := List.mem_map.1 hrow
    exact c105 hS (by omega) (by have := hb.pos; omega) (by rw [z0n hs (by omega)]; exact hb1.lim) x.size x.weight x.worth x.alone)
  have kk := c106 hS (m := m - 1) (by omega) (g := 107) (p := kindR (hset h nx (.cells b.cells none)) (nx + 1)) (rows := b.K.map Kd.row) (by simpa using hb.kl) hb1.k 1 4 (fun row hrow h' nx' hn' hs => by
    obtain ⟨x, hx, rfl⟩ := List.mem_map.1 hrow
    have hz := hb1.z x hx
    have e : kindR (hset h nx (.cells b.cells none)) (nx + 1) (Kd.row x) = kindB x.room x.most x.zs x.step := by
      show kindB x.room x.most (zsOf _ _ x.zv) x.step = _
      rw [zsOf_is hz]
    rw [e]
    exact c107 hS (by omega) (by omega) (by rw [z0n hs (by omega)]; exact hb1.lim) x.room x.most x.step (hz.same hs hn') (hb.zl x hx))
  have ks := c108 hS (m := m - 1) (by omega) (g := 109) (p := inB 1 1000) hb.sl hb1.s 1 5 (fun x _ h' nx' hn' hs => c109 hS (by omega) (by omega) (by rw [z0n hs (by omega)]; exact hb1.lim) x)
  have ki := c110 hS (m := m - 1) (by omega) hb.sl hb1.s
  have ep : (b.P.map Pc.row).all pieceR = b.P.all Pc.ok := by rw [List.all_map]; rfl
  have ek : (b.K.map Kd.row).all (kindR (hset h nx (.cells b.cells none)) (nx + 1)) = b.K.all Kd.ok := by
    rw [List.all_map]
    have h1 : ∀ x ∈ b.K, (kindR (hset h nx (.cells b.cells none)) (nx + 1) ∘ Kd.row) x = Kd.ok x := fun x hx => by
      show kindB x.room x.most (zsOf _ _ x.zv) x.step = kindB x.room x.most x.zs x.step
      rw [zsOf_is (hb1.z x hx)]
    rw [Bool.eq_iff_iff, List.all_eq_true, List.all_eq_true]
    exact ⟨fun q x hx => (h1 x hx).symm.trans (q x hx), fun q x hx => (h1 x hx).trans (q x hx)⟩
  rw [ep, List.length_map] at kp
  rw [ek, List.length_map] at kk
  have hlim := hb.lim
  have hpos := hb.pos
  unfold Bk.valid
  have hcell : b.cells = [b.pv, b.kv, vi b.grams, vi b.free, vi b.unit, vi b.fee, b.sv] := rfl
  rw [hcell] at kp kk ks ki ⊢
  rcases Bool.eq_false_or_eq_true (inB 1 7 b.P.length && b.P.all Pc.ok) with x1 | x1
  rotate_left
  · rw [x1] at kp ⊢
    simp (maxSteps := 10000000) (disch := omega) only [s81, k85, kp, kk, ks, ki, hlim,  bz, z00, Nat.reduceEqDiff, Nat.reduceLT, Nat.reduceAdd, Nat.reduceMul, Int.reduceToNat]
    exact ⟨_, _, rfl⟩
  rw [x1] at kp ⊢
  rcases Bool.eq_false_or_eq_true (inB 1 4 b.K.length && b.K.all Kd.ok) with x2 | x2
  rotate_left
  · rw [x2] at kk ⊢
    simp (maxSteps := 10000000) (disch := omega) only [s81, k85, kp, kk, ks, ki, hlim,  bz, z00, Nat.reduceEqDiff, Nat.reduceLT, Nat.reduceAdd, Nat.reduceMul, Int.reduceToNat]
    exact ⟨_, _, rfl⟩
  rw [x2] at kk ⊢
  rcases Bool.eq_false_or_eq_true (inB 1 5000 b.grams) with x3 | x3
  rotate_left
  · simp (maxSteps := 10000000) (disch := omega) only [s81, k85, kp, kk, ks, ki, hlim, x3, bz, z00, Nat.reduceEqDiff, Nat.reduceLT, Nat.reduceAdd, Nat.reduceMul, Int.reduceToNat]
    exact ⟨_, _, rfl⟩
  rcases Bool.eq_false_or_eq_true (inB 0 10000 b.free) with x4 | x4
  rotate_left
  · simp (maxSteps := 10000000) (disch := omega) only [s81, k85, kp, kk, ks, ki, hlim, x3, x4, bz, z00, Nat.reduceEqDiff, Nat.reduceLT, Nat.reduceAdd, Nat.reduceMul, Int.reduceToNat]
    exact ⟨_, _, rfl⟩
  rcases Bool.eq_false_or_eq_true (inB 1 10000 b.unit) with x5 | x5
  rotate_left
  · simp (maxSteps := 10000000) (disch := omega) only [s81, k85, kp, kk, ks, ki, hlim, x3, x4, x5, bz, z00, Nat.reduceEqDiff, Nat.reduceLT, Nat.reduceAdd, Nat.reduceMul, Int.reduceToNat]
    exact ⟨_, _, rfl⟩
  rcases Bool.eq_false_or_eq_true (inB 0 1000 b.fee) with x6 | x6
  rotate_left
  · simp (maxSteps := 10000000) (disch := omega) only [s81, k85, kp, kk, ks, ki, hlim, x3, x4, x5, x6, bz, z00, Nat.reduceEqDiff, Nat.reduceLT, Nat.reduceAdd, Nat.reduceMul, Int.reduceToNat]
    exact ⟨_, _, rfl⟩
  rcases Bool.eq_false_or_eq_true (inB 1 5 b.S.length && b.S.all (inB 1 1000)) with x7 | x7
  rotate_left
  · rw [x7] at ks ⊢
    simp (maxSteps := 10000000) (disch := omega) only [s81, k85, kp, kk, ks, ki, hlim, x3, x4, x5, x6, bz, z00, Nat.reduceEqDiff, Nat.reduceLT, Nat.reduceAdd, Nat.reduceMul, Int.reduceToNat]
    exact ⟨_, _, rfl⟩
  rw [x7] at ks ⊢
  rcases Bool.eq_false_or_eq_true (incB b.S) with x8 | x8
  rotate_left
  · rw [x8] at ki ⊢
    simp (maxSteps := 10000000) (disch := omega) only [s81, k85, kp, kk, ks, ki, hlim, x3, x4, x5, x6, bz, z00, Nat.reduceEqDiff, Nat.reduceLT, Nat.reduceAdd, Nat.reduceMul, Int.reduceToNat]
    exact ⟨_, _, rfl⟩
  rw [x8] at ki ⊢
  simp (maxSteps := 10000000) (disch := omega) only [s81, k85, kp, kk, ks, ki, hlim, x3, x4, x5, x6, bz, z00, Nat.reduceEqDiff, Nat.reduceLT, Nat.reduceAdd, Nat.reduceMul, Int.reduceToNat]
  exact ⟨_, _, rfl⟩
set_option maxRecDepth 10000
set_option maxHeartbeats 8000000
structure Fu where
  g : Nat
  xs : List Value
  ys : List Value
  y : Bool
def Fu.row (f : Fu) : List Value := [.func (.func f.g) f.xs.toArray f.ys.toArray]
theorem loop52 {ih : Rec} {F : List Fu} {z : Z} {vs : Vs} {h : Hp} {nx : Nat} {v : Value} (hl : F.length ≤ 140737488355328) (hv : Lst h nx 1 v (F.map Fu.row))
    (hp : ∀ f, f ∈ F → z07 f.g (f.xs ++ f.ys) ih h nx = .gen (.bool f.y) h nx [])
    (g10 : vs 10 = some v) (g11 : vs 11 = some (vi F.length)) (g12 : vs 12 = some (vi 0)) {r : R} (hr : z0w (sC Tryz.prog 20 20 ih l52_0) z vs h nx = r) :
    (F.all Fu.y = false ∧ ∃ vs', r = .ret z vs' h nx ∧ vs' 4 = some (vi 61)) ∨ (F.all Fu.y = true ∧ ∃ vs', r = .exi 0 z vs' h nx) := by
  subst hr
  refine z0o (Post := fun r => (F.all Fu.y = false ∧ ∃ vs', r = .ret z vs' h nx ∧ vs' 4 = some (vi 61)) ∨ (F.all Fu.y = true ∧ ∃ vs', r = .exi 0 z vs' h nx))
    (fun i z' vs' h' nx' => i ≤ F.length ∧ z' = z ∧ h' = h ∧ nx' = nx ∧ vs' 10 = some v ∧ vs' 11 = some (vi F.length) ∧ vs' 12 = some (vi (i : Int)) ∧ ∀ (j : Nat) f, j < i → F[j]? = some f → f.y = true) F.length (by omega)
    ⟨Nat.zero_le _, rfl, rfl, rfl, g10, g11, g12, fun j f hj => by omega⟩ ?_
  rintro i z' vs' h' nx' ⟨hi, rfl, rfl, rfl, e10, e11, e12, ef⟩
  obtain ⟨a, c, hve, _⟩ := hv.form
  rw [List.length_map] at hve
  subst hve
  by_cases hlt : i < F.length
  · obtain ⟨_, rr, o, row, cs, rfl, hrn, hrow, hrl, hcs, ho, hseg⟩ := hv.load (i := i) hlt
    have h1 : ((i : Int) < (F.length : Int)) := by omega
    rw [List.getElem?_map, List.getElem?_eq_getElem hlt] at hrow
    cases hrow
    have hc := hp F[i] (List.getElem_mem hlt)
    have hel : cs[o + i * 1]? = some (.func (.func F[i].g) F[i].xs.toArray F[i].ys.toArray) := by rw [← z3k 1]; exact z2u (row := []) hseg
    rcases Bool.eq_false_or_eq_true F[i].y with hb | hb
    · left
      rw [hb] at hc
      refine ⟨hlt, z', _, h', nx', (by simp (maxSteps := 10000000) (disch := omega) only [l52_0, e10, e11, e12, hcs, hel, h1, hc, z1p, List.append_nil, bz, z00, Nat.reduceEqDiff, Nat.reduceLT, Nat.reduceAdd, Nat.reduceMul, Int.reduceToNat]; exact rfl), by omega, rfl, rfl, rfl, ?_, ?_, ?_, fun j f hj hf => ?_⟩
      · simp only [z01, Nat.reduceEqDiff, decide_true, decide_false, cond_true, cond_false, e10]
      · simp only [z01, Nat.reduceEqDiff, decide_true, decide_false, cond_true, cond_false, e11]
      · simp only [z01, Nat.reduceEqDiff, decide_true, decide_false, cond_true, cond_false]; rfl
      · by_cases hji : j = i
        · subst hji; rw [List.getElem?_eq_getElem hlt] at hf; cases hf; exact hb
        · exact ef j f (by omega) hf
    · right
      rw [hb] at hc
      have e : ∃ vs2, sC Tryz.prog 20 20 ih l52_0 z' vs' h' nx' = .ret z' vs2 h' nx' ∧ vs2 4 = some (vi 61) := by
        refine ⟨_, by simp (maxSteps := 10000000) (disch := omega) only [l52_0, e10, e11, e12, hcs, hel, h1, hc, z1p, List.append_nil, bz, z00, Nat.reduceEqDiff, Nat.reduceLT, Nat.reduceAdd, Nat.reduceMul, Int.reduceToNat]; exact rfl, ?_⟩
        simp only [z01, Nat.reduceEqDiff, decide_true, decide_false, cond_true, cond_false]
      obtain ⟨vs2, e, e4⟩ := e
      rw [e]
      refine ⟨trivial, .inl ⟨?_, vs2, rfl, e4⟩⟩
      rw [List.all_eq_false]
      exact ⟨F[i], List.getElem_mem hlt, by simp [hb]⟩
  · right
    have h1 : ¬ ((i : Int) < (F.length : Int)) := by omega
    have e : ∃ vs2, sC Tryz.prog 20 20 ih l52_0 z' vs' h' nx' = .exi 0 z' vs2 h' nx' := ⟨_, by simp (maxSteps := 10000000) (disch := omega) only [l52_0, e10, e11, e12, h1, bz, z00, Nat.reduceEqDiff, Nat.reduceLT, Nat.reduceAdd, Nat.reduceMul, Int.reduceToNat]; exact rfl⟩
    obtain ⟨vs2, e⟩ := e
    rw [e]
    refine ⟨trivial, .inr ⟨?_, vs2, rfl⟩⟩
    rw [List.all_eq_true]
    intro f hf
    obtain ⟨j, hj, hjr⟩ := List.getElem_of_mem hf
    exact ef j f (by omega) (by rw [← hjr]; exact List.getElem?_eq_getElem hj)
def z82 (ok all : Bool) : Int := if ok then (if all then 0 else 61) else 60
theorem c52 {S : Kn} (hS : S.Only [22]) {m : Nat} (hm : 13 ≤ m) {h : Hp} {nx : Nat} {b : Bk} (hb : b.At h nx) {F : List Fu} {v : Value} (hl : F.length ≤ 140737488355328) (hv : Lst h nx 1 v (F.map Fu.row))
    (hp : b.valid = true → ∀ f, f ∈ F → ∀ h' nx', nx ≤ nx' → Same nx h h' → z07 f.g (f.xs ++ f.ys) (z08 Tryz.prog vmL S (m - 1)) h' nx' = .gen (.bool f.y) h' nx' []) :
    z07 52 [.agg b.cells.toArray, v] (z08 Tryz.prog vmL S m) h nx = .gen (vi (z82 b.valid (F.all Fu.y))) h nx [] := by
  refine fun52.ground (hS _ _ _ _ (by decide)) (by omega) rfl (by simp) ?_
  have hsm : Same nx h (hset h nx (.cells b.cells none)) := (Same.refl nx h).set (Nat.le_refl _) _
  have k81 := c81 hS (m := m - 1) (by omega) (hb.same hsm (nx' := nx + 1) (by omega))
  obtain ⟨a, c, hve, _⟩ := hv.form
  rw [List.length_map] at hve
  subst hve
  have hcell : b.cells = [b.pv, b.kv, vi b.grams, vi b.free, vi b.unit, vi b.fee, b.sv] := rfl
  unfold z82
  rcases Bool.eq_false_or_eq_true b.valid with hx | hx
  · rw [hx] at k81
    have hv' := hv.same hsm (nx' := nx + 1) (by omega)
    have hp' := fun f hf => hp hx f hf (hset h nx (.cells b.cells none)) (nx + 1) (by omega) hsm
    rw [hcell] at k81 hv' hp' ⊢
    simp (maxSteps := 10000000) (disch := omega) only [s52, z1x, k81, hx, bz, z00, Nat.reduceEqDiff, Nat.reduceLT, Nat.reduceAdd, Nat.reduceMul, Int.reduceToNat]
    generalize hr : z0w _ _ _ _ _ = r
    rcases loop52 (F := F) hl hv' hp' rfl rfl rfl hr with ⟨hf, vs', rfl, e4⟩ | ⟨hf, vs', rfl⟩
    · rw [hf]
      exact ⟨_, _, by simp (maxSteps := 10000000) (disch := omega) only [e4, Bool.false_eq_true, bz, z00, Nat.reduceEqDiff, Nat.reduceLT, Nat.reduceAdd, Nat.reduceMul, Int.reduceToNat]; rfl⟩
    · rw [hf]
      exact ⟨_, _, by simp (maxSteps := 10000000) (disch := omega) only [bz, z00, Nat.reduceEqDiff, Nat.reduceLT, Nat.reduceAdd, Nat.reduceMul, Int.reduceToNat]; rfl⟩
  · rw [hx] at k81
    rw [hcell] at k81 ⊢
    simp (maxSteps := 10000000) (disch := omega) only [s52, k81, hx, Bool.false_eq_true, bz, z00, Nat.reduceEqDiff, Nat.reduceLT, Nat.reduceAdd, Nat.reduceMul, Int.reduceToNat]
    exact ⟨_, _, rfl⟩
theorem z16 (h : Hp) (r : Nat) (x y : Row) : hset (hset h r x) r y = hset h r y := by
  funext s
  show (if s = r then some y else if s = r then some x else h s) = if s = r then some y else h s
  by_cases q : s = r <;> simp [q]
theorem set_and1 {P : Program} (t : TypeId) (x y : Operand) (a : Nat) (ha : a < 9223372036854775808) : binV P .and t x y (.int .i64 a) (.int .i64 1) = some (.int .i64 ((a &&& 1 : Nat) : Int)) := set_and t x y a 1 ha (by omega)
theorem testBit_int (s n : Nat) : ((((s >>> n) &&& 1 : Nat) : Int) == 1) = s.testBit n := by
  rw [Nat.testBit, Nat.and_comm 1]
  have h : (s >>> n) &&& 1 = (s >>> n) % 2 := Nat.and_one_is_mod _
  rw [h]
  rcases Nat.mod_two_eq_zero_or_one (s >>> n) with q | q <;> rw [q] <;> rfl
theorem c129 {S : Kn} (hS : S.Only [22]) {m : Nat} (hm : 1 ≤ m) (s n : Nat) (hs : s < 4611686018427387904) (hn : n ≤ 62) {h : Hp} {nx : Nat} : z07 129 [vi s, vi n] (z08 Tryz.prog vmL S m) h nx = .gen (.bool (s.testBit n)) h nx [] := by
  refine fun129.ground (hS _ _ _ _ (by decide)) (by omega) rfl (by simp) ?_
  have hlt : s >>> n < 9223372036854775808 := Nat.lt_of_le_of_lt (Nat.shiftRight_le s n) (by omega)
  simp (maxSteps := 10000000) (disch := omega) only [s129, set_shr, set_and1, testBit_int, bz, z00, Nat.reduceEqDiff, Nat.reduceLT, Nat.reduceAdd, Nat.reduceMul, Int.reduceToNat]
  exact ⟨_, _, rfl⟩
theorem c121 {S : Kn} (hS : S.Only [22]) {m : Nat} (hm : 1 ≤ m) (s n : Nat) (hs : s < 4611686018427387904) (hn : n ≤ 60) {h : Hp} {nx : Nat} : z07 121 [vi s, vi n] (z08 Tryz.prog vmL S m) h nx = .gen (vi ((s ||| 2 ^ n : Nat) : Int)) h nx [] := by
  refine fun121.ground (hS _ _ _ _ (by decide)) (by omega) rfl (by simp) ?_
  have h2 : 2 ^ n < 4611686018427387904 := by
    have : 2 ^ n ≤ 2 ^ 60 := Nat.pow_le_pow_right (by omega) hn
    omega
  simp (maxSteps := 10000000) (disch := omega) only [s121, set_shl, set_or, bz, z00, Nat.reduceEqDiff, Nat.reduceLT, Nat.reduceAdd, Nat.reduceMul, Int.reduceToNat]
  exact ⟨_, _, rfl⟩
def z09 (f : Nat → Bool) : List Value := [.bool (f 0), .bool (f 1), .bool (f 2), .bool (f 3), .bool (f 4), .bool (f 5), .bool (f 6)]
theorem bools_store (f : Nat → Bool) (i : Nat) (hi : i < 7) (b : Bool) : z0z (z09 f) i [.bool b] = some (z09 fun k => if k = i then b else f k) := by
  have : i = 0 ∨ i = 1 ∨ i = 2 ∨ i = 3 ∨ i = 4 ∨ i = 5 ∨ i = 6 := by omega
  rcases this with rfl | rfl | rfl | rfl | rfl | rfl | rfl <;> rfl
theorem bools_congr {f g : Nat → Bool} (h : ∀ k, k < 7 → f k = g k) : z09 f = z09 g := by
  unfold z09
  rw [h 0 (by omega), h 1 (by omega), h 2 (by omega), h 3 (by omega), h 4 (by omega), h 5 (by omega), h 6 (by omega)]
theorem loop111 {S : Kn} (hS : S.Only [22]) {m : Nat} (hm : 1 ≤ m) {s : Nat} (hs : s < 4611686018427387904) {z : Z} {vs : Vs} {h : Hp} {nx p p2 : Nat} (hz : z.n0 ≤ p) {f0 : Nat → Bool}
    (g0 : vs 0 = some (vi s)) (g3 : vs 3 = some (.pointer (some ⟨p, 0, none⟩))) (g5 : vs 5 = some (vi 0)) (g2 : vs 2 = some (.pointer (some ⟨p2, 0, none⟩))) {r : R} (hr : z0w (sC Tryz.prog 15 15 (z08 Tryz.prog vmL S m) l111_0) z vs (hset h p (.cells (z09 f0) none)) nx = r) :
    ∃ vs', r = .exi 0 z vs' (hset h p (.cells (z09 s.testBit) none)) nx ∧ vs' 3 = some (.pointer (some ⟨p, 0, none⟩)) ∧ vs' 2 = some (.pointer (some ⟨p2, 0, none⟩)) := by
  subst hr
  refine z0o (Post := fun r => ∃ vs', r = .exi 0 z vs' (hset h p (.cells (z09 s.testBit) none)) nx ∧ vs' 3 = some (.pointer (some ⟨p, 0, none⟩)) ∧ vs' 2 = some (.pointer (some ⟨p2, 0, none⟩)))
    (fun i z' vs' h' nx' => i ≤ 7 ∧ z' = z ∧ nx' = nx ∧ vs' 0 = some (vi s) ∧ vs' 3 = some (.pointer (some ⟨p, 0, none⟩)) ∧ vs' 5 = some (vi (i : Int)) ∧ vs' 2 = some (.pointer (some ⟨p2, 0, none⟩)) ∧ ∃ f, h' = hset h p (.cells (z09 f) none) ∧ ∀ k, k < i → f k = s.testBit k) 7 (by omega)
    ⟨by omega, rfl, rfl, g0, g3, g5, g2, f0, rfl, fun k hk => by omega⟩ ?_
  rintro i z' vs' h' nx' ⟨hi, rfl, rfl, e0, e3, e5, e2, f, rfl, ef⟩
  have k129 := fun (h : Hp) (nx : Nat) (hi : i ≤ 62) => c129 hS hm s i hs hi (h := h) (nx := nx)
  by_cases hlt : i < 7
  · left
    have h1 : (i : Int) < 7 := by omega
    have kk := fun h nx => k129 h nx (by omega)
    have hst : ∀ b : Bool, storeAt 1 (hset h p (.cells (z09 f) none)) p (0 + i * 1) (.bool b) = .wr (hset h p (.cells (z09 fun k => if k = i then b else f k) none)) p := by
      intro b
      unfold storeAt
      rw [z11]
      simp only [cellsL, List.length_cons, List.length_nil, Nat.zero_add, Nat.mul_one, bools_store f i hlt b, z16]
      rfl
    have hst' : ∀ b : Bool, storeAt 1 (hset h p (.cells (z09 f) none)) p (i * 1) (.bool b) = .wr (hset h p (.cells (z09 fun k => if k = i then b else f k) none)) p := fun b => by have := hst b; rwa [Nat.zero_add] at this
    have hix : z6l 7 (.int .i64 (i : Int)) = some i := z8h 7 .i64 i hlt
    refine ⟨hlt, z', _, _, nx', (by simp (maxSteps := 10000000) (disch := omega) only [l111_0, e0, e3, e5, h1, kk, storeO, hix, hst', z1k, bz, z00, Nat.reduceEqDiff, Nat.reduceLT, Nat.reduceAdd, Nat.reduceMul, Int.reduceToNat]; exact rfl), by omega, rfl, rfl, ?_, ?_, ?_, ?_, _, rfl, fun k hk => ?_⟩
    · simp only [z01, z00, Nat.reduceEqDiff, decide_true, decide_false, cond_true, cond_false, e0]
    · simp only [z01, z00, Nat.reduceEqDiff, decide_true, decide_false, cond_true, cond_false, e3]
    · simp only [z01, z00, Nat.reduceEqDiff, decide_true, decide_false, cond_true, cond_false]; rfl
    · simp only [z01, z00, Nat.reduceEqDiff, decide_true, decide_false, cond_true, cond_false, e2]
    · by_cases hki : k = i
      · simp [hki]
      · simp [hki, ef k (by omega)]
  · right
    have h1 : ¬ ((i : Int) < 7) := by omega
    have e : ∃ vs2, sC Tryz.prog 15 15 (z08 Tryz.prog vmL S m) l111_0 z' vs' (hset h p (.cells (z09 f) none)) nx' = .exi 0 z' vs2 (hset h p (.cells (z09 f) none)) nx' ∧ vs2 3 = some (.pointer (some ⟨p, 0, none⟩)) ∧ vs2 2 = some (.pointer (some ⟨p2, 0, none⟩)) := by
      refine ⟨_, by simp (maxSteps := 10000000) (disch := omega) only [l111_0, e0, e3, e5, h1, bz, z00, Nat.reduceEqDiff, Nat.reduceLT, Nat.reduceAdd, Nat.reduceMul, Int.reduceToNat]; exact rfl, ?_, ?_⟩
      · simp only [z01, Nat.reduceEqDiff, decide_true, decide_false, cond_true, cond_false, e3]
      · simp only [z01, Nat.reduceEqDiff, decide_true, decide_false, cond_true, cond_false, e2]
    obtain ⟨vs2, e, q3, q2⟩ := e
    rw [e]
    refine ⟨trivial, vs2, ?_, q3, q2⟩
    rw [bools_congr fun k hk => ef k (by omega)]
theorem pBools (f : Nat → Bool) : z0c true 7 (z09 f) 0 = some (.agg (z09 f).toArray) := rfl
theorem sBools (f g : Nat → Bool) : z0z (z09 f) 0 (z09 g) = some (z09 g) := rfl
theorem noB : ([.bool false, .bool false, .bool false, .bool false, .bool false, .bool false, .bool false] : List Value) = z09 fun _ => false := rfl
theorem boolsLen (f : Nat → Bool) : (z09 f).length = 7 := rfl
theorem c111 {S : Kn} (hS : S.Only [22]) {m : Nat} (hm : 2 ≤ m) (s : Nat) (hs : s < 4611686018427387904) {h : Hp} {nx : Nat} : z07 111 [vi s] (z08 Tryz.prog vmL S m) h nx = .gen (.agg (z09 s.testBit).toArray) h nx [] := by
  refine fun111.ground (hS _ _ _ _ (by decide)) (by omega) rfl (by simp) ?_
  simp (maxSteps := 10000000) (disch := omega) only [s111, z1x, noB, bz, z00, Nat.reduceEqDiff, Nat.reduceLT, Nat.reduceAdd, Nat.reduceMul, Int.reduceToNat]
  generalize hr : z0w _ _ _ _ _ = r
  obtain ⟨vs', rfl, e3, e2⟩ := loop111 hS (by omega) hs (p2 := nx) (by simp) rfl rfl rfl rfl hr
  have hn : nx ≠ nx + 1 := by omega
  exact ⟨_, _, by simp (maxSteps := 10000000) (disch := omega) only [e3, e2, storeO, pBools, sBools, boolsLen, storeAt, List.toList_toArray, bz, z00, Nat.reduceEqDiff, Nat.reduceLT, Nat.reduceAdd, Nat.reduceMul, Int.reduceToNat]; rfl⟩
def z0f (b : Bk) (f : Nat → Bool) : List Value := b.cells ++ z09 f
theorem bundle_old {b : Bk} {h : Hp} {nx : Nat} (hb : b.At h nx) (h1 : 0 < b.P.length) (h2 : 0 < b.K.length) (h3 : 0 < b.S.length) (f : Nat → Bool) : ∀ v, v ∈ z0f b f → oldV nx v := by
  have key : ∀ {sz : Nat} {v : Value} {rows : List (List Value)}, Lst h nx sz v rows → 0 < rows.length → oldV nx v := by
    intro sz v rows k hl
    obtain ⟨a, c, e, hr⟩ := k.form
    obtain ⟨_, r, o, cs, q1, q2, _⟩ := hr 0 _ (List.getElem?_eq_getElem hl)
    rw [e, q1]
    exact q2
  have k1 := key hb.p (by simpa using h1)
  have k2 := key hb.k (by simpa using h2)
  have k3 := key hb.s (by simpa [ints] using h3)
  intro v hv
  simp only [z0f, Bk.cells, z09, List.cons_append, List.nil_append, List.mem_cons, List.not_mem_nil, or_false] at hv
  rcases hv with rfl | rfl | rfl | rfl | rfl | rfl | rfl | rfl | rfl | rfl | rfl | rfl | rfl | rfl <;> first | assumption | rfl
theorem c82 {S : Kn} (hS : S.Only [22]) {m : Nat} (hm : 3 ≤ m) (s : Nat) (hs : s < 4611686018427387904) {b : Bk} {h : Hp} {nx : Nat} (hb : b.At h nx) (h1 : 0 < b.P.length) (h2 : 0 < b.K.length) (h3 : 0 < b.S.length) : z07 82 [.agg b.cells.toArray, vi s] (z08 Tryz.prog vmL S m) h nx = .gen (.agg (z0f b s.testBit).toArray) h nx [] := by
  refine fun82.same (hS _ _ _ _ (by decide)) (by omega) (fun g => cmp3_agg (bundle_old hb h1 h2 h3 _) _) (by simp) ?_
  obtain ⟨P, pv, K, kv, grams, free, unit, fee, St, sv⟩ := b
  obtain ⟨a1, n1, e1, _⟩ := hb.p.form
  obtain ⟨a2, n2, e2, _⟩ := hb.k.form
  obtain ⟨a3, n3, e3, _⟩ := hb.s.form
  simp only at e1 e2 e3
  subst e1 e2 e3
  have k111 := fun (h : Hp) (nx : Nat) => c111 hS (m := m - 1) (by omega) s hs (h := h) (nx := nx)
  simp (maxSteps := 10000000) (disch := omega) only [s82, k111, Bk.cells, z0f, z09, List.cons_append, List.nil_append, bz, z00, Nat.reduceEqDiff, Nat.reduceLT, Nat.reduceAdd, Nat.reduceMul, Int.reduceToNat]
  exact ⟨_, _, rfl⟩
theorem splice_mid : ∀ (c : List Value) (o : Nat) (vs : List Value), o + vs.length ≤ c.length → z0z c o vs = some (c.take o ++ (vs ++ c.drop (o + vs.length))) := by
  intro c
  induction c with
  | nil => intro o vs h; cases vs with
    | nil => simp at h; subst h; rfl
    | cons _ _ => simp at h
  | cons x c ih =>
    intro o vs h
    cases o with
    | zero =>
      cases vs with
      | nil => rfl
      | cons v vs =>
        rw [z55, ih 0 vs (by simp at h ⊢; omega)]
        simp [Nat.add_comm]
    | succ o =>
      rw [z6h, ih o vs (by simp at h ⊢; omega)]
      simp only [List.take_succ_cons, List.cons_append]
      have e : o + 1 + vs.length = (o + vs.length) + 1 := by omega
      rw [e, List.drop_succ_cons]
def z0a (P : List Pc) (f : Nat → Bool) (i : Nat) : List Pc := ((P.take i).zipIdx.filter fun x => f x.2).map Prod.fst
theorem z75 {P : List Pc} (f : Nat → Bool) {i : Nat} (hi : i < P.length) : z0a P f (i + 1) = z0a P f i ++ if f i then [P[i]] else [] := by
  unfold z0a
  rw [List.take_add_one, List.getElem?_eq_getElem hi, Option.toList_some, List.zipIdx_append, List.filter_append, List.map_append]
  have hl : (P.take i).length = i := by simp; omega
  rw [hl]
  simp only [Nat.zero_add, List.zipIdx_cons, List.zipIdx_nil]
  cases hfi : f i <;> simp [List.filter_cons, hfi]
theorem z3v (P : List Pc) (f : Nat → Bool) (i : Nat) : (z0a P f i).length ≤ i := by
  unfold z0a
  rw [List.length_map]
  refine Nat.le_trans (List.length_filter_le _ _) ?_
  simp
  omega
def z8j (l : List Pc) : List Value := (l.map Pc.row).flatten
theorem flatP_append (l m : List Pc) : z8j (l ++ m) = z8j l ++ z8j m := by simp [z8j]
theorem z94 {l : List Value} (h : ∀ v, v ∈ l → flat v = true) : z0m flat l = true := by
  induction l with
  | nil => rfl
  | cons v l ih =>
    show (Bool.rec false (z0m flat l) (flat v) : Bool) = true
    rw [h v List.mem_cons_self]
    exact ih fun x hx => h x (List.mem_cons_of_mem _ hx)
def flatL (l : List Value) : Prop := ∀ v, v ∈ l → flat v = true
theorem row_flat (x : Pc) : flatL x.row := by
  intro v hv
  simp only [Pc.row, List.mem_cons, List.not_mem_nil, or_false] at hv
  rcases hv with rfl | rfl | rfl | rfl <;> rfl
theorem bundle_at (b : Bk) (f : Nat → Bool) (i : Nat) (hi : i < 7) : (z0f b f)[7 + i]? = some (.bool (f i)) := by
  have : i = 0 ∨ i = 1 ∨ i = 2 ∨ i = 3 ∨ i = 4 ∨ i = 5 ∨ i = 6 := by omega
  rcases this with rfl | rfl | rfl | rfl | rfl | rfl | rfl <;> rfl
theorem loop133 {ih : Rec} {b : Bk} {f : Nat → Bool} {z : Z} {vs : Vs} {h : Hp} {nx n0 p q : Nat} {C0 : List Value} (hb : b.At h n0) (hp7 : b.P.length ≤ 7) (hn0 : z.n0 = n0) (hpq : n0 ≤ p) (hqq : p < q) (hqn : q < nx)
    (hrp : rowL h p = some (z0f b f)) (hrq : hget h q = some (.cells C0 none)) (hC : C0.length = b.P.length * 4) (hf0 : flatL C0)
    (g1 : vs 1 = some (.pointer (some ⟨p, 0, none⟩))) (g3 : vs 3 = some (.slice (some ⟨q, 0, none⟩) 0 b.P.length)) (g15 : vs 15 = some b.pv) (g16 : vs 16 = some (vi b.P.length)) (g17 : vs 17 = some (vi 0)) {r : R} (hr : z0w (sC Tryz.prog 37 37 ih l133_0) z vs h nx = r) :
    ∃ vs' h' nx' C, r = .exi 0 z vs' h' nx' ∧ vs' 3 = some (.slice (some ⟨q, 0, none⟩) (z0a b.P f b.P.length).length b.P.length) ∧ hget h' q = some (.cells C none) ∧ C.length = b.P.length * 4 ∧ flatL C ∧ C.take ((z0a b.P f b.P.length).length * 4) = z8j (z0a b.P f b.P.length) := by
  subst hr hn0
  refine z0o (Post := fun r => ∃ vs' h' nx' C, r = .exi 0 z vs' h' nx' ∧ vs' 3 = some (.slice (some ⟨q, 0, none⟩) (z0a b.P f b.P.length).length b.P.length) ∧ hget h' q = some (.cells C none) ∧ C.length = b.P.length * 4 ∧ flatL C ∧ C.take ((z0a b.P f b.P.length).length * 4) = z8j (z0a b.P f b.P.length))
    (fun i z' vs' h' nx' => i ≤ b.P.length ∧ z' = z ∧ q < nx' ∧ Same z.n0 h h' ∧ rowL h' p = some (z0f b f) ∧ vs' 1 = some (.pointer (some ⟨p, 0, none⟩)) ∧ vs' 3 = some (.slice (some ⟨q, 0, none⟩) (z0a b.P f i).length b.P.length) ∧ vs' 15 = some b.pv ∧ vs' 16 = some (vi b.P.length) ∧ vs' 17 = some (vi (i : Int)) ∧
      ∃ C, hget h' q = some (.cells C none) ∧ C.length = b.P.length * 4 ∧ flatL C ∧ C.take ((z0a b.P f i).length * 4) = z8j (z0a b.P f i)) b.P.length (by omega)
    ⟨Nat.zero_le _, rfl, hqn, Same.refl _ _, hrp, g1, g3, g15, g16, g17, C0, hrq, hC, hf0, rfl⟩ ?_
  rintro i z' vs' h' nx' ⟨hi, rfl, hq', hs, erp, e1, e3, e15, e16, e17, C, erq, eC, ef, et⟩
  have hv := hb.p
  obtain ⟨a, c, hve, _⟩ := hv.form
  rw [List.length_map] at hve
  by_cases hlt : i < b.P.length
  · left
    rw [hve] at hv e15
    obtain ⟨_, rr, o, row, cs, rfl, hrn, hrow, hrl, hcs, ho, hseg⟩ := hv.load (i := i) hlt
    have h1 : ((i : Int) < (b.P.length : Int)) := by omega
    rw [List.getElem?_map, List.getElem?_eq_getElem hlt] at hrow
    cases hrow
    have hcs' : rowL h' rr = some cs := by rw [z0n hs (by omega)]; exact hcs
    have hel : z0c true 4 cs (o + i * 4) = some (.agg (Pc.row b.P[i]).toArray) := z3j ho hseg
    have hbit : (z0f b f)[7 + i]? = some (.bool (f i)) := bundle_at b f i (by omega)
    have hix : z6l 7 (.int .i64 (i : Int)) = some i := z8h 7 .i64 i (by omega)
    have hcl := z3v b.P f i
    rw [show b.P[i].row = Pc.row b.P[i] from rfl] at hel
    have hpx : p ≠ nx' := by omega
    have hqx : q ≠ nx' := by omega
    have hst : storeAt 4 (hset h' nx' (.cells [.int .i64 0, .int .i64 0, .int .i64 0, .bool false] none)) nx' 0 (.agg (Pc.row b.P[i]).toArray) = .wr (hset h' nx' (.cells (Pc.row b.P[i]) none)) nx' := by
      have := z3h (h := hset h' nx' (.cells [.int .i64 0, .int .i64 0, .int .i64 0, .bool false] none)) (r := nx') (l := Pc.row b.P[i]) (cs := [.int .i64 0, .int .i64 0, .int .i64 0, .bool false]) (b := none) (z11 _ _) rfl
      rw [z16] at this
      exact this
    have hrow1 : rowL (hset h' nx' (.cells (Pc.row b.P[i]) none)) p = some (z0f b f) := by rw [z0j _ hpx]; exact erp
    have hbit2 : z0c false 1 (z0f b f) (7 + i * 1) = some (.bool (f i)) := by rw [z3k, Nat.mul_one]; exact hbit
    have hpiece : z0c true 4 (Pc.row b.P[i]) 0 = some (.agg (Pc.row b.P[i]).toArray) := rfl
    rcases Bool.eq_false_or_eq_true (f i) with hfi | hfi
    · rw [hfi] at hbit2
      have ecs : z0a b.P f (i + 1) = z0a b.P f i ++ [b.P[i]] := by rw [z75 f hlt, hfi]; rfl
      have ecl : (z0a b.P f (i + 1)).length = (z0a b.P f i).length + 1 := by rw [ecs]; simp
      have hcl2 := z3v b.P f i
      have hrowl : (Pc.row b.P[i]).length = 4 := rfl
      have hfill : z3s [((0, 4), .agg (Pc.row b.P[i]).toArray)] [.int .i64 0, .int .i64 0, .int .i64 0, .bool false] = some (Pc.row b.P[i]) := rfl
      have hpc : rowL (hset h' nx' (.cells (Pc.row b.P[i]) none)) nx' = some (Pc.row b.P[i]) := z03 _ _
      have hsp : z0z C (0 + (z0a b.P f i).length * 4) (Pc.row b.P[i]) = some (C.take ((z0a b.P f i).length * 4) ++ (Pc.row b.P[i] ++ C.drop ((z0a b.P f i).length * 4 + 4))) := by
        rw [Nat.zero_add, splice_mid _ _ _ (by rw [hrowl, eC]; omega), hrowl]
      have happ := app_in (nx := nx' + 1 + 1) (h := hset (hset h' nx' (.cells (Pc.row b.P[i]) none)) (nx' + 1) (.cells (Pc.row b.P[i]) none)) (r := q) (o := 0) (len := (z0a b.P f i).length) (cap := b.P.length) (size := 4) (cs := C) (b := none) (x := .slice (some ⟨nx' + 1, 0, none⟩) 1 1)
        (by rw [z0p _ (by omega), z0p _ (by omega)]; exact erq) (appended_row (z03 _ _) hrowl) (by unfold HALF; omega) (by omega) (by omega) hsp
      refine ⟨hlt, z', _, _, _, (by simp (maxSteps := 10000000) (disch := omega) only [l133_0, e1, e3, e15, e16, e17, h1, hcs', hel, hix, hst, hrow1, hbit2, hpiece, hfill, hpc, happ, z1k, storeO, bl, z00, Nat.reduceEqDiff, Nat.reduceLT, Nat.reduceAdd, Nat.reduceMul, Int.reduceToNat]; exact rfl), by omega, rfl, by omega, ((hs.set (by omega) _).set (by omega) _).set (by omega) _, ?_, ?_, ?_, ?_, ?_, ?_, _, z11 _ _, ?_, ?_, ?_⟩
      · rw [z0j _ (by omega), z0j _ (by omega), z0j _ (by omega)]; exact erp
      · simp only [z01, z00, Nat.reduceEqDiff, decide_true, decide_false, cond_true, cond_false, e1]
      · simp only [z01, z00, Nat.reduceEqDiff, decide_true, decide_false, cond_true, cond_false, ecl]
      · simp only [z01, z00, Nat.reduceEqDiff, decide_true, decide_false, cond_true, cond_false, e15, hve]
      · simp only [z01, z00, Nat.reduceEqDiff, decide_true, decide_false, cond_true, cond_false, e16]
      · simp only [z01, z00, Nat.reduceEqDiff, decide_true, decide_false, cond_true, cond_false]; rfl
      · simp only [List.length_append, List.length_take, List.length_drop, hrowl, eC]; omega
      · intro v hv
        rcases List.mem_append.1 hv with hv | hv
        · exact ef v (List.mem_of_mem_take hv)
        · rcases List.mem_append.1 hv with hv | hv
          · exact row_flat _ v hv
          · exact ef v (List.mem_of_mem_drop hv)
      · rw [ecl, ecs, flatP_append, ← et, ← List.append_assoc]
        have hl1 : (C.take ((z0a b.P f i).length * 4) ++ Pc.row b.P[i]).length = ((z0a b.P f i).length + 1) * 4 := by rw [List.length_append, List.length_take, hrowl, eC, Nat.min_eq_left (by omega)]; omega
        rw [← hl1, List.take_left]
        rfl
    · rw [hfi] at hbit2
      have ecs : z0a b.P f (i + 1) = z0a b.P f i := by rw [z75 f hlt, hfi]; simp
      rw [← ecs] at e3 et
      refine ⟨hlt, z', _, _, _, (by simp (maxSteps := 10000000) (disch := omega) only [l133_0, e1, e3, e15, e16, e17, h1, hcs', hel, hix, hst, hrow1, hbit2, hpiece, z1k, storeO, bm, z00, Nat.reduceEqDiff, Nat.reduceLT, Nat.reduceAdd, Nat.reduceMul, Int.reduceToNat]; exact rfl), by omega, rfl, by omega, hs.set (by omega) _, hrow1, ?_, ?_, ?_, ?_, ?_, C, by rw [z0p _ hqx]; exact erq, eC, ef, et⟩
      · simp only [z01, z00, Nat.reduceEqDiff, decide_true, decide_false, cond_true, cond_false, e1]
      · simp only [z01, z00, Nat.reduceEqDiff, decide_true, decide_false, cond_true, cond_false, e3]
      · simp only [z01, z00, Nat.reduceEqDiff, decide_true, decide_false, cond_true, cond_false, e15, hve]
      · simp only [z01, z00, Nat.reduceEqDiff, decide_true, decide_false, cond_true, cond_false, e16]
      · simp only [z01, z00, Nat.reduceEqDiff, decide_true, decide_false, cond_true, cond_false]; rfl
  · right
    have h1 : ¬ ((i : Int) < (b.P.length : Int)) := by omega
    have hie : i = b.P.length := by omega
    have e : ∃ vs2, sC Tryz.prog 37 37 ih l133_0 z' vs' h' nx' = .exi 0 z' vs2 h' nx' ∧ vs2 3 = vs' 3 := by
      refine ⟨_, by simp (maxSteps := 10000000) (disch := omega) only [l133_0, e1, e3, e15, e16, e17, h1, bz, z00, Nat.reduceEqDiff, Nat.reduceLT, Nat.reduceAdd, Nat.reduceMul, Int.reduceToNat]; exact rfl, ?_⟩
      simp only [z01, Nat.reduceEqDiff, decide_true, decide_false, cond_true, cond_false]
    obtain ⟨vs2, e, q3⟩ := e
    rw [e]
    rw [hie] at e3 et
    exact ⟨trivial, vs2, h', nx', C, rfl, q3.trans e3, erq, eC, ef, et⟩
theorem makeO_new {h : Hp} {nx n : Nat} {z : List Value} (hn : n ≤ 7) : makeO h nx (some z) (some (.int .i64 0)) (some (vi n)) = .new (.slice (some ⟨nx, 0, none⟩) 0 n) (hset h nx (.cells (repL n z []) none)) (nx + 1) := by
  unfold makeO
  have e1 : z6z (vi n) = some n := rfl
  have e0 : z6z (.int .i64 0) = some 0 := rfl
  simp only [e0, e1]
  have b1 : Nat.ble n 65536 = true := by rw [z1d]; simp; omega
  rw [b1]
  rfl
theorem c133 {S : Kn} (hS : S.Only [22]) {m : Nat} (hm : 1 ≤ m) {b : Bk} {h : Hp} {nx : Nat} (hb : b.At h nx) (h7 : b.P.length ≤ 7) (f : Nat → Bool) :
    ∃ C, z07 133 [.agg (z0f b f).toArray] (z08 Tryz.prog vmL S m) h nx = .gen (.slice (some ⟨nx, 0, none⟩) (z0a b.P f b.P.length).length (z0a b.P f b.P.length).length) (hset h nx (.cells C none)) (nx + 1) [] ∧ C.length = b.P.length * 4 ∧ C.take ((z0a b.P f b.P.length).length * 4) = z8j (z0a b.P f b.P.length) := by
  have key : ∃ C h1 n1 r, nx ≤ r ∧ hget h1 r = some (.cells C none) ∧ doneR Tryz.prog 37 [(.tmp 2)] (sC Tryz.prog 37 37 (z08 Tryz.prog vmL S (m - 1)) s133 ⟨nx, none, [], []⟩ (enum [.agg (z0f b f).toArray] 0) h nx) = .val (.slice (some ⟨r, 0, none⟩) (z0a b.P f b.P.length).length (z0a b.P f b.P.length).length) h1 n1 [] ∧ flatL C ∧ C.length = b.P.length * 4 ∧ C.take ((z0a b.P f b.P.length).length * 4) = z8j (z0a b.P f b.P.length) := by
    have hcl := z3v b.P f b.P.length
    obtain ⟨a1, n1, e1, _⟩ := hb.p.form
    rw [List.length_map] at e1
    have hbox : rowL (hset h nx (.cells (z0f b f) none)) nx = some (z0f b f) := z03 _ _
    have hfld : (z0f b f)[0]? = some b.pv := rfl
    have hmk := fun (h : Hp) (nx : Nat) => makeO_new (h := h) (nx := nx) (z := [.int .i64 0, .int .i64 0, .int .i64 0, .bool false]) h7
    have hsl := slice3_all (size := 4) (r := nx + 1) (o := 0) (n := (z0a b.P f b.P.length).length) (c := b.P.length) (by unfold HALF; omega) hcl
    simp (maxSteps := 10000000) (disch := omega) only [s133, z1x, e1, hbox, hfld, hmk, bz, z00, Nat.reduceEqDiff, Nat.reduceLT, Nat.reduceAdd, Nat.reduceMul, Int.reduceToNat]
    generalize hr : z0w _ _ _ _ _ = r
    have hx1 : nx ≠ nx + 1 := by omega
    have hsm : Same nx h (hset (hset h nx (.cells (z0f b f) none)) (nx + 1) (.cells (repL b.P.length [.int .i64 0, .int .i64 0, .int .i64 0, .bool false] []) none)) := ((Same.refl nx h).set (Nat.le_refl _) _).set (by omega) _
    have hA : rowL (hset (hset h nx (.cells (z0f b f) none)) (nx + 1) (.cells (repL b.P.length [.int .i64 0, .int .i64 0, .int .i64 0, .bool false] []) none)) nx = some (z0f b f) := by rw [z0j _ hx1]; exact z03 _ _
    have hC : flatL (repL b.P.length [Value.int .i64 0, .int .i64 0, .int .i64 0, .bool false] []) := by
      intro v hv
      have hv := z6v hv
      simp only [List.mem_cons, List.not_mem_nil, or_false] at hv
      rcases hv with rfl | rfl | rfl | rfl <;> rfl
    obtain ⟨vs', h', nx', C, rfl, e3, hq, eC, ef, et⟩ := loop133 (b := b) (f := f) (n0 := nx) (p := nx) (q := nx + 1) (hb.same hsm (Nat.le_refl _)) h7 rfl (Nat.le_refl _) (by omega) (by omega) hA (z11 _ _) (repL_len _ _) hC rfl rfl (by rw [e1]; rfl) rfl rfl hr
    refine ⟨C, h', nx', nx + 1, by omega, hq, ?_, ef, eC, et⟩
    simp (maxSteps := 10000000) (disch := omega) only [e3, hsl, bz, z00, Nat.reduceEqDiff, Nat.reduceLT, Nat.reduceAdd, Nat.reduceMul, Int.reduceToNat]
  obtain ⟨C, h1, n1, r, q1, q2, q3, q4, q5, q6⟩ := key
  exact ⟨C, fun133.fresh (hS _ _ _ _ (by decide)) hm (by simp) (z94 q4) ⟨h1, n1, r, q1, q2, q3⟩, q5, q6⟩
def sumR (p : List Value → Int) (rows : List (List Value)) (i : Nat) : Int := ((rows.take i).map p).sum
theorem sumR_succ {p : List Value → Int} {rows : List (List Value)} {i : Nat} {row : List Value} (h : rows[i]? = some row) : sumR p rows (i + 1) = sumR p rows i + p row := by
  unfold sumR
  rw [List.take_add_one, h, Option.toList_some, List.map_append, List.sum_append]
  simp
theorem sumR_bound {p : List Value → Int} {rows : List (List Value)} {B : Int} (hB : 0 ≤ B) (hp : ∀ row, row ∈ rows → -B ≤ p row ∧ p row ≤ B) : ∀ i : Nat, -(B * i) ≤ sumR p rows i ∧ sumR p rows i ≤ B * i := by
  intro i
  induction i with
  | zero => simp [sumR]
  | succ i ih =>
    have e : B * ((i + 1 : Nat) : Int) = B * i + B := by rw [Int.natCast_succ, Int.mul_add, Int.mul_one]
    rw [e]
    cases hr : rows[i]? with
    | none =>
      have : sumR p rows (i + 1) = sumR p rows i := by unfold sumR; rw [List.take_add_one, hr]; simp
      rw [this]; omega
    | some row =>
      have := hp row (List.mem_of_getElem? hr)
      rw [sumR_succ hr]; omega
theorem loop132 {ih : Rec} {rows : List (List Value)} {z : Z} {vs : Vs} {h : Hp} {nx fc : Nat} {v : Value} {p : List Value → Int} (hl : rows.length ≤ 1000) (hv : Lst h nx 4 v rows) (hn0 : z.n0 ≤ nx)
    (hB : ∀ row, row ∈ rows → -1000000000 ≤ p row ∧ p row ≤ 1000000000)
    (hp : ∀ row, row ∈ rows → ∀ h' nx', nx ≤ nx' → Same nx h h' → z07 fc [.agg row.toArray] ih h' nx' = .gen (vi (p row)) h' nx' [])
    (g0 : vs 0 = some (.func (.func fc) #[] #[])) (g5 : vs 5 = some (vi 0)) (g8 : vs 8 = some v) (g9 : vs 9 = some (vi rows.length)) (g10 : vs 10 = some (vi 0)) {r : R} (hr : z0w (sC Tryz.prog 21 21 ih l132_0) z vs h nx = r) :
    ∃ vs' h' nx', r = .exi 0 z vs' h' nx' ∧ vs' 5 = some (vi (sumR p rows rows.length)) := by
  subst hr
  refine z0o (Post := fun r => ∃ vs' h' nx', r = .exi 0 z vs' h' nx' ∧ vs' 5 = some (vi (sumR p rows rows.length)))
    (fun i z' vs' h' nx' => i ≤ rows.length ∧ z' = z ∧ nx ≤ nx' ∧ Same nx h h' ∧ vs' 0 = some (.func (.func fc) #[] #[]) ∧ vs' 5 = some (vi (sumR p rows i)) ∧ vs' 8 = some v ∧ vs' 9 = some (vi rows.length) ∧ vs' 10 = some (vi (i : Int))) rows.length (by omega)
    ⟨Nat.zero_le _, rfl, Nat.le_refl _, Same.refl _ _, g0, g5, g8, g9, g10⟩ ?_
  rintro i z' vs' h' nx' ⟨hi, rfl, hn, hs, e0, e5, e8, e9, e10⟩
  have hv' := hv.same hs hn
  obtain ⟨a, c, rfl, _⟩ := hv'.form
  by_cases hlt : i < rows.length
  · left
    obtain ⟨_, rr, o, row, cs, rfl, hrn, hrow, hrl, hcs, ho, hseg⟩ := hv'.load (i := i) hlt
    have h1 : ((i : Int) < (rows.length : Int)) := by omega
    have hmem := List.mem_of_getElem? hrow
    have hel : z0c true 4 cs (o + i * 4) = some (.agg row.toArray) := z3j (by omega) hseg
    have b1 := sumR_bound (by decide) hB i
    have b2 := hB row hmem
    have b3 : (1000000000 : Int) * i ≤ 1000000000 * 1000 := by omega
    have hst : storeAt 4 (hset h' nx' (.cells [.int .i64 0, .int .i64 0, .int .i64 0, .bool false] none)) nx' 0 (.agg row.toArray) = .wr (hset h' nx' (.cells row none)) nx' := by
      have := z3h (h := hset h' nx' (.cells [.int .i64 0, .int .i64 0, .int .i64 0, .bool false] none)) (r := nx') (l := row) (cs := [.int .i64 0, .int .i64 0, .int .i64 0, .bool false]) (b := none) (z11 _ _) hrl
      rw [z16] at this
      exact this
    have hpc : rowL (hset h' nx' (.cells row none)) nx' = some row := z03 _ _
    have hpt : z0c true 4 row 0 = some (.agg row.toArray) := by rw [z4p _ _ _ (by omega), List.drop_zero, List.take_of_length_le (by omega)]
    have hs2 : Same nx h (hset h' nx' (.cells row none)) := hs.set hn _
    have hc := hp row hmem (hset h' nx' (.cells row none)) (nx' + 1) (by omega) hs2
    have hw := sumR_succ (p := p) hrow
    refine ⟨hlt, z', _, _, _, (by simp (maxSteps := 10000000) (disch := omega) only [l132_0, e0, e5, e8, e9, e10, h1, hcs, hel, hst, hpc, hpt, hc, z1p, List.nil_append, List.append_nil, List.cons_append, z1k, storeO, bm, z00, Nat.reduceEqDiff, Nat.reduceLT, Nat.reduceAdd, Nat.reduceMul, Int.reduceToNat]; exact rfl), by omega, rfl, by omega, hs2, ?_, ?_, ?_, ?_, ?_⟩
    · simp only [z01, z00, Nat.reduceEqDiff, decide_true, decide_false, cond_true, cond_false, e0]
    · simp only [z01, z00, Nat.reduceEqDiff, decide_true, decide_false, cond_true, cond_false, hw]
    · simp only [z01, z00, Nat.reduceEqDiff, decide_true, decide_false, cond_true, cond_false, e8]
    · simp only [z01, z00, Nat.reduceEqDiff, decide_true, decide_false, cond_true, cond_false, e9]
    · simp only [z01, z00, Nat.reduceEqDiff, decide_true, decide_false, cond_true, cond_false]; rfl
  · right
    have h1 : ¬ ((i : Int) < (rows.length : Int)) := by omega
    have hie : i = rows.length := by omega
    have e : ∃ vs2, sC Tryz.prog 21 21 ih l132_0 z' vs' h' nx' = .exi 0 z' vs2 h' nx' ∧ vs2 5 = vs' 5 := by
      refine ⟨_, by simp (maxSteps := 10000000) (disch := omega) only [l132_0, e0, e5, e8, e9, e10, h1, bz, z00, Nat.reduceEqDiff, Nat.reduceLT, Nat.reduceAdd, Nat.reduceMul, Int.reduceToNat]; exact rfl, ?_⟩
      simp only [z01, Nat.reduceEqDiff, decide_true, decide_false, cond_true, cond_false]
    obtain ⟨vs2, e, q5⟩ := e
    rw [e]
    rw [hie] at e5
    exact ⟨trivial, vs2, h', nx', rfl, q5.trans e5⟩
theorem c132 {S : Kn} (hS : S.Only [22]) {m : Nat} (hm : 1 ≤ m) {rows : List (List Value)} {h : Hp} {nx fc : Nat} {v : Value} {p : List Value → Int} (hl : rows.length ≤ 1000) (hv : Lst h nx 4 v rows)
    (hB : ∀ row, row ∈ rows → -1000000000 ≤ p row ∧ p row ≤ 1000000000)
    (hp : ∀ row, row ∈ rows → ∀ h' nx', nx ≤ nx' → Same nx h h' → z07 fc [.agg row.toArray] (z08 Tryz.prog vmL S (m - 1)) h' nx' = .gen (vi (p row)) h' nx' []) :
    z07 132 [.func (.func fc) #[] #[], v] (z08 Tryz.prog vmL S m) h nx = .gen (vi (sumR p rows rows.length)) h nx [] := by
  refine fun132.ground (hS _ _ _ _ (by decide)) (by omega) rfl (by simp) ?_
  obtain ⟨a, c, e1, _⟩ := hv.form
  simp (maxSteps := 10000000) (disch := omega) only [s132, z1x, e1, bz, z00, Nat.reduceEqDiff, Nat.reduceLT, Nat.reduceAdd, Nat.reduceMul, Int.reduceToNat]
  generalize hr : z0w _ _ _ _ _ = r
  obtain ⟨vs', h', nx', rfl, e5⟩ := loop132 hl hv (Nat.le_refl _) hB hp rfl rfl (by rw [e1]; rfl) rfl rfl hr
  exact ⟨_, _, by simp (maxSteps := 10000000) (disch := omega) only [e5, bz, z00, Nat.reduceEqDiff, Nat.reduceLT, Nat.reduceAdd, Nat.reduceMul, Int.reduceToNat]; rfl⟩
theorem flatP_seg : ∀ (l : List Pc) (i : Nat) (x : Pc), l[i]? = some x → ((z8j l).drop (i * 4)).take 4 = x.row := by
  intro l
  induction l with
  | nil => intro i x h; simp at h
  | cons y l ih =>
    intro i x h
    have e : z8j (y :: l) = y.row ++ z8j l := rfl
    have hy : y.row.length = 4 := rfl
    cases i with
    | zero =>
      simp only [List.getElem?_cons_zero, Option.some.injEq] at h
      subst h
      rw [e, Nat.zero_mul, List.drop_zero, ← hy, List.take_left]
    | succ i =>
      rw [List.getElem?_cons_succ] at h
      have e2 : (i + 1) * 4 = y.row.length + i * 4 := by rw [hy]; omega
      rw [e, e2, List.drop_append, List.drop_of_length_le (by omega), List.nil_append, Nat.add_sub_cancel_left]
      exact ih i x h
theorem lst_flat {l : List Pc} {C : List Value} {h : Hp} {r nx : Nat} (hr : r < nx) (hc : rowL h r = some C) (ht : C.take (l.length * 4) = z8j l) (hl : l.length * 4 ≤ C.length) : Lst h nx 4 (.slice (some ⟨r, 0, none⟩) l.length l.length) (l.map Pc.row) := by
  refine ⟨_, _, by rw [List.length_map], fun i row hi => ?_⟩
  rw [List.getElem?_map] at hi
  cases hx : l[i]? with
  | none => rw [hx] at hi; cases hi
  | some x =>
    rw [hx] at hi
    have hi : x.row = row := Option.some.inj hi
    subst hi
    have hlt : i < l.length := (List.getElem?_eq_some_iff.1 hx).1
    refine ⟨rfl, r, 0, C, rfl, hr, hc, by omega, ?_⟩
    have := flatP_seg l i x hx
    rw [← ht, List.drop_take, List.take_take, Nat.min_eq_left (by omega)] at this
    rw [Nat.zero_add]; exact this
def sumP (g : Pc → Int) (P : List Pc) (f : Nat → Bool) : Int := ((z0a P f P.length).map g).sum
theorem c102 {S : Kn} (hS : S.Only [22]) {m : Nat} (hm : 2 ≤ m) {b : Bk} {h : Hp} {nx fc : Nat} (hb : b.At h nx) (h7 : b.P.length ≤ 7) (f : Nat → Bool) {g : Pc → Int} {p : List Value → Int} (hpg : ∀ x : Pc, p x.row = g x)
    (hB : ∀ x, x ∈ b.P → -1000000000 ≤ g x ∧ g x ≤ 1000000000)
    (hp : ∀ x : Pc, x ∈ b.P → ∀ h' nx', nx ≤ nx' → Same nx h h' → z07 fc [.agg x.row.toArray] (z08 Tryz.prog vmL S (m - 2)) h' nx' = .gen (vi (g x)) h' nx' []) :
    z07 102 [.agg (z0f b f).toArray, .func (.func fc) #[] #[]] (z08 Tryz.prog vmL S m) h nx = .gen (vi (sumP g b.P f)) h nx [] := by
  refine fun102.ground (hS _ _ _ _ (by decide)) (by omega) rfl (by simp) ?_
  have hsm : Same nx h (hset h nx (.cells (z0f b f) none)) := (Same.refl nx h).set (Nat.le_refl _) _
  obtain ⟨C, k133, eC, et⟩ := c133 hS (m := m - 1) (by omega) (hb.same hsm (nx' := nx + 1) (by omega)) h7 f
  have hcl := z3v b.P f b.P.length
  have hsm2 : Same nx h (hset (hset h nx (.cells (z0f b f) none)) (nx + 1) (.cells C none)) := hsm.set (by omega) _
  have hmem : ∀ x, x ∈ z0a b.P f b.P.length → x ∈ b.P := fun x hx => by
    unfold z0a at hx
    obtain ⟨y, hy, rfl⟩ := List.mem_map.1 hx
    have := List.mem_filter.1 hy
    exact List.mem_of_mem_take (List.fst_mem_of_mem_zipIdx this.1)
  have k132 := c132 hS (h := hset (hset h nx (.cells (z0f b f) none)) (nx + 1) (.cells C none)) (nx := nx + 1 + 1) (m := m - 1) (by omega) (fc := fc) (p := p) (rows := (z0a b.P f b.P.length).map Pc.row) (by rw [List.length_map]; omega) (lst_flat (nx := nx + 1 + 1) (by omega) (z03 _ _) et (by omega))
    (fun row hrow => by
      obtain ⟨x, hx, rfl⟩ := List.mem_map.1 hrow
      rw [hpg]; exact hB x (hmem x hx))
    (fun row hrow h' nx' hn hs => by
      obtain ⟨x, hx, rfl⟩ := List.mem_map.1 hrow
      rw [hpg, show m - 1 - 1 = m - 2 by omega]
      exact hp x (hmem x hx) h' nx' (by omega) (hsm2.trans (hs.mono (by omega))))
  have hsum : sumR p ((z0a b.P f b.P.length).map Pc.row) ((z0a b.P f b.P.length).map Pc.row).length = sumP g b.P f := by
    unfold sumR sumP
    rw [List.take_length, List.map_map]
    congr 1
    exact List.map_congr_left fun x _ => hpg x
  rw [hsum] at k132
  have hbox : rowL (hset h nx (.cells (z0f b f) none)) nx = some (z0f b f) := z03 _ _
  have hld : z0c true 14 (z0f b f) 0 = some (.agg (z0f b f).toArray) := rfl
  simp (maxSteps := 10000000) (disch := omega) only [s102, hbox, hld, k133, k132, bz, z00, Nat.reduceEqDiff, Nat.reduceLT, Nat.reduceAdd, Nat.reduceMul, Int.reduceToNat]
  exact ⟨_, _, rfl⟩
theorem c112 {S : Kn} (hS : S.Only [22]) {m : Nat} (hm : 1 ≤ m) (x : Pc) {h : Hp} {nx : Nat} : z07 112 [.agg x.row.toArray] (z08 Tryz.prog vmL S m) h nx = .gen (vi x.size) h nx [] := by
  refine fun112.ground (hS _ _ _ _ (by decide)) (by omega) rfl (by simp) ?_
  simp (maxSteps := 10000000) (disch := omega) only [s112, Pc.row, bz, z00, Nat.reduceEqDiff, Nat.reduceLT, Nat.reduceAdd, Nat.reduceMul, Int.reduceToNat]
  exact ⟨_, _, rfl⟩
theorem c113 {S : Kn} (hS : S.Only [22]) {m : Nat} (hm : 1 ≤ m) (x : Pc) {h : Hp} {nx : Nat} : z07 113 [.agg x.row.toArray] (z08 Tryz.prog vmL S m) h nx = .gen (vi x.weight) h nx [] := by
  refine fun113.ground (hS _ _ _ _ (by decide)) (by omega) rfl (by simp) ?_
  simp (maxSteps := 10000000) (disch := omega) only [s113, Pc.row, bz, z00, Nat.reduceEqDiff, Nat.reduceLT, Nat.reduceAdd, Nat.reduceMul, Int.reduceToNat]
  exact ⟨_, _, rfl⟩
theorem c103 {S : Kn} (hS : S.Only [22]) {m : Nat} (hm : 1 ≤ m) (x : Pc) {h : Hp} {nx : Nat} : z07 103 [.agg x.row.toArray] (z08 Tryz.prog vmL S m) h nx = .gen (vi x.worth) h nx [] := by
  refine fun103.ground (hS _ _ _ _ (by decide)) (by omega) rfl (by simp) ?_
  simp (maxSteps := 10000000) (disch := omega) only [s103, Pc.row, bz, z00, Nat.reduceEqDiff, Nat.reduceLT, Nat.reduceAdd, Nat.reduceMul, Int.reduceToNat]
  exact ⟨_, _, rfl⟩
theorem c140 {S : Kn} (hS : S.Only [22]) {m : Nat} (hm : 1 ≤ m) (x : Pc) {h : Hp} {nx : Nat} : z07 140 [.agg x.row.toArray] (z08 Tryz.prog vmL S m) h nx = .gen (.bool x.alone) h nx [] := by
  refine fun140.ground (hS _ _ _ _ (by decide)) (by omega) rfl (by simp) ?_
  simp (maxSteps := 10000000) (disch := omega) only [s140, Pc.row, bz, z00, Nat.reduceEqDiff, Nat.reduceLT, Nat.reduceAdd, Nat.reduceMul, Int.reduceToNat]
  exact ⟨_, _, rfl⟩
def aloneR (row : List Value) : Bool := match row with
  | [_, _, _, .bool a] => a
  | _ => false
def z3g (P : List Pc) (f : Nat → Bool) : Bool := (z0a P f P.length).length == 1 || !(z0a P f P.length).any Pc.alone
theorem c114 {S : Kn} (hS : S.Only [22]) {m : Nat} (hm : 4 ≤ m) {b : Bk} {h : Hp} {nx : Nat} (hb : b.At h nx) (h7 : b.P.length ≤ 7) (f : Nat → Bool) :
    z07 114 [.agg (z0f b f).toArray] (z08 Tryz.prog vmL S m) h nx = .gen (.bool (z3g b.P f)) h nx [] := by
  refine fun114.ground (hS _ _ _ _ (by decide)) (by omega) rfl (by simp) ?_
  have hsm : Same nx h (hset h nx (.cells (z0f b f) none)) := (Same.refl nx h).set (Nat.le_refl _) _
  obtain ⟨C, k133, eC, et⟩ := c133 hS (m := m - 1) (by omega) (hb.same hsm (nx' := nx + 1) (by omega)) h7 f
  have hcl := z3v b.P f b.P.length
  have k134 := c134 hS (h := hset (hset h nx (.cells (z0f b f) none)) (nx + 1) (.cells C none)) (nx := nx + 1 + 1) (m := m - 1) (by omega) (fc := 140) (xs := []) (ys := []) (p := aloneR) (rows := (z0a b.P f b.P.length).map Pc.row) (by rw [List.length_map]; omega) (lst_flat (nx := nx + 1 + 1) (by omega) (z03 _ _) et (by omega))
    (fun row hrow => by
      obtain ⟨x, hx, rfl⟩ := List.mem_map.1 hrow
      exact c140 hS (by omega) x)
  have hany : ((z0a b.P f b.P.length).map Pc.row).any aloneR = (z0a b.P f b.P.length).any Pc.alone := by rw [List.any_map]; rfl
  rw [hany] at k134
  have hbox : rowL (hset h nx (.cells (z0f b f) none)) nx = some (z0f b f) := z03 _ _
  have hld : z0c true 14 (z0f b f) 0 = some (.agg (z0f b f).toArray) := rfl
  by_cases h1 : (z0a b.P f b.P.length).length = 1
  · have e : z3g b.P f = true := by unfold z3g; rw [h1]; rfl
    have h1' : (((z0a b.P f b.P.length).length : Int) == 1) = true := by rw [h1]; rfl
    rw [e]
    simp (maxSteps := 10000000) (disch := omega) only [s114, hbox, hld, k133, k134, h1', bz, z00, Nat.reduceEqDiff, Nat.reduceLT, Nat.reduceAdd, Nat.reduceMul, Int.reduceToNat]
    exact ⟨_, _, rfl⟩
  · have e : z3g b.P f = !(z0a b.P f b.P.length).any Pc.alone := by unfold z3g; rw [beq_false_of_ne h1, Bool.false_or]
    have h1' : (((z0a b.P f b.P.length).length : Int) == 1) = false := beq_false_of_ne (by omega)
    rw [e]
    rcases Bool.eq_false_or_eq_true ((z0a b.P f b.P.length).any Pc.alone) with h2 | h2 <;> rw [h2] at k134 ⊢ <;> simp (maxSteps := 10000000) (disch := omega) only [s114, hbox, hld, k133, k134, h1', bz, z00, Nat.reduceEqDiff, Nat.reduceLT, Nat.reduceAdd, Nat.reduceMul, Int.reduceToNat] <;> exact ⟨_, _, rfl⟩
end Go.Proofs.YtcmkngajdckndaaGreatDoor
namespace Go.Proofs.YtcmkngajdckndaaGreatDoor
open Go Go.Proofs Go.Lm
set_option maxRecDepth 10000
set_option maxHeartbeats 8000000
theorem z15 {lo hi x : Int} : inB lo hi x = true → lo ≤ x ∧ x ≤ hi := by
  intro h
  simpa [inB] using h
theorem size_le {x : Pc} (h : x.ok = true) : -1000000000 ≤ x.size ∧ x.size ≤ 1000000000 := by
  unfold Pc.ok at h
  have := z15 (Bool.and_eq_true_iff.1 h).1
  omega
theorem weight_le {x : Pc} (h : x.ok = true) : -1000000000 ≤ x.weight ∧ x.weight ≤ 1000000000 := by
  unfold Pc.ok at h
  have := z15 (Bool.and_eq_true_iff.1 (Bool.and_eq_true_iff.1 h).2).1
  omega
theorem worth_le {x : Pc} (h : x.ok = true) : -1000000000 ≤ x.worth ∧ x.worth ≤ 1000000000 := by
  unfold Pc.ok at h
  have := z15 (Bool.and_eq_true_iff.1 (Bool.and_eq_true_iff.1 h).2).2
  omega
def headI (row : List Value) (i : Nat) : Int := match row[i]? with
  | some (.int _ n) => n
  | _ => 0
variable {S : Kn} (hS : S.Only [22]) {m : Nat} {b : Bk} {h : Hp} {nx : Nat} (hb : b.At h nx) (h7 : b.P.length ≤ 7) (hok : b.P.all Pc.ok = true) (f : Nat → Bool)
include hS hb h7 hok
theorem c102s (hm : 3 ≤ m) : z07 102 [.agg (z0f b f).toArray, .func (.func 112) #[] #[]] (z08 Tryz.prog vmL S m) h nx = .gen (vi (sumP Pc.size b.P f)) h nx [] :=
  c102 hS (by omega) hb h7 f (p := fun r => headI r 0) (fun _ => rfl) (fun x hx => size_le (List.all_eq_true.1 hok x hx)) fun x _ _ _ _ _ => c112 hS (by omega) x
theorem c102w (hm : 3 ≤ m) : z07 102 [.agg (z0f b f).toArray, .func (.func 113) #[] #[]] (z08 Tryz.prog vmL S m) h nx = .gen (vi (sumP Pc.weight b.P f)) h nx [] :=
  c102 hS (by omega) hb h7 f (p := fun r => headI r 1) (fun _ => rfl) (fun x hx => weight_le (List.all_eq_true.1 hok x hx)) fun x _ _ _ _ _ => c113 hS (by omega) x
theorem c102p (hm : 3 ≤ m) : z07 102 [.agg (z0f b f).toArray, .func (.func 103) #[] #[]] (z08 Tryz.prog vmL S m) h nx = .gen (vi (sumP Pc.worth b.P f)) h nx [] :=
  c102 hS (by omega) hb h7 f (p := fun r => headI r 2) (fun _ => rfl) (fun x hx => worth_le (List.all_eq_true.1 hok x hx)) fun x _ _ _ _ _ => c103 hS (by omega) x
def z8k (P : List Pc) (f : Nat → Bool) (k : Kd) : Bool := decide (sumP Pc.size P f ≤ k.room) && (decide (sumP Pc.weight P f ≤ k.most) && z3g P f)
theorem c83 (hm : 5 ≤ m) (k : Kd) : z07 83 [.agg (z0f b f).toArray, .agg k.row.toArray] (z08 Tryz.prog vmL S m) h nx = .gen (.bool (z8k b.P f k)) h nx [] := by
  refine fun83.ground (hS _ _ _ _ (by decide)) (by omega) rfl (by simp) ?_
  have hsm : Same nx h (hset (hset h nx (.cells (z0f b f) none)) (nx + 1) (.cells k.row none)) := ((Same.refl nx h).set (Nat.le_refl _) _).set (by omega) _
  have hb' := hb.same hsm (nx' := nx + 1 + 1) (by omega)
  have ks := c102s hS hb' h7 hok f (m := m - 1) (by omega)
  have kw := c102w hS hb' h7 hok f (m := m - 1) (by omega)
  have kt := c114 hS (m := m - 1) (by omega) hb' h7 f
  have hx1 : nx ≠ nx + 1 := by omega
  have hbox : rowL (hset (hset h nx (.cells (z0f b f) none)) (nx + 1) (.cells k.row none)) nx = some (z0f b f) := by rw [z0j _ hx1]; exact z03 _ _
  have hld : z0c true 14 (z0f b f) 0 = some (.agg (z0f b f).toArray) := rfl
  unfold z8k
  simp only [Kd.row] at ks kw kt hbox
  rcases Bool.eq_false_or_eq_true (decide (sumP Pc.size b.P f ≤ k.room)) with h1 | h1 <;> rcases Bool.eq_false_or_eq_true (decide (sumP Pc.weight b.P f ≤ k.most)) with h2 | h2 <;> rw [h1, h2] <;> simp (maxSteps := 10000000) (disch := omega) only [s83, Kd.row, hbox, hld, ks, kw, kt, h1, h2, bz, z00, Nat.reduceEqDiff, Nat.reduceLT, Nat.reduceAdd, Nat.reduceMul, Int.reduceToNat] <;> exact ⟨_, _, rfl⟩
end Go.Proofs.YtcmkngajdckndaaGreatDoor
namespace Go
namespace Lm
variable {P : Program} {nv : Nat} {ih : Rec} {vs : Vs} {h : Hp} {nx : Nat}
noncomputable def maxO (P : Program) (x y : Option Value) : Option Value := match x, y with
  | some a, some b => bif z0m flat [a, b] then gr (z0k P (Builtin.max_ #[] 0 #[a, b])) else none
  | _, _ => none
theorem o_max2 (x y : Operand) (t u : TypeId) : rOp P nv ih (.call { callee := .builtin .max, args := #[x, y], argTypes := #[t, u] }) vs h nx = outP (maxO P (opV nv x vs) (opV nv y vs)) := by
  unfold rOp
  show runO (z4a P nv { callee := .builtin .max, args := #[x, y], argTypes := #[t, u] }) ih vs [] h nx = _
  obtain ⟨f, hf⟩ := z04 nv x
  obtain ⟨g, hg⟩ := z04 nv y
  have hm : dXs nv [x, y] = .mk [f, g] := by
    have e : dXs nv [x, y] = match dX nv x, (match dX nv y, dXs nv [] with | .mk f, .mk l => XL.mk (f :: l)) with | .mk f, .mk l => XL.mk (f :: l) := rfl
    rw [e, hf, hg]; rfl
  unfold z4a
  simp only [hm]
  rw [← z6n hf, ← z6n hg]
  show outP (z41 P .max [f, g] vs []) = outP (maxO P (f vs []) (g vs []))
  unfold z41 maxO
  cases hx : f vs [] with
  | none =>
    have e : evs [f, g] vs [] = none := by unfold evs; simp only [hx]
    rw [e]
  | some a =>
    cases hy : g vs [] with
    | none =>
      have e : evs [f, g] vs [] = none := by unfold evs; simp only [hx, evs, hy]
      rw [e]
    | some b =>
      have e : evs [f, g] vs [] = some [a, b] := by unfold evs; simp only [hx, evs, hy]
      rw [e]
theorem maxO_int (a b : Int) : maxO P (some (.int .i64 a)) (some (.int .i64 b)) = some (.int .i64 (max a b)) := by
  unfold maxO
  show gr (z0k P (Builtin.max_ #[] 0 #[.int .i64 a, .int .i64 b])) = _
  unfold Builtin.max_
  simp only [List.foldlM]
  unfold Builtin.max2
  by_cases hab : a < b
  · have : max a b = b := by omega
    rw [this]; simp only [gt_iff_lt, hab, if_true, if_false]; rfl
  · have : max a b = a := by omega
    rw [this]; simp only [gt_iff_lt, hab, if_true, if_false]; rfl
end Lm
end Go
namespace Go.Proofs.YtcmkngajdckndaaGreatDoor
open Go Go.Proofs Go.Lm
set_option maxRecDepth 10000
set_option maxHeartbeats 8000000
theorem loop142 {ih : Rec} {zs : List Int} {a0 : Int} {z : Z} {vs : Vs} {h : Hp} {nx : Nat} {v : Value} (hl : zs.length ≤ 140737488355328) (hv : Lst h nx 1 v (ints zs))
    (g0 : vs 0 = some (vi a0)) (g7 : vs 7 = some v) (g8 : vs 8 = some (vi zs.length)) (g9 : vs 9 = some (vi 0)) {r : R} (hr : z0w (sC Tryz.prog 18 18 ih l142_0) z vs h nx = r) :
    ∃ vs', r = .exi 0 z vs' h nx ∧ vs' 0 = some (vi (zs.foldl max a0)) := by
  subst hr
  refine z0o (Post := fun r => ∃ vs', r = .exi 0 z vs' h nx ∧ vs' 0 = some (vi (zs.foldl max a0)))
    (fun i z' vs' h' nx' => i ≤ zs.length ∧ z' = z ∧ h' = h ∧ nx' = nx ∧ vs' 0 = some (vi ((zs.take i).foldl max a0)) ∧ vs' 7 = some v ∧ vs' 8 = some (vi zs.length) ∧ vs' 9 = some (vi (i : Int))) zs.length (by omega)
    ⟨Nat.zero_le _, rfl, rfl, rfl, g0, g7, g8, g9⟩ ?_
  rintro i z' vs' h' nx' ⟨hi, rfl, rfl, rfl, e0, e7, e8, e9⟩
  obtain ⟨a, c, rfl, _⟩ := hv.form
  have hil : (ints zs).length = zs.length := by simp [ints]
  rw [hil] at e7 hv
  by_cases hlt : i < zs.length
  · left
    obtain ⟨_, rr, o, row, cs, rfl, hrn, hrow, hrl, hcs, ho, hseg⟩ := hv.load (i := i) hlt
    have h1 : ((i : Int) < (zs.length : Int)) := by omega
    have hrw : row = [vi zs[i]] := by
      unfold ints at hrow
      rw [List.getElem?_map, List.getElem?_eq_getElem hlt] at hrow
      exact (Option.some.inj hrow).symm
    subst hrw
    have hel : z0c false 1 cs (o + i * 1) = some (vi zs[i]) := z2u (row := []) hseg
    have hw : (zs.take (i + 1)).foldl max a0 = max ((zs.take i).foldl max a0) zs[i] := by
      rw [List.take_add_one, List.getElem?_eq_getElem hlt, Option.toList_some, List.foldl_append]; rfl
    refine ⟨hlt, z', _, _, _, (by simp (maxSteps := 10000000) (disch := omega) only [l142_0, e0, e7, e8, e9, h1, hcs, hel, o_max2, maxO_int, bz, z00, Nat.reduceEqDiff, Nat.reduceLT, Nat.reduceAdd, Nat.reduceMul, Int.reduceToNat]; exact rfl), by omega, rfl, rfl, rfl, ?_, ?_, ?_, ?_⟩
    · simp only [z01, z00, Nat.reduceEqDiff, decide_true, decide_false, cond_true, cond_false, hw]
    · simp only [z01, z00, Nat.reduceEqDiff, decide_true, decide_false, cond_true, cond_false, e7, hil]
    · simp only [z01, z00, Nat.reduceEqDiff, decide_true, decide_false, cond_true, cond_false, e8]
    · simp only [z01, z00, Nat.reduceEqDiff, decide_true, decide_false, cond_true, cond_false]; rfl
  · right
    have h1 : ¬ ((i : Int) < (zs.length : Int)) := by omega
    have hie : i = zs.length := by omega
    have e : ∃ vs2, sC Tryz.prog 18 18 ih l142_0 z' vs' h' nx' = .exi 0 z' vs2 h' nx' ∧ vs2 0 = vs' 0 := by
      refine ⟨_, by simp (maxSteps := 10000000) (disch := omega) only [l142_0, e0, e7, e8, e9, h1, bz, z00, Nat.reduceEqDiff, Nat.reduceLT, Nat.reduceAdd, Nat.reduceMul, Int.reduceToNat]; exact rfl, ?_⟩
      simp only [z01, Nat.reduceEqDiff, decide_true, decide_false, cond_true, cond_false]
    obtain ⟨vs2, e, q0⟩ := e
    rw [e]
    rw [hie, List.take_length] at e0
    exact ⟨trivial, vs2, rfl, q0.trans e0⟩
theorem c142 {S : Kn} (hS : S.Only [22]) {m : Nat} (hm : 1 ≤ m) {zs : List Int} (a0 : Int) {h : Hp} {nx : Nat} {v : Value} (hl : zs.length ≤ 140737488355328) (hv : Lst h nx 1 v (ints zs)) : z07 142 [vi a0, v] (z08 Tryz.prog vmL S m) h nx = .gen (vi (zs.foldl max a0)) h nx [] := by
  refine fun142.ground (hS _ _ _ _ (by decide)) (by omega) rfl (by simp) ?_
  obtain ⟨a, c, e1, _⟩ := hv.form
  have hil : (ints zs).length = zs.length := by simp [ints]
  rw [hil] at e1
  simp (maxSteps := 10000000) (disch := omega) only [s142, z1x, e1, bz, z00, Nat.reduceEqDiff, Nat.reduceLT, Nat.reduceAdd, Nat.reduceMul, Int.reduceToNat]
  generalize hr : z0w _ _ _ _ _ = r
  obtain ⟨vs', rfl, e0⟩ := loop142 (a0 := a0) hl hv rfl (by rw [e1]; rfl) rfl rfl hr
  exact ⟨_, _, by simp (maxSteps := 10000000) (disch := omega) only [e0, bz, z00, Nat.reduceEqDiff, Nat.reduceLT, Nat.reduceAdd, Nat.reduceMul, Int.reduceToNat]; rfl⟩
end Go.Proofs.YtcmkngajdckndaaGreatDoor
namespace Go.Proofs.YtcmkngajdckndaaGreatDoor
open Go Go.Proofs Go.Lm
set_option maxRecDepth 10000
set_option maxHeartbeats 8000000
def z2k (b : Bk) (f : Nat → Bool) (k : Kd) (zone : Int) : List Value := z0f b f ++ k.row ++ [vi zone]
variable {S : Kn} (hS : S.Only [22]) {m : Nat} {b : Bk} {h : Hp} {nx : Nat} (hb : b.At h nx) (h7 : b.P.length ≤ 7) (hok : b.P.all Pc.ok = true) (f : Nat → Bool)
include hS hb h7 hok
theorem c118 (hm : 4 ≤ m) (k : Kd) (zone : Int) (hst : 0 ≤ k.step) (hst2 : k.step ≤ 1000) (hg : 1 ≤ b.grams) (hg2 : b.grams ≤ 1000000) (hw : 0 ≤ sumP Pc.weight b.P f) (hw2 : sumP Pc.weight b.P f ≤ 1000000) : z07 118 [.agg (z2k b f k zone).toArray] (z08 Tryz.prog vmL S m) h nx = .gen (vi (k.step * ((sumP Pc.weight b.P f + b.grams - 1) / b.grams - 1))) h nx [] := by
  refine fun118.ground (hS _ _ _ _ (by decide)) (by omega) rfl (by simp) ?_
  have hsm : Same nx h (hset h nx (.cells (z2k b f k zone) none)) := (Same.refl nx h).set (Nat.le_refl _) _
  have hb' := hb.same hsm (nx' := nx + 1) (by omega)
  have kw := c102w hS hb' h7 hok f (m := m - 1) (by omega)
  have k141 := fun (h : Hp) (nx : Nat) => c141 hS (m := m - 1) (h := h) (nx := nx) (by omega) (sumP Pc.weight b.P f) b.grams hw (by omega) hg hg2
  have hbox : rowL (hset h nx (.cells (z2k b f k zone) none)) nx = some (z2k b f k zone) := z03 _ _
  have hld : z0c true 14 (z2k b f k zone) 0 = some (.agg (z0f b f).toArray) := rfl
  have hl2 : (z2k b f k zone)[2]? = some (vi b.grams) := rfl
  have hl17 : (z2k b f k zone)[17]? = some (vi k.step) := rfl
  have hd : 0 ≤ (sumP Pc.weight b.P f + b.grams - 1) / b.grams := Int.ediv_nonneg (by omega) (by omega)
  have hd2 : (sumP Pc.weight b.P f + b.grams - 1) / b.grams ≤ 2000000 := Int.le_trans (Int.ediv_le_self _ (by omega)) (by omega)
  have hmul : IntKind.wrap .i64 (k.step * ((sumP Pc.weight b.P f + b.grams - 1) / b.grams - 1)) = k.step * ((sumP Pc.weight b.P f + b.grams - 1) / b.grams - 1) := by
    refine z3f _ ?_ ?_
    · have := Int.mul_le_mul_of_nonneg_left (show (-1 : Int) ≤ (sumP Pc.weight b.P f + b.grams - 1) / b.grams - 1 by omega) hst
      omega
    · have h1 := Int.mul_le_mul_of_nonneg_left (show (sumP Pc.weight b.P f + b.grams - 1) / b.grams - 1 ≤ 2000000 by omega) hst
      omega
  simp (maxSteps := 10000000) (disch := omega) only [s118, hbox, hld, hl2, hl17, kw, k141, hmul, bz, z00, Nat.reduceEqDiff, Nat.reduceLT, Nat.reduceAdd, Nat.reduceMul, Int.reduceToNat]
  exact ⟨_, _, rfl⟩
end Go.Proofs.YtcmkngajdckndaaGreatDoor
namespace Go.Proofs.YtcmkngajdckndaaGreatDoor
open Go Go.Proofs Go.Lm
set_option maxRecDepth 10000
set_option maxHeartbeats 8000000
theorem c117 {S : Kn} (hS : S.Only [22]) {m : Nat} {b : Bk} {h : Hp} {nx : Nat} (f : Nat → Bool) (hm : 1 ≤ m) (k : Kd) (zone : Nat) (hz : Lst h nx 1 k.zv (ints k.zs)) (hlt : zone < k.zs.length) (h5 : k.zs.length ≤ 1000) : z07 117 [.agg (z2k b f k zone).toArray] (z08 Tryz.prog vmL S m) h nx = .gen (vi k.zs[zone]) h nx [] := by
  refine fun117.ground (hS _ _ _ _ (by decide)) (by omega) rfl (by simp) ?_
  have hsm : Same nx h (hset h nx (.cells (z2k b f k zone) none)) := (Same.refl nx h).set (Nat.le_refl _) _
  have hz' := hz.same hsm (nx' := nx + 1) (by omega)
  obtain ⟨a, c, hve, _⟩ := hz'.form
  have hil : (ints k.zs).length = k.zs.length := by simp [ints]
  rw [hil] at hve
  rw [hve] at hz'
  obtain ⟨_, rr, o, row, cs, rfl, hrn, hrow, hrl, hcs, ho, hseg⟩ := hz'.load (i := zone) hlt
  have hrw : row = [vi k.zs[zone]] := by
    unfold ints at hrow
    rw [List.getElem?_map, List.getElem?_eq_getElem hlt] at hrow
    exact (Option.some.inj hrow).symm
  subst hrw
  have hel : z0c false 1 cs (o + zone * 1) = some (vi k.zs[zone]) := z2u (row := []) hseg
  have hbox : rowL (hset h nx (.cells (z2k b f k zone) none)) nx = some (z2k b f k zone) := z03 _ _
  have hl16 : (z2k b f k zone)[16]? = some k.zv := rfl
  have hl18 : (z2k b f k zone)[18]? = some (vi (zone : Int)) := rfl
  simp (maxSteps := 10000000) (disch := omega) only [s117, hbox, hl16, hl18, hve, hcs, hel, bz, z00, Nat.reduceEqDiff, Nat.reduceLT, Nat.reduceAdd, Nat.reduceMul, Int.reduceToNat]
  exact ⟨_, _, rfl⟩
variable {S : Kn} (hS : S.Only [22]) {m : Nat} {b : Bk} {h : Hp} {nx : Nat} (hb : b.At h nx) (h7 : b.P.length ≤ 7) (hok : b.P.all Pc.ok = true) (f : Nat → Bool)
include hS hb h7 hok
theorem c119 (hm : 4 ≤ m) (k : Kd) (zone : Int) (hf0 : 0 ≤ b.fee) (hf1 : b.fee ≤ 1000) (hg : 1 ≤ b.unit) (hg2 : b.unit ≤ 1000000) (hr0 : 0 ≤ b.free) (hr1 : b.free ≤ 1000000) (hw : 0 ≤ sumP Pc.worth b.P f) (hw2 : sumP Pc.worth b.P f ≤ 1000000) : z07 119 [.agg (z2k b f k zone).toArray] (z08 Tryz.prog vmL S m) h nx = .gen (vi (b.fee * ((max 0 (sumP Pc.worth b.P f - b.free) + b.unit - 1) / b.unit))) h nx [] := by
  refine fun119.ground (hS _ _ _ _ (by decide)) (by omega) rfl (by simp) ?_
  have hsm : Same nx h (hset h nx (.cells (z2k b f k zone) none)) := (Same.refl nx h).set (Nat.le_refl _) _
  have hb' := hb.same hsm (nx' := nx + 1) (by omega)
  have kw := c102p hS hb' h7 hok f (m := m - 1) (by omega)
  have k141 := fun (h : Hp) (nx : Nat) => c141 hS (m := m - 1) (h := h) (nx := nx) (by omega) (max 0 (sumP Pc.worth b.P f - b.free)) b.unit (by omega) (by omega) hg hg2
  have hbox : rowL (hset h nx (.cells (z2k b f k zone) none)) nx = some (z2k b f k zone) := z03 _ _
  have hlst : Lst (hset (hset h nx (.cells (z2k b f k zone) none)) (nx + 1) (.cells [vi (sumP Pc.worth b.P f - b.free)] none)) (nx + 1 + 1) 1 (.slice (some ⟨nx + 1, 0, none⟩) 1 1) (ints [sumP Pc.worth b.P f - b.free]) := by
    refine ⟨_, _, rfl, fun i row hi => ?_⟩
    cases i with
    | zero => cases hi; exact ⟨rfl, nx + 1, 0, _, rfl, by omega, z03 _ _, by simp, rfl⟩
    | succ i => simp [ints] at hi
  have k142 := c142 hS (m := m - 1) (by omega) 0 (by simp) hlst
  rw [show [sumP Pc.worth b.P f - b.free].foldl max 0 = max 0 (sumP Pc.worth b.P f - b.free) from rfl] at k142
  have hld : z0c true 14 (z2k b f k zone) 0 = some (.agg (z0f b f).toArray) := rfl
  have hl5 : (z2k b f k zone)[5]? = some (vi b.fee) := rfl
  have hl3 : (z2k b f k zone)[3]? = some (vi b.free) := rfl
  have hl4 : (z2k b f k zone)[4]? = some (vi b.unit) := rfl
  have hd : 0 ≤ (max 0 (sumP Pc.worth b.P f - b.free) + b.unit - 1) / b.unit := Int.ediv_nonneg (by omega) (by omega)
  have hd2 : (max 0 (sumP Pc.worth b.P f - b.free) + b.unit - 1) / b.unit ≤ 2000000 := Int.le_trans (Int.ediv_le_self _ (by omega)) (by omega)
  have hmul : IntKind.wrap .i64 (b.fee * ((max 0 (sumP Pc.worth b.P f - b.free) + b.unit - 1) / b.unit)) = b.fee * ((max 0 (sumP Pc.worth b.P f - b.free) + b.unit - 1) / b.unit) := by
    refine z3f _ ?_ ?_
    · have := Int.mul_nonneg hf0 hd
      omega
    · have h1 := Int.mul_le_mul_of_nonneg_left hd2 hf0
      omega
  simp (maxSteps := 10000000) (disch := omega) only [s119, hbox, hld, hl3, hl4, hl5, kw, k141, k142, hmul, bz, z00, Nat.reduceEqDiff, Nat.reduceLT, Nat.reduceAdd, Nat.reduceMul, Int.reduceToNat]
  exact ⟨_, _, rfl⟩
end Go.Proofs.YtcmkngajdckndaaGreatDoor
namespace Go
namespace Lm
variable {P : Program} {nvs : List (Nat × Nat)}
theorem callF_whole {f : FuncId} {us : List Value} {ih : Rec} {h : Hp} {nx : Nat} {v : Value} {h1 : Hp} {n1 : Nat} (hg : ground v = false) (hc : cmp3 h1 nx v ⟨h, nx, []⟩ = none) (hv : ih (.call f us) h nx = .val v h1 n1 []) : z07 f us ih h nx = .gen v h1 n1 [] := by
  unfold z07
  rw [hv]
  show (Bool.rec (match cmp3 h1 nx v ⟨h, nx, []⟩ with | some (u, s) => Out.gen u s.h s.nx [] | none => Out.gen v h1 n1 []) (Out.gen v h nx []) (ground v) : Out) = _
  rw [hg, hc]
theorem cmp3_slice_none {h1 h : Hp} {nx r o n c : Nat} {cs : List Value} {b : Option Nat} (hr : nx ≤ r) (hc : hget h1 r = some (.cells cs b)) (hf : z0m flat cs = false) :
    cmp3 h1 nx (.slice (some ⟨r, o, none⟩) n c) ⟨h, nx, []⟩ = none := by
  show cmp1 h1 nx (.slice (some ⟨r, o, none⟩) n c) ⟨h, nx, []⟩ = _
  unfold cmp1
  have h1' : Nat.blt r nx = false := by rw [z0b]; simp; omega
  simp only [h1', cond_false]
  show (bif z1w r [] then _ else none) = _
  have h2 : z1w r [] = true := rfl
  rw [h2]
  simp only [cond_true, hc, hf, cond_false]
theorem Fun.whole {f : FuncId} {n : Nat} {rs : List ResultVar} {s : SC} (F : Fun P nvs f n rs s) {S : Kn} {m : Nat} {us : List Value} {h : Hp} {nx : Nat} {v : Value} {h1 : Hp} {n1 : Nat} (hn : S f us h nx = none) (hm : 1 ≤ m) (hg : Lm.ground v = false) (hc : cmp3 h1 nx v ⟨h, nx, []⟩ = none) (ha : us.length ≤ n)
    (hx : doneR P n rs (sC P n n (z08 P nvs S (m - 1)) s ⟨nx, none, [], []⟩ (enum us 0) h nx) = .val v h1 n1 []) : z07 f us (z08 P nvs S m) h nx = .gen v h1 n1 [] := by
  obtain ⟨k, rfl⟩ : ∃ k, m = k + 1 := ⟨m - 1, by omega⟩
  rw [Nat.add_sub_cancel] at hx
  exact callF_whole hg hc ((z4t hn).trans ((F.run _ us h nx ha).trans hx))
theorem z02 (v : Value) (vs : Vs) : put none v vs = vs := (fun h => h) (z00 v)
end Lm
end Go
