/- The program's functions as the machine runs them, and closed facts of its types; What the functions of package parcel answer, for any book, and why the law's comparison holds; how a book of a world reads; Rules by which a run of that machine is computed; A machine that takes letters for numbers and lists: what it answers, the program answers (its operations, steps, calls, loops, lists of a world). Conditions: none. -/
import Derived.Test.YtcmkngajdckndaaGreatDoorZ04
import Derived.Test.YtcmkngajdckndaaGreatDoorZ05
set_option linter.unusedVariables false
set_option linter.unusedSimpArgs false
namespace Go.Proofs.YtcmkngajdckndaaGreatDoor
open Go Go.Proofs Go.Lm
theorem plS_24_1_0 : plS Tryz.prog 24 1 [0] = some ([(0, 1)], [.int .i64 0]) := by kernel_rfl
theorem plB_77_0 : plB Tryz.prog 77 [0] = some ([(0, 7)], [.slice none 0 0, .slice none 0 0, .int .i64 0, .int .i64 0, .int .i64 0, .int .i64 0, .slice none 0 0]) := by kernel_rfl
theorem plB_79_0_1 : plB Tryz.prog 79 [0, 1] = some ([(0, 7), (7, 2)], [.slice none 0 0, .slice none 0 0, .int .i64 0, .int .i64 0, .int .i64 0, .int .i64 0, .slice none 0 0, .int .i64 0, .slice none 0 0]) := by kernel_rfl
theorem plS_122_1_0 : plS Tryz.prog 122 1 [0] = some ([(0, 1)], [.nilFunc]) := by kernel_rfl
theorem plS_122_2_0_1 : plS Tryz.prog 122 2 [0, 1] = some ([(0, 1), (1, 1)], [.nilFunc, .nilFunc]) := by kernel_rfl
theorem plB_28_0_1 : plB Tryz.prog 28 [0, 1] = some ([(0, 1), (1, 1)], [.int .i64 0, .slice none 0 0]) := by kernel_rfl
theorem plB_84_ : plB Tryz.prog 84 [] = some ([], [.int .i64 0, .int .i64 0]) := by kernel_rfl
theorem plB_132_0_1_2 : plB Tryz.prog 132 [0, 1, 2] = some ([(0, 14), (14, 4), (18, 1)], [.slice none 0 0, .slice none 0 0, .int .i64 0, .int .i64 0, .int .i64 0, .int .i64 0, .slice none 0 0, .bool false, .bool false, .bool false, .bool false, .bool false, .bool false, .bool false, .int .i64 0, .int .i64 0, .slice none 0 0, .int .i64 0, .int .i64 0]) := by kernel_rfl
theorem plB_126_0_1 : plB Tryz.prog 126 [0, 1] = some ([(0, 7), (7, 7)], [.slice none 0 0, .slice none 0 0, .int .i64 0, .int .i64 0, .int .i64 0, .int .i64 0, .slice none 0 0, .bool false, .bool false, .bool false, .bool false, .bool false, .bool false, .bool false]) := by kernel_rfl
theorem plB_124_ : plB Tryz.prog 124 [] = some ([], [.bool false, .bool false, .bool false, .bool false, .bool false, .bool false, .bool false]) := by kernel_rfl
theorem plB_84_0_1 : plB Tryz.prog 84 [0, 1] = some ([(0, 1), (1, 1)], [.int .i64 0, .int .i64 0]) := by kernel_rfl
theorem plS_136_3_0_1_2 : plS Tryz.prog 136 3 [0, 1, 2] = some ([(0, 1), (1, 1), (2, 1)], [.nilFunc, .nilFunc, .nilFunc]) := by kernel_rfl
theorem plB_104_0_1 : plB Tryz.prog 104 [0, 1] = some ([(0, 1), (1, 1)], [.int .i64 0, .int .i64 0]) := by kernel_rfl
theorem plS_22_1_0 : plS Tryz.prog 22 1 [0] = some ([(0, 4)], [.int .i64 0, .int .i64 0, .int .i64 0, .bool false]) := by kernel_rfl
theorem lok16 : lastOk [0, 0, 3, 7, 0, 0, 48, 112, 255, 511] 9 = true := rfl
theorem lok17 : lastOk [0, 0, 3, 7, 15, 15, 63, 127, 255, 511, 1023, 511, 4095, 8191, 16383] 14 = true := rfl
theorem lok23 : lastOk [0, 1, 0, 4, 12, 31, 63] 6 = true := rfl
theorem lok29 : lastOk [0, 1, 0, 4, 15, 31, 63, 127, 63, 319, 1023, 2047, 4095, 8191, 8191, 24575, 65535, 131071, 262143, 524287, 1048575, 524287, 2621439, 8388607, 16777215, 33554431] 25 = true := rfl
theorem zeroE_22 : zeroE Tryz.prog 22 = some [.int .i64 0, .int .i64 0, .int .i64 0, .bool false] := by kernel_rfl
theorem appF_22 : appF Tryz.prog 22 22 = some 4 := by kernel_rfl
set_option maxRecDepth 10000
set_option maxHeartbeats 4000000
def limL : List Value := [vi 1, vi 7, vi 1, vi 500, vi 1, vi 5000, vi 0, vi 10000, vi 1, vi 4, vi 0, vi 4, vi 1, vi 1000, vi 0, vi 1000, vi 1, vi 10000, vi 1, vi 5, vi 0, vi 20000]
theorem pA2 (x0 x1 : Value) (l : List Value) : part1 true 2 (x0 :: x1 :: l) 0 = some (.agg #[x0, x1]) := rfl
theorem pA4 (x0 x1 x2 x3 : Value) (l : List Value) : part1 true 4 (x0 :: x1 :: x2 :: x3 :: l) 0 = some (.agg #[x0, x1, x2, x3]) := rfl
theorem pA7 (x0 x1 x2 x3 x4 x5 x6 : Value) (l : List Value) : part1 true 7 (x0 :: x1 :: x2 :: x3 :: x4 :: x5 :: x6 :: l) 0 = some (.agg #[x0, x1, x2, x3, x4, x5, x6]) := rfl
theorem pA14 (x0 x1 x2 x3 x4 x5 x6 x7 x8 x9 x10 x11 x12 x13 : Value) (l : List Value) : part1 true 14 (x0 :: x1 :: x2 :: x3 :: x4 :: x5 :: x6 :: x7 :: x8 :: x9 :: x10 :: x11 :: x12 :: x13 :: l) 0 = some (.agg #[x0, x1, x2, x3, x4, x5, x6, x7, x8, x9, x10, x11, x12, x13]) := rfl
theorem pAs (agg : Bool) (size : Nat) (x : Value) (l : List Value) (o : Nat) : part1 agg size (x :: l) (o + 1) = part1 agg size l o := rfl
theorem log_own2 (n0 : Nat) (rd : Option Nat) (D log : List Nat) (r : Nat) (hr : n0 ≤ r) : logZ ⟨n0, rd, D, log⟩ [r] = ⟨n0, rd, D, log⟩ := log_own _ _ hr
theorem limR0 : part1 true 2 limL 0 = some (.agg #[vi 1, vi 7]) := rfl
theorem limR1 : part1 true 2 limL 2 = some (.agg #[vi 1, vi 500]) := rfl
theorem limR2 : part1 true 2 limL 4 = some (.agg #[vi 1, vi 5000]) := rfl
theorem limR3 : part1 true 2 limL 6 = some (.agg #[vi 0, vi 10000]) := rfl
theorem limR4 : part1 true 2 limL 8 = some (.agg #[vi 1, vi 4]) := rfl
theorem limR5 : part1 true 2 limL 10 = some (.agg #[vi 0, vi 4]) := rfl
theorem limR6 : part1 true 2 limL 12 = some (.agg #[vi 1, vi 1000]) := rfl
theorem limR7 : part1 true 2 limL 14 = some (.agg #[vi 0, vi 1000]) := rfl
theorem limR8 : part1 true 2 limL 16 = some (.agg #[vi 1, vi 10000]) := rfl
theorem limR9 : part1 true 2 limL 18 = some (.agg #[vi 1, vi 5]) := rfl
theorem limR10 : part1 true 2 limL 20 = some (.agg #[vi 0, vi 20000]) := rfl
theorem g0V {nv : Nat} {vs : Vs} : opV nv (.global 0) vs = some (.pointer (some ⟨0, 0, none⟩)) := opV_global 0 (by decide)
theorem cel_int (k : IntKind) (n : Int) : cellsL (.int k n) = some [.int k n] := rfl
theorem cel_bool (t : Bool) : cellsL (.bool t) = some [.bool t] := rfl
theorem cel_sl (a : Option Addr) (n c : Nat) : cellsL (.slice a n c) = some [.slice a n c] := rfl
theorem cel_ptr (p : Option Addr) : cellsL (.pointer p) = some [.pointer p] := rfl
theorem cel_str (s : ByteArray) : cellsL (.string s) = some [.string s] := rfl
theorem cel_map (r : Option Nat) : cellsL (.map r) = some [.map r] := rfl
theorem cel_fn (f : Fn) (xs ys : Array Value) : cellsL (.func f xs ys) = some [.func f xs ys] := rfl
theorem cel_nf : cellsL .nilFunc = some [.nilFunc] := rfl
theorem cancel_iff (a b c : Nat) : a + b = a + c ↔ b = c := Nat.add_left_cancel_iff
theorem bq : type_of% (And.intro (And.intro (And.intro (And.intro (And.intro (And.intro (And.intro @enum_cons @enum_nil) (And.intro @s_seq (And.intro @s_reg @s_regQ))) (And.intro (And.intro @or_st (And.intro @q_nil @q_plain)) (And.intro @q_guard (And.intro @gq_tt @gq_ff)))) (And.intro (And.intro (And.intro @gq_tf (And.intro @gq_ft @cq_pur)) (And.intro @cq_rd (And.intro @cq_new @cq_gen))) (And.intro (And.intro @cq_wr (And.intro @s_skip @s_ret)) (And.intro @s_exit (And.intro @p_cons @p_nil))))) (And.intro (And.intro (And.intro (And.intro @one_plain (And.intro @one_guard @out_pur)) (And.intro @out_rd (And.intro @out_new @out_wr))) (And.intro (And.intro @out_gen (And.intro @log_nil @log_own)) (And.intro @ro_st (And.intro @o_move @o_assign)))) (And.intro (And.intro (And.intro @o_pick (And.intro @pickV_eq @o_alloc)) (And.intro @o_box (And.intro @o_load @rdO_some))) (And.intro (And.intro @o_store (And.intro @o_bin @o_un)) (And.intro @o_extract (And.intro @o_fieldAddr @o_field)))))) (And.intro (And.intro (And.intro (And.intro (And.intro @o_indexAddr (And.intro @o_call @o_nil)) (And.intro @o_makeFunc (And.intro @opV_t @opV_int))) (And.intro (And.intro @opV_bool (And.intro @opV_str @opV_nil)) (And.intro @opV_map0 (And.intro @opV_fn0 @opV_func)))) (And.intro (And.intro (And.intro @outP_some (And.intro @put_same @put_get)) (And.intro @hget_same (And.intro @hget_other @rowL_hset_same))) (And.intro (And.intro @rowL_hset_other (And.intro @splice_z @splice_c)) (And.intro @splice_s (And.intro @splice_n @beq_same))))) (And.intro (And.intro (And.intro (And.intro @o_len (And.intro @part1_one @part1_agg)) (And.intro @bin_add (And.intro @bin_sub @bin_mul))) (And.intro (And.intro @bin_eql (And.intro @bin_neq @bin_lss)) (And.intro @bin_leq (And.intro @bin_gtr @bin_geq)))) (And.intro (And.intro (And.intro @wrap_small64 (And.intro @unV_not @idx_nat)) (And.intro @idx_int (And.intro @Int.toNat_natCast @shut_nil))) (And.intro (And.intro @tup_one (And.intro @tup_two @tup_three)) (And.intro Nat.zero_add (And.intro Nat.add_zero @Bool.not_true))))))) (And.intro (And.intro (And.intro (And.intro (And.intro (And.intro @Bool.not_false (And.intro @decide_true @decide_false)) (And.intro @Bool.and_true (And.intro @Bool.true_and @Bool.and_false))) (And.intro (And.intro @Bool.false_and (And.intro cancel_iff @k_nor)) (And.intro @k_ret (And.intro @k_exi @s_cond)))) (And.intro (And.intro (And.intro @c_true (And.intro @c_false @s_block)) (And.intro @bk_nor (And.intro @bk_ret @bk_exi))) (And.intro (And.intro @ko_st (And.intro @g_tt @g_ff)) (And.intro @g_tf (And.intro @g_ft @done_ret))))) (And.intro (And.intro (And.intro (And.intro @done_nor (And.intro @o_build @o_buildSlice)) (And.intro @buildO_some (And.intro @buildSO_some @fill_nil))) (And.intro (And.intro @limR0 (And.intro @limR1 @limR2)) (And.intro @limR3 (And.intro @limR4 @limR5)))) (And.intro (And.intro (And.intro @limR6 (And.intro @limR7 @limR8)) (And.intro @limR9 (And.intro @limR10 @g0V))) (And.intro (And.intro @log_own2 (And.intro @bin_quo @bin_rem)) (And.intro @pA2 (And.intro @pA4 @pA7)))))) (And.intro (And.intro (And.intro (And.intro (And.intro @pA14 (And.intro @pAs @o_makeSlice)) (And.intro @o_append (And.intro @o_slice3 @boxO.eq_1))) (And.intro (And.intro @boxO.eq_2 (And.intro @cellsL.eq_1 @cel_int)) (And.intro @cel_bool (And.intro @cel_sl @cel_ptr)))) (And.intro (And.intro (And.intro @cel_str (And.intro @cel_map @cel_nf)) (And.intro @cel_fn (And.intro @loadO.eq_1 @addrO.eq_1))) (And.intro (And.intro @opVs.eq_1 (And.intro @opVs.eq_2 @loadAt.eq_1)) (And.intro @lenO.eq_1 (And.intro @lenO.eq_3 @lenO.eq_7))))) (And.intro (And.intro (And.intro (And.intro @lenO.eq_8 (And.intro @resVs.eq_1 @resVs.eq_2)) (And.intro @resO.eq_1 (And.intro @resO.eq_2 @if_true.{1}))) (And.intro (And.intro @if_false.{1} (And.intro @cond_true.{1} @cond_false.{1})) (And.intro @beq_self_eq_true.{0} (And.intro @List.getElem?_cons_zero.{0} @List.getElem?_cons_succ.{0})))) (And.intro (And.intro (And.intro @List.drop_zero.{0} (And.intro @List.drop_succ_cons.{0} @List.take_succ_cons.{0})) (And.intro @List.take_zero.{0} (And.intro @List.length_cons.{0} @List.length_nil.{0}))) (And.intro (And.intro @List.toList_toArray.{0} (And.intro @List.getElem?_toArray.{0} @List.zip_cons_cons.{0, 0})) (And.intro @List.zip_nil_left.{0, 0} (And.intro @List.map_cons.{0, 0} @List.map_nil.{0, 0})))))))) := (And.intro (And.intro (And.intro (And.intro (And.intro (And.intro (And.intro @enum_cons @enum_nil) (And.intro @s_seq (And.intro @s_reg @s_regQ))) (And.intro (And.intro @or_st (And.intro @q_nil @q_plain)) (And.intro @q_guard (And.intro @gq_tt @gq_ff)))) (And.intro (And.intro (And.intro @gq_tf (And.intro @gq_ft @cq_pur)) (And.intro @cq_rd (And.intro @cq_new @cq_gen))) (And.intro (And.intro @cq_wr (And.intro @s_skip @s_ret)) (And.intro @s_exit (And.intro @p_cons @p_nil))))) (And.intro (And.intro (And.intro (And.intro @one_plain (And.intro @one_guard @out_pur)) (And.intro @out_rd (And.intro @out_new @out_wr))) (And.intro (And.intro @out_gen (And.intro @log_nil @log_own)) (And.intro @ro_st (And.intro @o_move @o_assign)))) (And.intro (And.intro (And.intro @o_pick (And.intro @pickV_eq @o_alloc)) (And.intro @o_box (And.intro @o_load @rdO_some))) (And.intro (And.intro @o_store (And.intro @o_bin @o_un)) (And.intro @o_extract (And.intro @o_fieldAddr @o_field)))))) (And.intro (And.intro (And.intro (And.intro (And.intro @o_indexAddr (And.intro @o_call @o_nil)) (And.intro @o_makeFunc (And.intro @opV_t @opV_int))) (And.intro (And.intro @opV_bool (And.intro @opV_str @opV_nil)) (And.intro @opV_map0 (And.intro @opV_fn0 @opV_func)))) (And.intro (And.intro (And.intro @outP_some (And.intro @put_same @put_get)) (And.intro @hget_same (And.intro @hget_other @rowL_hset_same))) (And.intro (And.intro @rowL_hset_other (And.intro @splice_z @splice_c)) (And.intro @splice_s (And.intro @splice_n @beq_same))))) (And.intro (And.intro (And.intro (And.intro @o_len (And.intro @part1_one @part1_agg)) (And.intro @bin_add (And.intro @bin_sub @bin_mul))) (And.intro (And.intro @bin_eql (And.intro @bin_neq @bin_lss)) (And.intro @bin_leq (And.intro @bin_gtr @bin_geq)))) (And.intro (And.intro (And.intro @wrap_small64 (And.intro @unV_not @idx_nat)) (And.intro @idx_int (And.intro @Int.toNat_natCast @shut_nil))) (And.intro (And.intro @tup_one (And.intro @tup_two @tup_three)) (And.intro Nat.zero_add (And.intro Nat.add_zero @Bool.not_true))))))) (And.intro (And.intro (And.intro (And.intro (And.intro (And.intro @Bool.not_false (And.intro @decide_true @decide_false)) (And.intro @Bool.and_true (And.intro @Bool.true_and @Bool.and_false))) (And.intro (And.intro @Bool.false_and (And.intro cancel_iff @k_nor)) (And.intro @k_ret (And.intro @k_exi @s_cond)))) (And.intro (And.intro (And.intro @c_true (And.intro @c_false @s_block)) (And.intro @bk_nor (And.intro @bk_ret @bk_exi))) (And.intro (And.intro @ko_st (And.intro @g_tt @g_ff)) (And.intro @g_tf (And.intro @g_ft @done_ret))))) (And.intro (And.intro (And.intro (And.intro @done_nor (And.intro @o_build @o_buildSlice)) (And.intro @buildO_some (And.intro @buildSO_some @fill_nil))) (And.intro (And.intro @limR0 (And.intro @limR1 @limR2)) (And.intro @limR3 (And.intro @limR4 @limR5)))) (And.intro (And.intro (And.intro @limR6 (And.intro @limR7 @limR8)) (And.intro @limR9 (And.intro @limR10 @g0V))) (And.intro (And.intro @log_own2 (And.intro @bin_quo @bin_rem)) (And.intro @pA2 (And.intro @pA4 @pA7)))))) (And.intro (And.intro (And.intro (And.intro (And.intro @pA14 (And.intro @pAs @o_makeSlice)) (And.intro @o_append (And.intro @o_slice3 @boxO.eq_1))) (And.intro (And.intro @boxO.eq_2 (And.intro @cellsL.eq_1 @cel_int)) (And.intro @cel_bool (And.intro @cel_sl @cel_ptr)))) (And.intro (And.intro (And.intro @cel_str (And.intro @cel_map @cel_nf)) (And.intro @cel_fn (And.intro @loadO.eq_1 @addrO.eq_1))) (And.intro (And.intro @opVs.eq_1 (And.intro @opVs.eq_2 @loadAt.eq_1)) (And.intro @lenO.eq_1 (And.intro @lenO.eq_3 @lenO.eq_7))))) (And.intro (And.intro (And.intro (And.intro @lenO.eq_8 (And.intro @resVs.eq_1 @resVs.eq_2)) (And.intro @resO.eq_1 (And.intro @resO.eq_2 @if_true.{1}))) (And.intro (And.intro @if_false.{1} (And.intro @cond_true.{1} @cond_false.{1})) (And.intro @beq_self_eq_true.{0} (And.intro @List.getElem?_cons_zero.{0} @List.getElem?_cons_succ.{0})))) (And.intro (And.intro (And.intro @List.drop_zero.{0} (And.intro @List.drop_succ_cons.{0} @List.take_succ_cons.{0})) (And.intro @List.take_zero.{0} (And.intro @List.length_cons.{0} @List.length_nil.{0}))) (And.intro (And.intro @List.toList_toArray.{0} (And.intro @List.getElem?_toArray.{0} @List.zip_cons_cons.{0, 0})) (And.intro @List.zip_nil_left.{0, 0} (And.intro @List.map_cons.{0, 0} @List.map_nil.{0, 0}))))))))
theorem bf : type_of% (And.intro (And.intro (And.intro (And.intro (And.intro (And.intro (And.intro elemF_105 elemF_113) (And.intro elemF_119 (And.intro elemF_120 elemF_122))) (And.intro (And.intro elemF_124 elemF_136) (And.intro elemF_147 (And.intro elemF_149 elemF_22)))) (And.intro (And.intro (And.intro elemF_23 elemF_24) (And.intro elemF_40 (And.intro elemF_62 elemF_67))) (And.intro (And.intro fieldF_108_0 (And.intro fieldF_108_1 hb_104)) (And.intro hb_106 (And.intro hb_108 hb_110))))) (And.intro (And.intro (And.intro (And.intro hb_120 hb_126) (And.intro hb_127 (And.intro hb_134 hb_137))) (And.intro (And.intro hb_138 (And.intro hb_145 hb_146)) (And.intro hb_147 (And.intro hb_148 hb_149)))) (And.intro (And.intro (And.intro hb_15 hb_150) (And.intro hb_152 (And.intro hb_153 hb_22))) (And.intro (And.intro hb_30 (And.intro hb_34 hb_35)) (And.intro hb_40 (And.intro hb_46 hb_47)))))) (And.intro (And.intro (And.intro (And.intro (And.intro hb_48 hb_49) (And.intro hb_52 (And.intro hb_73 hb_80))) (And.intro (And.intro hb_81 hb_85) (And.intro hb_89 (And.intro hb_97 hb_98)))) (And.intro (And.intro (And.intro lenK_113 lenK_122) (And.intro lenK_136 (And.intro lenK_147 lenK_22))) (And.intro (And.intro lenK_23 (And.intro lenK_24 lenK_40)) (And.intro offF_100_0 (And.intro offF_100_1 offF_100_2))))) (And.intro (And.intro (And.intro (And.intro offF_104_0 offF_104_1) (And.intro offF_108_0 (And.intro offF_108_1 offF_108_2))) (And.intro (And.intro offF_112_0 (And.intro offF_112_1 offF_126_0)) (And.intro offF_126_1 (And.intro offF_132_0 offF_132_1)))) (And.intro (And.intro (And.intro offF_132_2 offF_26_0) (And.intro offF_26_1 (And.intro offF_26_2 offF_26_3))) (And.intro (And.intro offF_26_4 (And.intro offF_26_5 offF_26_6)) (And.intro offF_28_0 (And.intro offF_28_1 offF_71_0))))))) (And.intro (And.intro (And.intro (And.intro (And.intro (And.intro offF_71_1 offF_71_2) (And.intro offF_71_3 (And.intro offF_77_0 offF_79_0))) (And.intro (And.intro offF_79_1 offF_84_0) (And.intro offF_84_1 (And.intro offF_89_0 offF_89_1)))) (And.intro (And.intro (And.intro offF_89_2 offF_89_3) (And.intro tyS_100 (And.intro tyS_104 tyS_108))) (And.intro (And.intro tyS_112 (And.intro tyS_124 tyS_126)) (And.intro tyS_128 (And.intro tyS_132 tyS_134))))) (And.intro (And.intro (And.intro (And.intro tyS_143 tyS_149) (And.intro tyS_161 (And.intro tyS_164 tyS_165))) (And.intro (And.intro tyS_172 (And.intro tyS_22 tyS_23)) (And.intro tyS_24 (And.intro tyS_26 tyS_28)))) (And.intro (And.intro (And.intro tyS_3 tyS_37) (And.intro tyS_38 (And.intro tyS_4 tyS_71))) (And.intro (And.intro tyS_77 (And.intro tyS_79 tyS_81)) (And.intro tyS_82 (And.intro tyS_84 tyS_89)))))) (And.intro (And.intro (And.intro (And.intro (And.intro tyS_97 tyS_98) (And.intro tyZ_100 (And.intro tyZ_104 tyZ_108))) (And.intro (And.intro tyZ_112 tyZ_119) (And.intro tyZ_120 (And.intro tyZ_124 tyZ_126)))) (And.intro (And.intro (And.intro tyZ_132 tyZ_143) (And.intro tyZ_149 (And.intro tyZ_172 tyZ_24))) (And.intro (And.intro tyZ_26 (And.intro tyZ_28 tyZ_3)) (And.intro tyZ_37 (And.intro tyZ_71 tyZ_77))))) (And.intro (And.intro (And.intro (And.intro tyZ_79 tyZ_84) (And.intro tyZ_89 (And.intro plS_24_1_0 plB_77_0))) (And.intro (And.intro plB_79_0_1 (And.intro plS_122_1_0 plS_122_2_0_1)) (And.intro plB_28_0_1 (And.intro plB_84_ plB_132_0_1_2)))) (And.intro (And.intro (And.intro plB_126_0_1 plB_124_) (And.intro plB_84_0_1 (And.intro plS_136_3_0_1_2 plB_104_0_1))) (And.intro (And.intro plS_22_1_0 (And.intro lok16 lok23)) (And.intro lok29 (And.intro zeroE_22 appF_22)))))))) := (And.intro (And.intro (And.intro (And.intro (And.intro (And.intro (And.intro elemF_105 elemF_113) (And.intro elemF_119 (And.intro elemF_120 elemF_122))) (And.intro (And.intro elemF_124 elemF_136) (And.intro elemF_147 (And.intro elemF_149 elemF_22)))) (And.intro (And.intro (And.intro elemF_23 elemF_24) (And.intro elemF_40 (And.intro elemF_62 elemF_67))) (And.intro (And.intro fieldF_108_0 (And.intro fieldF_108_1 hb_104)) (And.intro hb_106 (And.intro hb_108 hb_110))))) (And.intro (And.intro (And.intro (And.intro hb_120 hb_126) (And.intro hb_127 (And.intro hb_134 hb_137))) (And.intro (And.intro hb_138 (And.intro hb_145 hb_146)) (And.intro hb_147 (And.intro hb_148 hb_149)))) (And.intro (And.intro (And.intro hb_15 hb_150) (And.intro hb_152 (And.intro hb_153 hb_22))) (And.intro (And.intro hb_30 (And.intro hb_34 hb_35)) (And.intro hb_40 (And.intro hb_46 hb_47)))))) (And.intro (And.intro (And.intro (And.intro (And.intro hb_48 hb_49) (And.intro hb_52 (And.intro hb_73 hb_80))) (And.intro (And.intro hb_81 hb_85) (And.intro hb_89 (And.intro hb_97 hb_98)))) (And.intro (And.intro (And.intro lenK_113 lenK_122) (And.intro lenK_136 (And.intro lenK_147 lenK_22))) (And.intro (And.intro lenK_23 (And.intro lenK_24 lenK_40)) (And.intro offF_100_0 (And.intro offF_100_1 offF_100_2))))) (And.intro (And.intro (And.intro (And.intro offF_104_0 offF_104_1) (And.intro offF_108_0 (And.intro offF_108_1 offF_108_2))) (And.intro (And.intro offF_112_0 (And.intro offF_112_1 offF_126_0)) (And.intro offF_126_1 (And.intro offF_132_0 offF_132_1)))) (And.intro (And.intro (And.intro offF_132_2 offF_26_0) (And.intro offF_26_1 (And.intro offF_26_2 offF_26_3))) (And.intro (And.intro offF_26_4 (And.intro offF_26_5 offF_26_6)) (And.intro offF_28_0 (And.intro offF_28_1 offF_71_0))))))) (And.intro (And.intro (And.intro (And.intro (And.intro (And.intro offF_71_1 offF_71_2) (And.intro offF_71_3 (And.intro offF_77_0 offF_79_0))) (And.intro (And.intro offF_79_1 offF_84_0) (And.intro offF_84_1 (And.intro offF_89_0 offF_89_1)))) (And.intro (And.intro (And.intro offF_89_2 offF_89_3) (And.intro tyS_100 (And.intro tyS_104 tyS_108))) (And.intro (And.intro tyS_112 (And.intro tyS_124 tyS_126)) (And.intro tyS_128 (And.intro tyS_132 tyS_134))))) (And.intro (And.intro (And.intro (And.intro tyS_143 tyS_149) (And.intro tyS_161 (And.intro tyS_164 tyS_165))) (And.intro (And.intro tyS_172 (And.intro tyS_22 tyS_23)) (And.intro tyS_24 (And.intro tyS_26 tyS_28)))) (And.intro (And.intro (And.intro tyS_3 tyS_37) (And.intro tyS_38 (And.intro tyS_4 tyS_71))) (And.intro (And.intro tyS_77 (And.intro tyS_79 tyS_81)) (And.intro tyS_82 (And.intro tyS_84 tyS_89)))))) (And.intro (And.intro (And.intro (And.intro (And.intro tyS_97 tyS_98) (And.intro tyZ_100 (And.intro tyZ_104 tyZ_108))) (And.intro (And.intro tyZ_112 tyZ_119) (And.intro tyZ_120 (And.intro tyZ_124 tyZ_126)))) (And.intro (And.intro (And.intro tyZ_132 tyZ_143) (And.intro tyZ_149 (And.intro tyZ_172 tyZ_24))) (And.intro (And.intro tyZ_26 (And.intro tyZ_28 tyZ_3)) (And.intro tyZ_37 (And.intro tyZ_71 tyZ_77))))) (And.intro (And.intro (And.intro (And.intro tyZ_79 tyZ_84) (And.intro tyZ_89 (And.intro plS_24_1_0 plB_77_0))) (And.intro (And.intro plB_79_0_1 (And.intro plS_122_1_0 plS_122_2_0_1)) (And.intro plB_28_0_1 (And.intro plB_84_ plB_132_0_1_2)))) (And.intro (And.intro (And.intro plB_126_0_1 plB_124_) (And.intro plB_84_0_1 (And.intro plS_136_3_0_1_2 plB_104_0_1))) (And.intro (And.intro plS_22_1_0 (And.intro lok16 lok23)) (And.intro lok29 (And.intro zeroE_22 appF_22))))))))
theorem bl : type_of% (And.intro bq bf) := (And.intro bq bf)
theorem bm : type_of% (And.intro bl @fill_cons) := (And.intro bl @fill_cons)
theorem bz : type_of% (And.intro bm (And.intro @storeAt_eq @storeO.eq_1)) := (And.intro bm (And.intro @storeAt_eq @storeO.eq_1))
theorem pg : type_of% (And.intro @put_get (And.intro (And.intro @decide_true @decide_false) (And.intro @cond_true.{1} @cond_false.{1}))) := (And.intro @put_get (And.intro (And.intro @decide_true @decide_false) (And.intro @cond_true.{1} @cond_false.{1})))
theorem pq : type_of% (And.intro pg @put_none) := (And.intro pg @put_none)
def inB (lo hi x : Int) : Bool := decide (lo ≤ x) && decide (x ≤ hi)
section
variable {S : Kn} (hS : S.Only [22]) {m : Nat} {h : Hp} {nx : Nat}
include hS
theorem c85 (hm : 1 ≤ m) (lo hi x : Int) : callF 85 [.agg #[vi lo, vi hi], vi x] (execL Tryz.prog vmL S m) h nx = .gen (.bool (inB lo hi x)) h nx [] := by
  refine fun85.ground (hS _ _ _ _ (by decide)) hm rfl (by simp) ?_
  unfold inB
  by_cases h1 : lo ≤ x <;> by_cases h2 : x ≤ hi <;> simp (maxSteps := 10000000) (disch := omega) only [s85, h1, h2, bz, put_none, Nat.reduceEqDiff, Nat.reduceLT, Nat.reduceAdd, Nat.reduceMul, Int.reduceToNat] <;> exact ⟨_, _, rfl⟩
theorem c40 (hm : 1 ≤ m) (x lo hi : Int) : callF 40 [vi x, vi lo, vi hi] (execL Tryz.prog vmL S m) h nx = .gen (.bool (inB lo hi x)) h nx [] := by
  refine fun40.ground (hS _ _ _ _ (by decide)) hm rfl (by simp) ?_
  unfold inB
  by_cases h1 : lo ≤ x <;> by_cases h2 : x ≤ hi <;> simp (maxSteps := 10000000) (disch := omega) only [s40, h1, h2, bz, put_none, Nat.reduceEqDiff, Nat.reduceLT, Nat.reduceAdd, Nat.reduceMul, Int.reduceToNat] <;> exact ⟨_, _, rfl⟩
theorem c109 (hm : 2 ≤ m) (hn : 1 ≤ nx) (hl : rowL h 0 = some limL) (x : Int) : callF 109 [vi x] (execL Tryz.prog vmL S m) h nx = .gen (.bool (inB 1 1000 x)) h nx [] := by
  refine fun109.ground (hS _ _ _ _ (by decide)) (by omega) rfl (by simp) ?_
  have k85 := fun (h : Hp) (nx : Nat) (lo hi x : Int) => c85 hS (m := m - 1) (h := h) (nx := nx) (by omega) lo hi x
  simp (maxSteps := 10000000) (disch := omega) only [s109, k85, hl, bz, put_none, Nat.reduceEqDiff, Nat.reduceLT, Nat.reduceAdd, Nat.reduceMul, Int.reduceToNat]
  exact ⟨_, _, rfl⟩
theorem c105 (hm : 2 ≤ m) (hn : 1 ≤ nx) (hl : rowL h 0 = some limL) (size weight worth : Int) (alone : Bool) : callF 105 [.agg #[vi size, vi weight, vi worth, .bool alone]] (execL Tryz.prog vmL S m) h nx = .gen (.bool (inB 1 500 size && (inB 1 5000 weight && inB 0 10000 worth))) h nx [] := by
  refine fun105.ground (hS _ _ _ _ (by decide)) (by omega) rfl (by simp) ?_
  have k85 := fun (h : Hp) (nx : Nat) (lo hi x : Int) => c85 hS (m := m - 1) (h := h) (nx := nx) (by omega) lo hi x
  rcases Bool.eq_false_or_eq_true (inB 1 500 size) with h1 | h1 <;> rcases Bool.eq_false_or_eq_true (inB 1 5000 weight) with h2 | h2 <;> rcases Bool.eq_false_or_eq_true (inB 0 10000 worth) with h3 | h3 <;> simp (maxSteps := 10000000) (disch := omega) only [s105, k85, hl, h1, h2, h3, bz, put_none, Nat.reduceEqDiff, Nat.reduceLT, Nat.reduceAdd, Nat.reduceMul, Int.reduceToNat] <;> exact ⟨_, _, rfl⟩
theorem c137 (hm : 1 ≤ m) (n : Int) : callF 137 [vi n] (execL Tryz.prog vmL S m) h nx = .gen (.agg #[vi n, vi n]) h nx [] := by
  refine fun137.ground (hS _ _ _ _ (by decide)) (by omega) rfl (by simp) ?_
  simp (maxSteps := 10000000) (disch := omega) only [s137, bz, put_none, Nat.reduceEqDiff, Nat.reduceLT, Nat.reduceAdd, Nat.reduceMul, Int.reduceToNat]
  exact ⟨_, _, rfl⟩
end
open Go Go.Proofs Go.Lm
set_option maxRecDepth 10000
set_option maxHeartbeats 8000000
theorem o_callT {P : Program} {nv : Nat} {ih : Rec} {vs : Vs} {h : Hp} {nx : Nat} (t : Nat) (args : Array Operand) (ts : Array TypeId) : rOp P nv ih (.call { callee := .value (.tmp t), args := args, argTypes := ts }) vs h nx =
    match opV nv (.tmp t) vs, opVs nv vs args.toList with
    | some (.func (.func f) xs ys), some us => callF f (xs.toList ++ us ++ ys.toList) ih h nx
    | some (.func (.yield l) xs ys), some us => bif xs.isEmpty && ys.isEmpty then yieldV l us ih h nx else .bad
    | _, _ => .bad := o_callV (.tmp t) (fun f hf => by cases hf) args ts
theorem part1_row {cs row : List Value} {o n : Nat} (ho : o + n ≤ cs.length) (hs : (cs.drop o).take n = row) : part1 true n cs o = some (.agg row.toArray) := by rw [part1_agg _ _ _ ho, hs]
theorem part1_el {cs row : List Value} {o : Nat} {x : Value} (hs : (cs.drop o).take 1 = [x]) : part1 false 1 cs o = some x := by
  rw [part1_one]
  cases hd : cs.drop o with
  | nil => rw [hd] at hs; cases hs
  | cons y l =>
    rw [hd] at hs
    simp at hs
    have := List.getElem?_drop (xs := cs) (i := o) (j := 0)
    rw [hd] at this
    simp at this
    rw [← this, hs]
theorem part1_el1 {cs row : List Value} {o : Nat} (hl : row.length = 1) (hs : (cs.drop o).take 1 = row) : part1 false 1 cs o = some (row.headD .nilFunc) := by
  cases row with
  | nil => cases hl
  | cons x l =>
    have : l = [] := by cases l with | nil => rfl | cons _ _ => simp at hl
    subst this
    exact part1_el (row := [x]) hs
theorem loop149 {ih : Rec} {rows : List (List Value)} {z : Z} {vs : Vs} {h : Hp} {nx fc : Nat} {xs ys : List Value} {v : Value} {p : List Value → Bool} (hl : rows.length ≤ 140737488355328) (hv : Lst h nx 4 v rows)
    (hp : ∀ row, row ∈ rows → callF fc (xs ++ [.agg row.toArray] ++ ys) ih h nx = .gen (.bool (p row)) h nx [])
    (g0 : vs 0 = some v) (g1 : vs 1 = some (.func (.func fc) xs.toArray ys.toArray)) (g7 : vs 7 = some (vi rows.length)) (g8 : vs 8 = some (vi 0)) {r : R} (hr : loopR (sC Tryz.prog 19 19 ih l149_0) z vs h nx = r) :
    (∃ i vs', rows.findIdx? p = some i ∧ r = .ret z vs' h nx ∧ vs' 4 = some (vi (i : Int))) ∨ (rows.findIdx? p = none ∧ ∃ vs', r = .exi 0 z vs' h nx) := by
  subst hr
  refine loop_rule (Post := fun r => (∃ i vs', rows.findIdx? p = some i ∧ r = .ret z vs' h nx ∧ vs' 4 = some (vi (i : Int))) ∨ (rows.findIdx? p = none ∧ ∃ vs', r = .exi 0 z vs' h nx))
    (fun i z' vs' h' nx' => i ≤ rows.length ∧ z' = z ∧ h' = h ∧ nx' = nx ∧ vs' 0 = some v ∧ vs' 1 = some (.func (.func fc) xs.toArray ys.toArray) ∧ vs' 7 = some (vi rows.length) ∧ vs' 8 = some (vi (i : Int)) ∧ ∀ j row, j < i → rows[j]? = some row → p row = false) rows.length (by omega)
    ⟨Nat.zero_le _, rfl, rfl, rfl, g0, g1, g7, g8, fun j row hj => by omega⟩ ?_
  rintro i z' vs' h' nx' ⟨hi, rfl, rfl, rfl, e0, e1, e7, e8, ef⟩
  obtain ⟨a, c, rfl, _⟩ := hv.form
  by_cases hlt : i < rows.length
  · obtain ⟨_, rr, o, row, cs, rfl, hrn, hrow, hrl, hcs, ho, hseg⟩ := hv.load (i := i) hlt
    have h1 : ((i : Int) < (rows.length : Int)) := by omega
    have hmem := List.mem_of_getElem? hrow
    have hc := hp row hmem
    have hel : part1 true 4 cs (o + i * 4) = some (.agg row.toArray) := part1_row (by omega) hseg
    rcases Bool.eq_false_or_eq_true (p row) with hb | hb
    · right
      rw [hb] at hc
      have e : ∃ vs2, sC Tryz.prog 19 19 ih l149_0 z' vs' h' nx' = .ret z' vs2 h' nx' ∧ vs2 4 = some (vi (i : Int)) := by
        refine ⟨_, by simp (maxSteps := 10000000) (disch := omega) only [l149_0, e0, e1, e7, e8, hcs, hel, h1, hc, o_callT, bz, put_none, Nat.reduceEqDiff, Nat.reduceLT, Nat.reduceAdd, Nat.reduceMul, Int.reduceToNat]; exact rfl, ?_⟩
        simp only [pg, Nat.reduceEqDiff]
      obtain ⟨vs2, e, e4⟩ := e
      rw [e]
      refine ⟨trivial, .inl ⟨i, vs2, ?_, rfl, e4⟩⟩
      rw [List.findIdx?_eq_some_iff_getElem]
      refine ⟨hlt, ?_, fun j hj => ?_⟩
      · have : rows[i] = row := by have := List.getElem?_eq_getElem hlt; rw [this] at hrow; exact Option.some.inj hrow
        rw [this]; exact hb
      · have := ef j _ hj (List.getElem?_eq_getElem (by omega))
        simp [this]
    · left
      rw [hb] at hc
      refine ⟨hlt, z', _, h', nx', (by simp (maxSteps := 10000000) (disch := omega) only [l149_0, e0, e1, e7, e8, hcs, hel, h1, hc, o_callT, bz, put_none, Nat.reduceEqDiff, Nat.reduceLT, Nat.reduceAdd, Nat.reduceMul, Int.reduceToNat]; exact rfl), by omega, rfl, rfl, rfl, ?_, ?_, ?_, ?_, fun j row' hj hr' => ?_⟩
      · simp only [pg, Nat.reduceEqDiff, e0]
      · simp only [pg, Nat.reduceEqDiff, e1]
      · simp only [pg, Nat.reduceEqDiff, e7]
      · simp only [pg, Nat.reduceEqDiff]; rfl
      · by_cases hji : j = i
        · subst hji; rw [hr'] at hrow; cases hrow; exact hb
        · exact ef j row' (by omega) hr'
  · right
    have h1 : ¬ ((i : Int) < (rows.length : Int)) := by omega
    have e : ∃ vs2, sC Tryz.prog 19 19 ih l149_0 z' vs' h' nx' = .exi 0 z' vs2 h' nx' := ⟨_, by simp (maxSteps := 10000000) (disch := omega) only [l149_0, e0, e1, e7, e8, h1, bz, put_none, Nat.reduceEqDiff, Nat.reduceLT, Nat.reduceAdd, Nat.reduceMul, Int.reduceToNat]; exact rfl⟩
    obtain ⟨vs2, e⟩ := e
    rw [e]
    refine ⟨trivial, .inr ⟨?_, vs2, rfl⟩⟩
    rw [List.findIdx?_eq_none_iff]
    intro row hr
    obtain ⟨j, hj, hjr⟩ := List.getElem_of_mem hr
    exact ef j row (by omega) (by rw [← hjr]; exact List.getElem?_eq_getElem hj)
theorem c149 {S : Kn} (hS : S.Only [22]) {m : Nat} (hm : 1 ≤ m) {rows : List (List Value)} {h : Hp} {nx fc : Nat} {xs ys : List Value} {v : Value} {p : List Value → Bool} (hl : rows.length ≤ 140737488355328) (hv : Lst h nx 4 v rows)
    (hp : ∀ row, row ∈ rows → callF fc (xs ++ [.agg row.toArray] ++ ys) (execL Tryz.prog vmL S (m - 1)) h nx = .gen (.bool (p row)) h nx []) :
    callF 149 [v, .func (.func fc) xs.toArray ys.toArray] (execL Tryz.prog vmL S m) h nx = .gen (vi (match rows.findIdx? p with | some i => (i : Int) | none => -1)) h nx [] := by
  refine fun149.ground (hS _ _ _ _ (by decide)) (by omega) (by split <;> rfl) (by simp) ?_
  obtain ⟨a, c, rfl, _⟩ := hv.form
  simp (maxSteps := 10000000) (disch := omega) only [s149, s_loop, bz, put_none, Nat.reduceEqDiff, Nat.reduceLT, Nat.reduceAdd, Nat.reduceMul, Int.reduceToNat]
  generalize hr : loopR _ _ _ _ _ = r
  rcases loop149 (p := p) (xs := xs) (ys := ys) hl hv hp rfl rfl rfl rfl hr with ⟨i, vs', hf, rfl, e4⟩ | ⟨hf, vs', rfl⟩
  · rw [hf]
    exact ⟨_, _, by simp (maxSteps := 10000000) (disch := omega) only [e4, bz, put_none, Nat.reduceEqDiff, Nat.reduceLT, Nat.reduceAdd, Nat.reduceMul, Int.reduceToNat]; rfl⟩
  · rw [hf]
    exact ⟨_, _, by simp (maxSteps := 10000000) (disch := omega) only [bz, put_none, Nat.reduceEqDiff, Nat.reduceLT, Nat.reduceAdd, Nat.reduceMul, Int.reduceToNat]; rfl⟩
theorem c134 {S : Kn} (hS : S.Only [22]) {m : Nat} (hm : 2 ≤ m) {rows : List (List Value)} {h : Hp} {nx fc : Nat} {xs ys : List Value} {v : Value} {p : List Value → Bool} (hl : rows.length ≤ 140737488355328) (hv : Lst h nx 4 v rows)
    (hp : ∀ row, row ∈ rows → callF fc (xs ++ [.agg row.toArray] ++ ys) (execL Tryz.prog vmL S (m - 2)) h nx = .gen (.bool (p row)) h nx []) :
    callF 134 [v, .func (.func fc) xs.toArray ys.toArray] (execL Tryz.prog vmL S m) h nx = .gen (.bool (rows.any p)) h nx [] := by
  refine fun134.ground (hS _ _ _ _ (by decide)) (by omega) rfl (by simp) ?_
  have k := c149 hS (m := m - 1) (by omega) hl hv (p := p) (xs := xs) (ys := ys) (fc := fc) (by rw [Nat.sub_sub]; exact hp)
  have ha : rows.any p = (rows.findIdx? p).isSome := by rw [List.findIdx?_isSome]
  rw [ha]
  cases hf : rows.findIdx? p with
  | none =>
    rw [hf] at k
    simp (maxSteps := 10000000) (disch := omega) only [s134, k, bz, put_none, Nat.reduceEqDiff, Nat.reduceLT, Nat.reduceAdd, Nat.reduceMul, Int.reduceToNat]
    exact ⟨_, _, rfl⟩
  | some i =>
    rw [hf] at k
    have h1 : (0 : Int) ≤ (i : Int) := by omega
    simp (maxSteps := 10000000) (disch := omega) only [s134, k, h1, bz, put_none, Nat.reduceEqDiff, Nat.reduceLT, Nat.reduceAdd, Nat.reduceMul, Int.reduceToNat]
    exact ⟨_, _, rfl⟩
theorem loop120 {ih : Rec} {rows : List (List Value)} {z : Z} {vs : Vs} {h : Hp} {nx fc : Nat} {xs ys : List Value} {v : Value} {p : List Value → Bool} (hl : rows.length ≤ 140737488355328) (hv : Lst h nx 4 v rows)
    (hp : ∀ row, row ∈ rows → callF fc (xs ++ [.agg row.toArray] ++ ys) ih h nx = .gen (.bool (p row)) h nx [])
    (g0 : vs 0 = some v) (g1 : vs 1 = some (.func (.func fc) xs.toArray ys.toArray)) (g7 : vs 7 = some (vi rows.length)) (g8 : vs 8 = some (vi 0)) {r : R} (hr : loopR (sC Tryz.prog 19 19 ih l120_0) z vs h nx = r) :
    (∃ i vs', rows.findIdx? p = some i ∧ r = .ret z vs' h nx ∧ vs' 4 = some (vi (i : Int))) ∨ (rows.findIdx? p = none ∧ ∃ vs', r = .exi 0 z vs' h nx) := by
  subst hr
  refine loop_rule (Post := fun r => (∃ i vs', rows.findIdx? p = some i ∧ r = .ret z vs' h nx ∧ vs' 4 = some (vi (i : Int))) ∨ (rows.findIdx? p = none ∧ ∃ vs', r = .exi 0 z vs' h nx))
    (fun i z' vs' h' nx' => i ≤ rows.length ∧ z' = z ∧ h' = h ∧ nx' = nx ∧ vs' 0 = some v ∧ vs' 1 = some (.func (.func fc) xs.toArray ys.toArray) ∧ vs' 7 = some (vi rows.length) ∧ vs' 8 = some (vi (i : Int)) ∧ ∀ j row, j < i → rows[j]? = some row → p row = false) rows.length (by omega)
    ⟨Nat.zero_le _, rfl, rfl, rfl, g0, g1, g7, g8, fun j row hj => by omega⟩ ?_
  rintro i z' vs' h' nx' ⟨hi, rfl, rfl, rfl, e0, e1, e7, e8, ef⟩
  obtain ⟨a, c, rfl, _⟩ := hv.form
  by_cases hlt : i < rows.length
  · obtain ⟨_, rr, o, row, cs, rfl, hrn, hrow, hrl, hcs, ho, hseg⟩ := hv.load (i := i) hlt
    have h1 : ((i : Int) < (rows.length : Int)) := by omega
    have hmem := List.mem_of_getElem? hrow
    have hc := hp row hmem
    have hel : part1 true 4 cs (o + i * 4) = some (.agg row.toArray) := part1_row (by omega) hseg
    rcases Bool.eq_false_or_eq_true (p row) with hb | hb
    · right
      rw [hb] at hc
      have e : ∃ vs2, sC Tryz.prog 19 19 ih l120_0 z' vs' h' nx' = .ret z' vs2 h' nx' ∧ vs2 4 = some (vi (i : Int)) := by
        refine ⟨_, by simp (maxSteps := 10000000) (disch := omega) only [l120_0, e0, e1, e7, e8, hcs, hel, h1, hc, o_callT, bz, put_none, Nat.reduceEqDiff, Nat.reduceLT, Nat.reduceAdd, Nat.reduceMul, Int.reduceToNat]; exact rfl, ?_⟩
        simp only [pg, Nat.reduceEqDiff]
      obtain ⟨vs2, e, e4⟩ := e
      rw [e]
      refine ⟨trivial, .inl ⟨i, vs2, ?_, rfl, e4⟩⟩
      rw [List.findIdx?_eq_some_iff_getElem]
      refine ⟨hlt, ?_, fun j hj => ?_⟩
      · have : rows[i] = row := by have := List.getElem?_eq_getElem hlt; rw [this] at hrow; exact Option.some.inj hrow
        rw [this]; exact hb
      · have := ef j _ hj (List.getElem?_eq_getElem (by omega))
        simp [this]
    · left
      rw [hb] at hc
      refine ⟨hlt, z', _, h', nx', (by simp (maxSteps := 10000000) (disch := omega) only [l120_0, e0, e1, e7, e8, hcs, hel, h1, hc, o_callT, bz, put_none, Nat.reduceEqDiff, Nat.reduceLT, Nat.reduceAdd, Nat.reduceMul, Int.reduceToNat]; exact rfl), by omega, rfl, rfl, rfl, ?_, ?_, ?_, ?_, fun j row' hj hr' => ?_⟩
      · simp only [pg, Nat.reduceEqDiff, e0]
      · simp only [pg, Nat.reduceEqDiff, e1]
      · simp only [pg, Nat.reduceEqDiff, e7]
      · simp only [pg, Nat.reduceEqDiff]; rfl
      · by_cases hji : j = i
        · subst hji; rw [hr'] at hrow; cases hrow; exact hb
        · exact ef j row' (by omega) hr'
  · right
    have h1 : ¬ ((i : Int) < (rows.length : Int)) := by omega
    have e : ∃ vs2, sC Tryz.prog 19 19 ih l120_0 z' vs' h' nx' = .exi 0 z' vs2 h' nx' := ⟨_, by simp (maxSteps := 10000000) (disch := omega) only [l120_0, e0, e1, e7, e8, h1, bz, put_none, Nat.reduceEqDiff, Nat.reduceLT, Nat.reduceAdd, Nat.reduceMul, Int.reduceToNat]; exact rfl⟩
    obtain ⟨vs2, e⟩ := e
    rw [e]
    refine ⟨trivial, .inr ⟨?_, vs2, rfl⟩⟩
    rw [List.findIdx?_eq_none_iff]
    intro row hr
    obtain ⟨j, hj, hjr⟩ := List.getElem_of_mem hr
    exact ef j row (by omega) (by rw [← hjr]; exact List.getElem?_eq_getElem hj)
theorem c120 {S : Kn} (hS : S.Only [22]) {m : Nat} (hm : 1 ≤ m) {rows : List (List Value)} {h : Hp} {nx fc : Nat} {xs ys : List Value} {v : Value} {p : List Value → Bool} (hl : rows.length ≤ 140737488355328) (hv : Lst h nx 4 v rows)
    (hp : ∀ row, row ∈ rows → callF fc (xs ++ [.agg row.toArray] ++ ys) (execL Tryz.prog vmL S (m - 1)) h nx = .gen (.bool (p row)) h nx []) :
    callF 120 [v, .func (.func fc) xs.toArray ys.toArray] (execL Tryz.prog vmL S m) h nx = .gen (vi (match rows.findIdx? p with | some i => (i : Int) | none => -1)) h nx [] := by
  refine fun120.ground (hS _ _ _ _ (by decide)) (by omega) (by split <;> rfl) (by simp) ?_
  obtain ⟨a, c, rfl, _⟩ := hv.form
  simp (maxSteps := 10000000) (disch := omega) only [s120, s_loop, bz, put_none, Nat.reduceEqDiff, Nat.reduceLT, Nat.reduceAdd, Nat.reduceMul, Int.reduceToNat]
  generalize hr : loopR _ _ _ _ _ = r
  rcases loop120 (p := p) (xs := xs) (ys := ys) hl hv hp rfl rfl rfl rfl hr with ⟨i, vs', hf, rfl, e4⟩ | ⟨hf, vs', rfl⟩
  · rw [hf]
    exact ⟨_, _, by simp (maxSteps := 10000000) (disch := omega) only [e4, bz, put_none, Nat.reduceEqDiff, Nat.reduceLT, Nat.reduceAdd, Nat.reduceMul, Int.reduceToNat]; rfl⟩
  · rw [hf]
    exact ⟨_, _, by simp (maxSteps := 10000000) (disch := omega) only [bz, put_none, Nat.reduceEqDiff, Nat.reduceLT, Nat.reduceAdd, Nat.reduceMul, Int.reduceToNat]; rfl⟩
theorem c89 {S : Kn} (hS : S.Only [22]) {m : Nat} (hm : 2 ≤ m) {rows : List (List Value)} {h : Hp} {nx fc : Nat} {xs ys : List Value} {v : Value} {p : List Value → Bool} (hl : rows.length ≤ 140737488355328) (hv : Lst h nx 4 v rows)
    (hp : ∀ row, row ∈ rows → callF fc (xs ++ [.agg row.toArray] ++ ys) (execL Tryz.prog vmL S (m - 2)) h nx = .gen (.bool (p row)) h nx []) :
    callF 89 [v, .func (.func fc) xs.toArray ys.toArray] (execL Tryz.prog vmL S m) h nx = .gen (.bool (rows.any p)) h nx [] := by
  refine fun89.ground (hS _ _ _ _ (by decide)) (by omega) rfl (by simp) ?_
  have k := c120 hS (m := m - 1) (by omega) hl hv (p := p) (xs := xs) (ys := ys) (fc := fc) (by rw [Nat.sub_sub]; exact hp)
  have ha : rows.any p = (rows.findIdx? p).isSome := by rw [List.findIdx?_isSome]
  rw [ha]
  cases hf : rows.findIdx? p with
  | none =>
    rw [hf] at k
    simp (maxSteps := 10000000) (disch := omega) only [s89, k, bz, put_none, Nat.reduceEqDiff, Nat.reduceLT, Nat.reduceAdd, Nat.reduceMul, Int.reduceToNat]
    exact ⟨_, _, rfl⟩
  | some i =>
    rw [hf] at k
    have h1 : (0 : Int) ≤ (i : Int) := by omega
    simp (maxSteps := 10000000) (disch := omega) only [s89, k, h1, bz, put_none, Nat.reduceEqDiff, Nat.reduceLT, Nat.reduceAdd, Nat.reduceMul, Int.reduceToNat]
    exact ⟨_, _, rfl⟩
theorem loop150 {ih : Rec} {rows : List (List Value)} {z : Z} {vs : Vs} {h : Hp} {nx fc : Nat} {xs ys : List Value} {v : Value} {p : List Value → Bool} (hl : rows.length ≤ 140737488355328) (hv : Lst h nx 1 v rows)
    (hp : ∀ row, row ∈ rows → callF fc (xs ++ [row.headD .nilFunc] ++ ys) ih h nx = .gen (.bool (p row)) h nx [])
    (g0 : vs 0 = some v) (g1 : vs 1 = some (.func (.func fc) xs.toArray ys.toArray)) (g7 : vs 7 = some (vi rows.length)) (g8 : vs 8 = some (vi 0)) {r : R} (hr : loopR (sC Tryz.prog 19 19 ih l150_0) z vs h nx = r) :
    (∃ i vs', rows.findIdx? p = some i ∧ r = .ret z vs' h nx ∧ vs' 4 = some (vi (i : Int))) ∨ (rows.findIdx? p = none ∧ ∃ vs', r = .exi 0 z vs' h nx) := by
  subst hr
  refine loop_rule (Post := fun r => (∃ i vs', rows.findIdx? p = some i ∧ r = .ret z vs' h nx ∧ vs' 4 = some (vi (i : Int))) ∨ (rows.findIdx? p = none ∧ ∃ vs', r = .exi 0 z vs' h nx))
    (fun i z' vs' h' nx' => i ≤ rows.length ∧ z' = z ∧ h' = h ∧ nx' = nx ∧ vs' 0 = some v ∧ vs' 1 = some (.func (.func fc) xs.toArray ys.toArray) ∧ vs' 7 = some (vi rows.length) ∧ vs' 8 = some (vi (i : Int)) ∧ ∀ j row, j < i → rows[j]? = some row → p row = false) rows.length (by omega)
    ⟨Nat.zero_le _, rfl, rfl, rfl, g0, g1, g7, g8, fun j row hj => by omega⟩ ?_
  rintro i z' vs' h' nx' ⟨hi, rfl, rfl, rfl, e0, e1, e7, e8, ef⟩
  obtain ⟨a, c, rfl, _⟩ := hv.form
  by_cases hlt : i < rows.length
  · obtain ⟨_, rr, o, row, cs, rfl, hrn, hrow, hrl, hcs, ho, hseg⟩ := hv.load (i := i) hlt
    have h1 : ((i : Int) < (rows.length : Int)) := by omega
    have hmem := List.mem_of_getElem? hrow
    have hc := hp row hmem
    have hel : part1 false 1 cs (o + i * 1) = some (row.headD .nilFunc) := part1_el1 hrl hseg
    rcases Bool.eq_false_or_eq_true (p row) with hb | hb
    · right
      rw [hb] at hc
      have e : ∃ vs2, sC Tryz.prog 19 19 ih l150_0 z' vs' h' nx' = .ret z' vs2 h' nx' ∧ vs2 4 = some (vi (i : Int)) := by
        refine ⟨_, by simp (maxSteps := 10000000) (disch := omega) only [l150_0, e0, e1, e7, e8, hcs, hel, h1, hc, o_callT, bz, put_none, Nat.reduceEqDiff, Nat.reduceLT, Nat.reduceAdd, Nat.reduceMul, Int.reduceToNat]; exact rfl, ?_⟩
        simp only [pg, Nat.reduceEqDiff]
      obtain ⟨vs2, e, e4⟩ := e
      rw [e]
      refine ⟨trivial, .inl ⟨i, vs2, ?_, rfl, e4⟩⟩
      rw [List.findIdx?_eq_some_iff_getElem]
      refine ⟨hlt, ?_, fun j hj => ?_⟩
      · have : rows[i] = row := by have := List.getElem?_eq_getElem hlt; rw [this] at hrow; exact Option.some.inj hrow
        rw [this]; exact hb
      · have := ef j _ hj (List.getElem?_eq_getElem (by omega))
        simp [this]
    · left
      rw [hb] at hc
      refine ⟨hlt, z', _, h', nx', (by simp (maxSteps := 10000000) (disch := omega) only [l150_0, e0, e1, e7, e8, hcs, hel, h1, hc, o_callT, bz, put_none, Nat.reduceEqDiff, Nat.reduceLT, Nat.reduceAdd, Nat.reduceMul, Int.reduceToNat]; exact rfl), by omega, rfl, rfl, rfl, ?_, ?_, ?_, ?_, fun j row' hj hr' => ?_⟩
      · simp only [pg, Nat.reduceEqDiff, e0]
      · simp only [pg, Nat.reduceEqDiff, e1]
      · simp only [pg, Nat.reduceEqDiff, e7]
      · simp only [pg, Nat.reduceEqDiff]; rfl
      · by_cases hji : j = i
        · subst hji; rw [hr'] at hrow; cases hrow; exact hb
        · exact ef j row' (by omega) hr'
  · right
    have h1 : ¬ ((i : Int) < (rows.length : Int)) := by omega
    have e : ∃ vs2, sC Tryz.prog 19 19 ih l150_0 z' vs' h' nx' = .exi 0 z' vs2 h' nx' := ⟨_, by simp (maxSteps := 10000000) (disch := omega) only [l150_0, e0, e1, e7, e8, h1, bz, put_none, Nat.reduceEqDiff, Nat.reduceLT, Nat.reduceAdd, Nat.reduceMul, Int.reduceToNat]; exact rfl⟩
    obtain ⟨vs2, e⟩ := e
    rw [e]
    refine ⟨trivial, .inr ⟨?_, vs2, rfl⟩⟩
    rw [List.findIdx?_eq_none_iff]
    intro row hr
    obtain ⟨j, hj, hjr⟩ := List.getElem_of_mem hr
    exact ef j row (by omega) (by rw [← hjr]; exact List.getElem?_eq_getElem hj)
theorem c150 {S : Kn} (hS : S.Only [22]) {m : Nat} (hm : 1 ≤ m) {rows : List (List Value)} {h : Hp} {nx fc : Nat} {xs ys : List Value} {v : Value} {p : List Value → Bool} (hl : rows.length ≤ 140737488355328) (hv : Lst h nx 1 v rows)
    (hp : ∀ row, row ∈ rows → callF fc (xs ++ [row.headD .nilFunc] ++ ys) (execL Tryz.prog vmL S (m - 1)) h nx = .gen (.bool (p row)) h nx []) :
    callF 150 [v, .func (.func fc) xs.toArray ys.toArray] (execL Tryz.prog vmL S m) h nx = .gen (vi (match rows.findIdx? p with | some i => (i : Int) | none => -1)) h nx [] := by
  refine fun150.ground (hS _ _ _ _ (by decide)) (by omega) (by split <;> rfl) (by simp) ?_
  obtain ⟨a, c, rfl, _⟩ := hv.form
  simp (maxSteps := 10000000) (disch := omega) only [s150, s_loop, bz, put_none, Nat.reduceEqDiff, Nat.reduceLT, Nat.reduceAdd, Nat.reduceMul, Int.reduceToNat]
  generalize hr : loopR _ _ _ _ _ = r
  rcases loop150 (p := p) (xs := xs) (ys := ys) hl hv hp rfl rfl rfl rfl hr with ⟨i, vs', hf, rfl, e4⟩ | ⟨hf, vs', rfl⟩
  · rw [hf]
    exact ⟨_, _, by simp (maxSteps := 10000000) (disch := omega) only [e4, bz, put_none, Nat.reduceEqDiff, Nat.reduceLT, Nat.reduceAdd, Nat.reduceMul, Int.reduceToNat]; rfl⟩
  · rw [hf]
    exact ⟨_, _, by simp (maxSteps := 10000000) (disch := omega) only [bz, put_none, Nat.reduceEqDiff, Nat.reduceLT, Nat.reduceAdd, Nat.reduceMul, Int.reduceToNat]; rfl⟩
theorem c138 {S : Kn} (hS : S.Only [22]) {m : Nat} (hm : 2 ≤ m) {rows : List (List Value)} {h : Hp} {nx fc : Nat} {xs ys : List Value} {v : Value} {p : List Value → Bool} (hl : rows.length ≤ 140737488355328) (hv : Lst h nx 1 v rows)
    (hp : ∀ row, row ∈ rows → callF fc (xs ++ [row.headD .nilFunc] ++ ys) (execL Tryz.prog vmL S (m - 2)) h nx = .gen (.bool (p row)) h nx []) :
    callF 138 [v, .func (.func fc) xs.toArray ys.toArray] (execL Tryz.prog vmL S m) h nx = .gen (.bool (rows.any p)) h nx [] := by
  refine fun138.ground (hS _ _ _ _ (by decide)) (by omega) rfl (by simp) ?_
  have k := c150 hS (m := m - 1) (by omega) hl hv (p := p) (xs := xs) (ys := ys) (fc := fc) (by rw [Nat.sub_sub]; exact hp)
  have ha : rows.any p = (rows.findIdx? p).isSome := by rw [List.findIdx?_isSome]
  rw [ha]
  cases hf : rows.findIdx? p with
  | none =>
    rw [hf] at k
    simp (maxSteps := 10000000) (disch := omega) only [s138, k, bz, put_none, Nat.reduceEqDiff, Nat.reduceLT, Nat.reduceAdd, Nat.reduceMul, Int.reduceToNat]
    exact ⟨_, _, rfl⟩
  | some i =>
    rw [hf] at k
    have h1 : (0 : Int) ≤ (i : Int) := by omega
    simp (maxSteps := 10000000) (disch := omega) only [s138, k, h1, bz, put_none, Nat.reduceEqDiff, Nat.reduceLT, Nat.reduceAdd, Nat.reduceMul, Int.reduceToNat]
    exact ⟨_, _, rfl⟩
theorem c135 {S : Kn} (hS : S.Only [22]) {m : Nat} (hm : 1 ≤ m) {row : List Value} (hrl : row.length = 4) {h : Hp} {nx b g : Nat} (hb : b < nx) (hr : rowL h b = some [.func (.func g) #[] #[]]) {y : Bool}
    (hp : ∀ h' nx', nx ≤ nx' → Same nx h h' → callF g [.agg row.toArray] (execL Tryz.prog vmL S (m - 1)) h' nx' = .gen (.bool y) h' nx' []) :
    callF 135 [.agg row.toArray, .pointer (some ⟨b, 0, none⟩)] (execL Tryz.prog vmL S m) h nx = .gen (.bool (!y)) h nx [] := by
  refine fun135.ground (hS _ _ _ _ (by decide)) (by omega) rfl (by simp) ?_
  have hk := hp (hset h nx (.cells row none)) (nx + 1) (by omega) ((Same.refl nx h).set (Nat.le_refl _) _)
  have ht : (row.drop 0).take 4 = row := by rw [List.drop_zero]; exact List.take_of_length_le (by omega)
  have hpt : part1 true 4 row 0 = some (.agg row.toArray) := by rw [part1_agg _ _ _ (by omega), ht]
  simp (maxSteps := 10000000) (disch := omega) only [s135, hr, hk, hpt, o_callT, List.nil_append, List.append_nil, List.cons_append, bz, put_none, Nat.reduceEqDiff, Nat.reduceLT, Nat.reduceAdd, Nat.reduceMul, Int.reduceToNat]
  exact ⟨_, _, rfl⟩
theorem c104 {S : Kn} (hS : S.Only [22]) {m : Nat} (hm : 4 ≤ m) {rows : List (List Value)} {h : Hp} {nx g : Nat} {v : Value} {p : List Value → Bool} (hl : rows.length ≤ 140737488355328) (hv : Lst h nx 4 v rows) (lo hi : Int)
    (hp : ∀ row, row ∈ rows → ∀ h' nx', nx ≤ nx' → Same nx h h' → callF g [.agg row.toArray] (execL Tryz.prog vmL S (m - 4)) h' nx' = .gen (.bool (p row)) h' nx' []) :
    callF 104 [.agg #[vi lo, vi hi], v, .func (.func g) #[] #[]] (execL Tryz.prog vmL S m) h nx = .gen (.bool (inB lo hi rows.length && rows.all p)) h nx [] := by
  refine fun104.ground (hS _ _ _ _ (by decide)) (by omega) rfl (by simp) ?_
  have k85 := fun (h : Hp) (nx : Nat) (lo hi x : Int) => c85 hS (m := m - 1) (h := h) (nx := nx) (by omega) lo hi x
  obtain ⟨a, c, hve, hrs⟩ := hv.form
  subst hve
  have hsm : Same nx h (hset (hset h nx (.cells [vi lo, vi hi] none)) (nx + 1) (.cells [.func (.func g) #[] #[]] none)) := ((Same.refl nx h).set (Nat.le_refl _) _).set (by omega) _
  have k := c134 hS (m := m - 1) (by omega) (fc := 135) (xs := []) (ys := [.pointer (some ⟨nx + 1, 0, none⟩)]) (p := fun row => !p row) hl (hv.same hsm (nx' := nx + 1 + 1) (by omega)) (fun row hrow => by
    obtain ⟨i, hi, hri⟩ := List.getElem_of_mem hrow
    have hlen := (hrs i row (by rw [← hri]; exact List.getElem?_eq_getElem hi)).1
    refine c135 hS (by omega) hlen (by omega) (rowL_hset_same _ _) (fun h' nx' hn hs => ?_)
    rw [show m - 1 - 2 - 1 = m - 4 by omega]
    exact hp row hrow h' nx' (by omega) (hsm.trans (hs.mono (by omega))))
  have hall : rows.all p = !rows.any (fun row => !p row) := by simp [List.all_eq_not_any_not]
  rw [hall]
  rcases Bool.eq_false_or_eq_true (inB lo hi rows.length) with h1 | h1 <;> simp (maxSteps := 10000000) (disch := omega) only [s104, k85, h1, k, o_callT, bz, put_none, Nat.reduceEqDiff, Nat.reduceLT, Nat.reduceAdd, Nat.reduceMul, Int.reduceToNat] <;> exact ⟨_, _, rfl⟩
theorem c136 {S : Kn} (hS : S.Only [22]) {m : Nat} (hm : 1 ≤ m) {row : List Value} (hrl : row.length = 4) {h : Hp} {nx b g : Nat} (hb : b < nx) (hr : rowL h b = some [.func (.func g) #[] #[]]) {y : Bool}
    (hp : ∀ h' nx', nx ≤ nx' → Same nx h h' → callF g [.agg row.toArray] (execL Tryz.prog vmL S (m - 1)) h' nx' = .gen (.bool y) h' nx' []) :
    callF 136 [.agg row.toArray, .pointer (some ⟨b, 0, none⟩)] (execL Tryz.prog vmL S m) h nx = .gen (.bool (!y)) h nx [] := by
  refine fun136.ground (hS _ _ _ _ (by decide)) (by omega) rfl (by simp) ?_
  have hk := hp (hset h nx (.cells row none)) (nx + 1) (by omega) ((Same.refl nx h).set (Nat.le_refl _) _)
  have ht : (row.drop 0).take 4 = row := by rw [List.drop_zero]; exact List.take_of_length_le (by omega)
  have hpt : part1 true 4 row 0 = some (.agg row.toArray) := by rw [part1_agg _ _ _ (by omega), ht]
  simp (maxSteps := 10000000) (disch := omega) only [s136, hr, hk, hpt, o_callT, List.nil_append, List.append_nil, List.cons_append, bz, put_none, Nat.reduceEqDiff, Nat.reduceLT, Nat.reduceAdd, Nat.reduceMul, Int.reduceToNat]
  exact ⟨_, _, rfl⟩
theorem c106 {S : Kn} (hS : S.Only [22]) {m : Nat} (hm : 4 ≤ m) {rows : List (List Value)} {h : Hp} {nx g : Nat} {v : Value} {p : List Value → Bool} (hl : rows.length ≤ 140737488355328) (hv : Lst h nx 4 v rows) (lo hi : Int)
    (hp : ∀ row, row ∈ rows → ∀ h' nx', nx ≤ nx' → Same nx h h' → callF g [.agg row.toArray] (execL Tryz.prog vmL S (m - 4)) h' nx' = .gen (.bool (p row)) h' nx' []) :
    callF 106 [.agg #[vi lo, vi hi], v, .func (.func g) #[] #[]] (execL Tryz.prog vmL S m) h nx = .gen (.bool (inB lo hi rows.length && rows.all p)) h nx [] := by
  refine fun106.ground (hS _ _ _ _ (by decide)) (by omega) rfl (by simp) ?_
  have k85 := fun (h : Hp) (nx : Nat) (lo hi x : Int) => c85 hS (m := m - 1) (h := h) (nx := nx) (by omega) lo hi x
  obtain ⟨a, c, hve, hrs⟩ := hv.form
  subst hve
  have hsm : Same nx h (hset (hset h nx (.cells [vi lo, vi hi] none)) (nx + 1) (.cells [.func (.func g) #[] #[]] none)) := ((Same.refl nx h).set (Nat.le_refl _) _).set (by omega) _
  have k := c89 hS (m := m - 1) (by omega) (fc := 136) (xs := []) (ys := [.pointer (some ⟨nx + 1, 0, none⟩)]) (p := fun row => !p row) hl (hv.same hsm (nx' := nx + 1 + 1) (by omega)) (fun row hrow => by
    obtain ⟨i, hi, hri⟩ := List.getElem_of_mem hrow
    have hlen := (hrs i row (by rw [← hri]; exact List.getElem?_eq_getElem hi)).1
    refine c136 hS (by omega) hlen (by omega) (rowL_hset_same _ _) (fun h' nx' hn hs => ?_)
    rw [show m - 1 - 2 - 1 = m - 4 by omega]
    exact hp row hrow h' nx' (by omega) (hsm.trans (hs.mono (by omega))))
  have hall : rows.all p = !rows.any (fun row => !p row) := by simp [List.all_eq_not_any_not]
  rw [hall]
  rcases Bool.eq_false_or_eq_true (inB lo hi rows.length) with h1 | h1 <;> simp (maxSteps := 10000000) (disch := omega) only [s106, k85, h1, k, o_callT, bz, put_none, Nat.reduceEqDiff, Nat.reduceLT, Nat.reduceAdd, Nat.reduceMul, Int.reduceToNat] <;> exact ⟨_, _, rfl⟩
def ints (xs : List Int) : List (List Value) := xs.map fun x => [vi x]
theorem ints_len (xs : List Int) : (ints xs).length = xs.length := by simp [ints]
theorem c139 {S : Kn} (hS : S.Only [22]) {m : Nat} (hm : 1 ≤ m) (x : Int) {h : Hp} {nx b g : Nat} (hb : b < nx) (hr : rowL h b = some [.func (.func g) #[] #[]]) {y : Bool}
    (hp : callF g [vi x] (execL Tryz.prog vmL S (m - 1)) h nx = .gen (.bool y) h nx []) :
    callF 139 [vi x, .pointer (some ⟨b, 0, none⟩)] (execL Tryz.prog vmL S m) h nx = .gen (.bool (!y)) h nx [] := by
  refine fun139.ground (hS _ _ _ _ (by decide)) (by omega) rfl (by simp) ?_
  simp (maxSteps := 10000000) (disch := omega) only [s139, hr, hp, o_callT, List.nil_append, List.append_nil, List.cons_append, bz, put_none, Nat.reduceEqDiff, Nat.reduceLT, Nat.reduceAdd, Nat.reduceMul, Int.reduceToNat]
  exact ⟨_, _, rfl⟩
theorem c108 {S : Kn} (hS : S.Only [22]) {m : Nat} (hm : 4 ≤ m) {xs : List Int} {h : Hp} {nx g : Nat} {v : Value} {p : Int → Bool} (hl : xs.length ≤ 140737488355328) (hv : Lst h nx 1 v (ints xs)) (lo hi : Int)
    (hp : ∀ x, x ∈ xs → ∀ h' nx', nx ≤ nx' → Same nx h h' → callF g [vi x] (execL Tryz.prog vmL S (m - 4)) h' nx' = .gen (.bool (p x)) h' nx' []) :
    callF 108 [.agg #[vi lo, vi hi], v, .func (.func g) #[] #[]] (execL Tryz.prog vmL S m) h nx = .gen (.bool (inB lo hi xs.length && xs.all p)) h nx [] := by
  refine fun108.ground (hS _ _ _ _ (by decide)) (by omega) rfl (by simp) ?_
  have k85 := fun (h : Hp) (nx : Nat) (lo hi x : Int) => c85 hS (m := m - 1) (h := h) (nx := nx) (by omega) lo hi x
  obtain ⟨a, c, hve, hrs⟩ := hv.form
  rw [ints_len] at hve
  subst hve
  have hsm : Same nx h (hset (hset h nx (.cells [vi lo, vi hi] none)) (nx + 1) (.cells [.func (.func g) #[] #[]] none)) := ((Same.refl nx h).set (Nat.le_refl _) _).set (by omega) _
  let q : List Value → Bool := fun row => match row with | [.int _ x] => !p x | _ => false
  have k := c138 hS (m := m - 1) (by omega) (fc := 139) (xs := []) (ys := [.pointer (some ⟨nx + 1, 0, none⟩)]) (p := q) (rows := ints xs) (by rw [ints_len]; exact hl) (hv.same hsm (nx' := nx + 1 + 1) (by omega)) (fun row hrow => by
    obtain ⟨x, hx, rfl⟩ := List.mem_map.1 hrow
    refine c139 hS (by omega) x (by omega) (rowL_hset_same _ _) ?_
    rw [show m - 1 - 2 - 1 = m - 4 by omega]
    exact hp x hx _ _ (by omega) hsm)
  have hall : xs.all p = !(ints xs).any q := by
    rw [ints, List.any_map, List.all_eq_not_any_not]
    rfl
  rw [hall]
  rcases Bool.eq_false_or_eq_true (inB lo hi xs.length) with h1 | h1 <;> simp (maxSteps := 10000000) (disch := omega) only [s108, k85, h1, k, o_callT, bz, put_none, Nat.reduceEqDiff, Nat.reduceLT, Nat.reduceAdd, Nat.reduceMul, Int.reduceToNat] <;> exact ⟨_, _, rfl⟩
def incB : List Int → Bool
  | [] => true
  | [_] => true
  | a :: b :: l => decide (a < b) && incB (b :: l)
theorem incB_iff : ∀ (l : List Int), incB l = true ↔ ∀ (j : Nat) a b, l[j]? = some a → l[j + 1]? = some b → a < b := by
  intro l
  induction l with
  | nil => simp [incB]
  | cons a l ih =>
    cases l with
    | nil => simp [incB]
    | cons b l =>
      rw [incB, Bool.and_eq_true, ih]
      constructor
      · rintro ⟨h1, h2⟩ j x y hx hy
        cases j with
        | zero => simp at hx hy; subst hx hy; simpa using h1
        | succ j => exact h2 j x y (by simpa using hx) (by simpa using hy)
      · intro h
        exact ⟨by simpa using h 0 a b rfl rfl, fun j x y hx hy => h (j + 1) x y (by simpa using hx) (by simpa using hy)⟩
theorem loop110 {ih : Rec} {xs : List Int} {z : Z} {vs : Vs} {h : Hp} {nx : Nat} {v : Value} (hl : xs.length ≤ 140737488355328) (hv : Lst h nx 1 v (ints xs))
    (g0 : vs 0 = some v) (g5 : vs 5 = some v) (g6 : vs 6 = some (vi xs.length)) (g7 : vs 7 = some (vi 0)) {r : R} (hr : loopR (sC Tryz.prog 24 24 ih l110_0) z vs h nx = r) :
    (incB xs = false ∧ ∃ vs', r = .ret z vs' h nx ∧ vs' 2 = some (.bool false)) ∨ (incB xs = true ∧ ∃ vs', r = .exi 0 z vs' h nx) := by
  subst hr
  refine loop_rule (Post := fun r => (incB xs = false ∧ ∃ vs', r = .ret z vs' h nx ∧ vs' 2 = some (.bool false)) ∨ (incB xs = true ∧ ∃ vs', r = .exi 0 z vs' h nx))
    (fun i z' vs' h' nx' => i ≤ xs.length ∧ z' = z ∧ h' = h ∧ nx' = nx ∧ vs' 0 = some v ∧ vs' 5 = some v ∧ vs' 6 = some (vi xs.length) ∧ vs' 7 = some (vi (i : Int)) ∧ ∀ (j : Nat) a b, j + 1 < i → xs[j]? = some a → xs[j + 1]? = some b → a < b) xs.length (by omega)
    ⟨Nat.zero_le _, rfl, rfl, rfl, g0, g5, g6, g7, fun j a b hj => by omega⟩ ?_
  rintro i z' vs' h' nx' ⟨hi, rfl, rfl, rfl, e0, e5, e6, e7, ef⟩
  obtain ⟨a, c, hve, _⟩ := hv.form
  rw [ints_len] at hve
  subst hve
  have hlen := ints_len xs
  by_cases hlt : i < xs.length
  · obtain ⟨_, rr, o, row, cs, rfl, hrn, hrow, hrl, hcs, ho, hseg⟩ := hv.load (i := i) hlt
    have h1 : ((i : Int) < (xs.length : Int)) := by omega
    rw [ints, List.getElem?_map, List.getElem?_eq_getElem hlt] at hrow
    cases hrow
    have hel : part1 false 1 cs (o + i * 1) = some (vi xs[i]) := part1_el (row := []) hseg
    have hel' : cs[o + i * 1]? = some (vi xs[i]) := by rw [← part1_one 1]; exact hel
    cases i with
    | zero =>
      left
      have h2 : ¬ ((0 : Int) < 0) := by omega
      have hel0 : cs[o]? = some (vi xs[0]) := by simpa using hel'
      have c0 : ((0 : Nat) : Int) = 0 := rfl
      rw [c0] at e7 h1
      refine ⟨hlt, z', _, h', nx', (by simp (maxSteps := 10000000) (disch := omega) only [l110_0, e0, e5, e6, e7, hcs, hel0, h1, h2, Int.toNat_zero, Nat.zero_mul, o_callT, bz, put_none, Nat.reduceEqDiff, Nat.reduceLT, Nat.reduceAdd, Nat.reduceMul, Int.reduceToNat]; exact rfl), by omega, rfl, rfl, rfl, ?_, ?_, ?_, ?_, fun j a b hj => by omega⟩
      · simp only [pg, Nat.reduceEqDiff, e0]
      · simp only [pg, Nat.reduceEqDiff, e5]
      · simp only [pg, Nat.reduceEqDiff, e6]
      · simp only [pg, Nat.reduceEqDiff]; rfl
    | succ i =>
      obtain ⟨_, rr2, o2, row2, cs2, heq, hrn2, hrow2, hrl2, hcs2, ho2, hseg2⟩ := hv.load (i := i) (by omega)
      cases heq
      rw [hcs] at hcs2
      cases hcs2
      rw [ints, List.getElem?_map, List.getElem?_eq_getElem (show i < xs.length by omega)] at hrow2
      have hrow3 : [vi xs[i]] = row2 := by simpa using hrow2
      subst hrow3
      have hel2 : part1 false 1 cs (o + i * 1) = some (vi xs[i]) := part1_el (row := []) hseg2
      have hel2' : cs[o + i * 1]? = some (vi xs[i]) := by rw [← part1_one 1]; exact hel2
      have h2 : ((0 : Int) < ((i + 1 : Nat) : Int)) := by omega
      have h4 : (((i + 1 : Nat) : Int) - 1) = (i : Int) := by omega
      by_cases h3 : xs[i + 1] ≤ xs[i]
      · right
        have e : ∃ vs2, sC Tryz.prog 24 24 ih l110_0 z' vs' h' nx' = .ret z' vs2 h' nx' ∧ vs2 2 = some (.bool false) := by
          refine ⟨_, by simp (maxSteps := 10000000) (disch := omega) only [l110_0, e0, e5, e6, e7, hcs, hel, hel', hel2, hel2', h1, h2, h3, h4, o_callT, bz, put_none, Nat.reduceEqDiff, Nat.reduceLT, Nat.reduceAdd, Nat.reduceMul, Int.reduceToNat]; exact rfl, ?_⟩
          simp only [pg, Nat.reduceEqDiff]
        obtain ⟨vs2, e, e2⟩ := e
        rw [e]
        refine ⟨trivial, .inl ⟨?_, vs2, rfl, e2⟩⟩
        rw [Bool.eq_false_iff]
        intro hc
        have := (incB_iff xs).1 hc i _ _ (List.getElem?_eq_getElem (by omega)) (List.getElem?_eq_getElem hlt)
        omega
      · left
        refine ⟨hlt, z', _, h', nx', (by simp (maxSteps := 10000000) (disch := omega) only [l110_0, e0, e5, e6, e7, hcs, hel, hel', hel2, hel2', h1, h2, h3, h4, o_callT, bz, put_none, Nat.reduceEqDiff, Nat.reduceLT, Nat.reduceAdd, Nat.reduceMul, Int.reduceToNat]; exact rfl), by omega, rfl, rfl, rfl, ?_, ?_, ?_, ?_, fun j a b hj ha hb => ?_⟩
        · simp only [pg, Nat.reduceEqDiff, e0]
        · simp only [pg, Nat.reduceEqDiff, e5]
        · simp only [pg, Nat.reduceEqDiff, e6]
        · simp only [pg, Nat.reduceEqDiff]; rfl
        · by_cases hji : j = i
          · subst hji
            rw [List.getElem?_eq_getElem (by omega)] at ha hb
            cases ha; cases hb
            omega
          · exact ef j a b (by omega) ha hb
  · right
    have h1 : ¬ ((i : Int) < (xs.length : Int)) := by omega
    have e : ∃ vs2, sC Tryz.prog 24 24 ih l110_0 z' vs' h' nx' = .exi 0 z' vs2 h' nx' := ⟨_, by simp (maxSteps := 10000000) (disch := omega) only [l110_0, e0, e5, e6, e7, h1, bz, put_none, Nat.reduceEqDiff, Nat.reduceLT, Nat.reduceAdd, Nat.reduceMul, Int.reduceToNat]; exact rfl⟩
    obtain ⟨vs2, e⟩ := e
    rw [e]
    refine ⟨trivial, .inr ⟨(incB_iff xs).2 fun j a b ha hb => ef j a b ?_ ha hb, vs2, rfl⟩⟩
    have := (List.getElem?_eq_some_iff.1 hb).1
    omega
theorem c110 {S : Kn} (hS : S.Only [22]) {m : Nat} (hm : 1 ≤ m) {xs : List Int} {h : Hp} {nx : Nat} {v : Value} (hl : xs.length ≤ 140737488355328) (hv : Lst h nx 1 v (ints xs)) :
    callF 110 [v] (execL Tryz.prog vmL S m) h nx = .gen (.bool (incB xs)) h nx [] := by
  refine fun110.ground (hS _ _ _ _ (by decide)) (by omega) rfl (by simp) ?_
  obtain ⟨a, c, hve, _⟩ := hv.form
  rw [ints_len] at hve
  subst hve
  simp (maxSteps := 10000000) (disch := omega) only [s110, s_loop, bz, put_none, Nat.reduceEqDiff, Nat.reduceLT, Nat.reduceAdd, Nat.reduceMul, Int.reduceToNat]
  generalize hr : loopR _ _ _ _ _ = r
  rcases loop110 hl hv rfl rfl rfl rfl hr with ⟨hf, vs', rfl, e2⟩ | ⟨hf, vs', rfl⟩
  · rw [hf]
    exact ⟨_, _, by simp (maxSteps := 10000000) (disch := omega) only [e2, bz, put_none, Nat.reduceEqDiff, Nat.reduceLT, Nat.reduceAdd, Nat.reduceMul, Int.reduceToNat]; rfl⟩
  · rw [hf]
    exact ⟨_, _, by simp (maxSteps := 10000000) (disch := omega) only [bz, put_none, Nat.reduceEqDiff, Nat.reduceLT, Nat.reduceAdd, Nat.reduceMul, Int.reduceToNat]; rfl⟩
theorem Lst_one {h : Hp} {nx sz : Nat} {v : Value} {rows rows' : List (List Value)} (a : Lst h nx sz v rows) (b : Lst h nx sz v rows') : rows = rows' := by
  obtain ⟨x, c, e1, f1⟩ := a.form
  obtain ⟨y, d, e2, f2⟩ := b.form
  rw [e1] at e2
  injection e2 with q1 q2 q3
  subst q1
  refine List.ext_getElem? fun i => ?_
  by_cases hi : i < rows.length
  · have g1 := List.getElem?_eq_getElem hi
    have g2 := List.getElem?_eq_getElem (l := rows') (i := i) (by omega)
    obtain ⟨_, r, o, cs, k1, _, k2, _, k3⟩ := f1 i _ g1
    obtain ⟨_, r2, o2, cs2, m1, _, m2, _, m3⟩ := f2 i _ g2
    rw [k1] at m1
    cases m1
    rw [k2] at m2
    cases m2
    rw [g1, g2, ← k3, ← m3]
  · rw [List.getElem?_eq_none (by omega), List.getElem?_eq_none (by omega)]
theorem ints_inj : ∀ {a b : List Int}, ints a = ints b → a = b := by
  intro a
  induction a with
  | nil => intro b h; cases b with
    | nil => rfl
    | cons y b => cases h
  | cons x a ih =>
    intro b h
    cases b with
    | nil => cases h
    | cons y b =>
      have h2 : [vi x] :: ints a = [vi y] :: ints b := h
      injection h2 with e1 e2
      injection e1 with e3
      injection e3 with _ e4
      rw [e4, ih e2]
open Classical in
noncomputable def zsOf (h : Hp) (nx : Nat) (z : Value) : List Int := if hz : ∃ zs, Lst h nx 1 z (ints zs) then hz.choose else []
theorem zsOf_is {h : Hp} {nx : Nat} {z : Value} {zs : List Int} (k : Lst h nx 1 z (ints zs)) : zsOf h nx z = zs := by
  have hz : ∃ zs, Lst h nx 1 z (ints zs) := ⟨zs, k⟩
  unfold zsOf
  rw [dif_pos hz]
  exact ints_inj (Lst_one hz.choose_spec k)
structure Pc where
  size : Int
  weight : Int
  worth : Int
  alone : Bool
def Pc.row (x : Pc) : List Value := [vi x.size, vi x.weight, vi x.worth, .bool x.alone]
def Pc.ok (x : Pc) : Bool := inB 1 500 x.size && (inB 1 5000 x.weight && inB 0 10000 x.worth)
structure Kd where
  room : Int
  most : Int
  zv : Value
  zs : List Int
  step : Int
def Kd.row (x : Kd) : List Value := [vi x.room, vi x.most, x.zv, vi x.step]
def kindB (room most : Int) (zs : List Int) (step : Int) : Bool := inB 1 500 room && (inB 1 5000 most && ((inB 5 5 zs.length && zs.all (inB 1 1000)) && inB 0 1000 step))
def Kd.ok (x : Kd) : Bool := kindB x.room x.most x.zs x.step
structure Bk where
  P : List Pc
  pv : Value
  K : List Kd
  kv : Value
  grams : Int
  free : Int
  unit : Int
  fee : Int
  S : List Int
  sv : Value
def Bk.cells (b : Bk) : List Value := [b.pv, b.kv, vi b.grams, vi b.free, vi b.unit, vi b.fee, b.sv]
structure Bk.At (b : Bk) (h : Hp) (nx : Nat) : Prop where
  pos : 1 ≤ nx
  lim : rowL h 0 = some limL
  p : Lst h nx 4 b.pv (b.P.map Pc.row)
  k : Lst h nx 4 b.kv (b.K.map Kd.row)
  z : ∀ x, x ∈ b.K → Lst h nx 1 x.zv (ints x.zs)
  s : Lst h nx 1 b.sv (ints b.S)
  pl : b.P.length ≤ 140737488355328
  kl : b.K.length ≤ 140737488355328
  zl : ∀ x, x ∈ b.K → x.zs.length ≤ 140737488355328
  sl : b.S.length ≤ 140737488355328
theorem Bk.At.same {b : Bk} {h h' : Hp} {nx nx' : Nat} (k : b.At h nx) (a : Same nx h h') (hn : nx ≤ nx') : b.At h' nx' :=
  ⟨by have := k.pos; omega, by rw [rowL_same a (by have := k.pos; omega)]; exact k.lim, k.p.same a hn, k.k.same a hn, fun x hx => (k.z x hx).same a hn, k.s.same a hn, k.pl, k.kl, k.zl, k.sl⟩
theorem c107 {S : Kn} (hS : S.Only [22]) {m : Nat} (hm : 7 ≤ m) {h : Hp} {nx : Nat} (hn : 1 ≤ nx) (hlim : rowL h 0 = some limL) (room most step : Int) {zv : Value} {zs : List Int} (hz : Lst h nx 1 zv (ints zs)) (hl : zs.length ≤ 140737488355328) :
    callF 107 [.agg #[vi room, vi most, zv, vi step]] (execL Tryz.prog vmL S m) h nx = .gen (.bool (kindB room most zs step)) h nx [] := by
  refine fun107.ground (hS _ _ _ _ (by decide)) (by omega) rfl (by simp) ?_
  have k85 := fun (h : Hp) (nx : Nat) (lo hi x : Int) => c85 hS (m := m - 1) (h := h) (nx := nx) (by omega) lo hi x
  have k137 := fun (h : Hp) (nx : Nat) (n : Int) => c137 hS (m := m - 1) (h := h) (nx := nx) (by omega) n
  have hsm : Same nx h (hset h nx (.cells [vi room, vi most, zv, vi step] none)) := (Same.refl nx h).set (Nat.le_refl _) _
  have k := c108 hS (m := m - 1) (by omega) (g := 109) (p := inB 1 1000) hl (hz.same hsm (nx' := nx + 1) (by omega)) 5 5 (fun x _ h' nx' hn' hs => c109 hS (by omega) (by omega) (by rw [rowL_same hs (by omega), rowL_hset_other _ (by omega)]; exact hlim) x)
  unfold kindB
  rcases Bool.eq_false_or_eq_true (inB 1 500 room) with h1 | h1 <;> rcases Bool.eq_false_or_eq_true (inB 1 5000 most) with h2 | h2 <;> rcases Bool.eq_false_or_eq_true (inB 5 5 zs.length && zs.all (inB 1 1000)) with h3 | h3 <;> rcases Bool.eq_false_or_eq_true (inB 0 1000 step) with h4 | h4 <;> rw [h3] at k ⊢ <;> simp (maxSteps := 10000000) (disch := omega) only [s107, k85, k137, k, hlim, h1, h2, h4, bz, put_none, Nat.reduceEqDiff, Nat.reduceLT, Nat.reduceAdd, Nat.reduceMul, Int.reduceToNat] <;> exact ⟨_, _, rfl⟩
set_option maxRecDepth 20000
set_option maxHeartbeats 16000000
def pieceR (r : List Value) : Bool := match r with | [.int _ s, .int _ w, .int _ o, .bool _] => inB 1 500 s && (inB 1 5000 w && inB 0 10000 o) | _ => false
noncomputable def kindR (h : Hp) (nx : Nat) (r : List Value) : Bool := match r with | [.int _ a, .int _ b, z, .int _ s] => kindB a b (zsOf h nx z) s | _ => false
def Bk.valid (b : Bk) : Bool := (inB 1 7 b.P.length && b.P.all Pc.ok) && ((inB 1 4 b.K.length && b.K.all Kd.ok) && (inB 1 5000 b.grams && (inB 0 10000 b.free && (inB 1 10000 b.unit && (inB 0 1000 b.fee && ((inB 1 5 b.S.length && b.S.all (inB 1 1000)) && incB b.S))))))
theorem c81 {S : Kn} (hS : S.Only [22]) {m : Nat} (hm : 12 ≤ m) {h : Hp} {nx : Nat} {b : Bk} (hb : b.At h nx) :
    callF 81 [.agg b.cells.toArray] (execL Tryz.prog vmL S m) h nx = .gen (.bool b.valid) h nx [] := by
  refine fun81.ground (hS _ _ _ _ (by decide)) (by omega) rfl (by simp) ?_
  have k85 := fun (h : Hp) (nx : Nat) (lo hi x : Int) => c85 hS (m := m - 1) (h := h) (nx := nx) (by omega) lo hi x
  have hsm : Same nx h (hset h nx (.cells b.cells none)) := (Same.refl nx h).set (Nat.le_refl _) _
  have hb1 := hb.same hsm (nx' := nx + 1) (by omega)
  have kp := c104 hS (m := m - 1) (by omega) (g := 105) (p := pieceR) (rows := b.P.map Pc.row) (by simpa using hb.pl) hb1.p 1 7 (fun row hrow h' nx' hn' hs => by
    obtain ⟨x, hx, rfl⟩ := List.mem_map.1 hrow
    exact c105 hS (by omega) (by have := hb.pos; omega) (by rw [rowL_same hs (by omega)]; exact hb1.lim) x.size x.weight x.worth x.alone)
  have kk := c106 hS (m := m - 1) (by omega) (g := 107) (p := kindR (hset h nx (.cells b.cells none)) (nx + 1)) (rows := b.K.map Kd.row) (by simpa using hb.kl) hb1.k 1 4 (fun row hrow h' nx' hn' hs => by
    obtain ⟨x, hx, rfl⟩ := List.mem_map.1 hrow
    have hz := hb1.z x hx
    have e : kindR (hset h nx (.cells b.cells none)) (nx + 1) (Kd.row x) = kindB x.room x.most x.zs x.step := by
      show kindB x.room x.most (zsOf _ _ x.zv) x.step = _
      rw [zsOf_is hz]
    rw [e]
    exact c107 hS (by omega) (by omega) (by rw [rowL_same hs (by omega)]; exact hb1.lim) x.room x.most x.step (hz.same hs hn') (hb.zl x hx))
  have ks := c108 hS (m := m - 1) (by omega) (g := 109) (p := inB 1 1000) hb.sl hb1.s 1 5 (fun x _ h' nx' hn' hs => c109 hS (by omega) (by omega) (by rw [rowL_same hs (by omega)]; exact hb1.lim) x)
  have ki := c110 hS (m := m - 1) (by omega) hb.sl hb1.s
  have ep : (b.P.map Pc.row).all pieceR = b.P.all Pc.ok := by rw [List.all_map]; rfl
  have ek : (b.K.map Kd.row).all (kindR (hset h nx (.cells b.cells none)) (nx + 1)) = b.K.all Kd.ok := by
    rw [List.all_map]
    have h1 : ∀ x ∈ b.K, (kindR (hset h nx (.cells b.cells none)) (nx + 1) ∘ Kd.row) x = Kd.ok x := fun x hx => by
      show kindB x.room x.most (zsOf _ _ x.zv) x.step = kindB x.room x.most x.zs x.step
      rw [zsOf_is (hb1.z x hx)]
    rw [Bool.eq_iff_iff, List.all_eq_true, List.all_eq_true]
    exact ⟨fun q x hx => (h1 x hx).symm.trans (q x hx), fun q x hx => (h1 x hx).trans (q x hx)⟩
  rw [ep, List.length_map] at kp
  rw [ek, List.length_map] at kk
  have hlim := hb.lim
  have hpos := hb.pos
  unfold Bk.valid
  have hcell : b.cells = [b.pv, b.kv, vi b.grams, vi b.free, vi b.unit, vi b.fee, b.sv] := rfl
  rw [hcell] at kp kk ks ki ⊢
  rcases Bool.eq_false_or_eq_true (inB 1 7 b.P.length && b.P.all Pc.ok) with x1 | x1
  rotate_left
  · rw [x1] at kp ⊢
    simp (maxSteps := 10000000) (disch := omega) only [s81, k85, kp, kk, ks, ki, hlim,  bz, put_none, Nat.reduceEqDiff, Nat.reduceLT, Nat.reduceAdd, Nat.reduceMul, Int.reduceToNat]
    exact ⟨_, _, rfl⟩
  rw [x1] at kp ⊢
  rcases Bool.eq_false_or_eq_true (inB 1 4 b.K.length && b.K.all Kd.ok) with x2 | x2
  rotate_left
  · rw [x2] at kk ⊢
    simp (maxSteps := 10000000) (disch := omega) only [s81, k85, kp, kk, ks, ki, hlim,  bz, put_none, Nat.reduceEqDiff, Nat.reduceLT, Nat.reduceAdd, Nat.reduceMul, Int.reduceToNat]
    exact ⟨_, _, rfl⟩
  rw [x2] at kk ⊢
  rcases Bool.eq_false_or_eq_true (inB 1 5000 b.grams) with x3 | x3
  rotate_left
  · simp (maxSteps := 10000000) (disch := omega) only [s81, k85, kp, kk, ks, ki, hlim, x3, bz, put_none, Nat.reduceEqDiff, Nat.reduceLT, Nat.reduceAdd, Nat.reduceMul, Int.reduceToNat]
    exact ⟨_, _, rfl⟩
  rcases Bool.eq_false_or_eq_true (inB 0 10000 b.free) with x4 | x4
  rotate_left
  · simp (maxSteps := 10000000) (disch := omega) only [s81, k85, kp, kk, ks, ki, hlim, x3, x4, bz, put_none, Nat.reduceEqDiff, Nat.reduceLT, Nat.reduceAdd, Nat.reduceMul, Int.reduceToNat]
    exact ⟨_, _, rfl⟩
  rcases Bool.eq_false_or_eq_true (inB 1 10000 b.unit) with x5 | x5
  rotate_left
  · simp (maxSteps := 10000000) (disch := omega) only [s81, k85, kp, kk, ks, ki, hlim, x3, x4, x5, bz, put_none, Nat.reduceEqDiff, Nat.reduceLT, Nat.reduceAdd, Nat.reduceMul, Int.reduceToNat]
    exact ⟨_, _, rfl⟩
  rcases Bool.eq_false_or_eq_true (inB 0 1000 b.fee) with x6 | x6
  rotate_left
  · simp (maxSteps := 10000000) (disch := omega) only [s81, k85, kp, kk, ks, ki, hlim, x3, x4, x5, x6, bz, put_none, Nat.reduceEqDiff, Nat.reduceLT, Nat.reduceAdd, Nat.reduceMul, Int.reduceToNat]
    exact ⟨_, _, rfl⟩
  rcases Bool.eq_false_or_eq_true (inB 1 5 b.S.length && b.S.all (inB 1 1000)) with x7 | x7
  rotate_left
  · rw [x7] at ks ⊢
    simp (maxSteps := 10000000) (disch := omega) only [s81, k85, kp, kk, ks, ki, hlim, x3, x4, x5, x6, bz, put_none, Nat.reduceEqDiff, Nat.reduceLT, Nat.reduceAdd, Nat.reduceMul, Int.reduceToNat]
    exact ⟨_, _, rfl⟩
  rw [x7] at ks ⊢
  rcases Bool.eq_false_or_eq_true (incB b.S) with x8 | x8
  rotate_left
  · rw [x8] at ki ⊢
    simp (maxSteps := 10000000) (disch := omega) only [s81, k85, kp, kk, ks, ki, hlim, x3, x4, x5, x6, bz, put_none, Nat.reduceEqDiff, Nat.reduceLT, Nat.reduceAdd, Nat.reduceMul, Int.reduceToNat]
    exact ⟨_, _, rfl⟩
  rw [x8] at ki ⊢
  simp (maxSteps := 10000000) (disch := omega) only [s81, k85, kp, kk, ks, ki, hlim, x3, x4, x5, x6, bz, put_none, Nat.reduceEqDiff, Nat.reduceLT, Nat.reduceAdd, Nat.reduceMul, Int.reduceToNat]
  exact ⟨_, _, rfl⟩
set_option maxRecDepth 10000
set_option maxHeartbeats 8000000
structure Fu where
  g : Nat
  xs : List Value
  ys : List Value
  y : Bool
def Fu.row (f : Fu) : List Value := [.func (.func f.g) f.xs.toArray f.ys.toArray]
theorem loop52 {ih : Rec} {F : List Fu} {z : Z} {vs : Vs} {h : Hp} {nx : Nat} {v : Value} (hl : F.length ≤ 140737488355328) (hv : Lst h nx 1 v (F.map Fu.row))
    (hp : ∀ f, f ∈ F → callF f.g (f.xs ++ f.ys) ih h nx = .gen (.bool f.y) h nx [])
    (g10 : vs 10 = some v) (g11 : vs 11 = some (vi F.length)) (g12 : vs 12 = some (vi 0)) {r : R} (hr : loopR (sC Tryz.prog 20 20 ih l52_0) z vs h nx = r) :
    (F.all Fu.y = false ∧ ∃ vs', r = .ret z vs' h nx ∧ vs' 4 = some (vi 61)) ∨ (F.all Fu.y = true ∧ ∃ vs', r = .exi 0 z vs' h nx) := by
  subst hr
  refine loop_rule (Post := fun r => (F.all Fu.y = false ∧ ∃ vs', r = .ret z vs' h nx ∧ vs' 4 = some (vi 61)) ∨ (F.all Fu.y = true ∧ ∃ vs', r = .exi 0 z vs' h nx))
    (fun i z' vs' h' nx' => i ≤ F.length ∧ z' = z ∧ h' = h ∧ nx' = nx ∧ vs' 10 = some v ∧ vs' 11 = some (vi F.length) ∧ vs' 12 = some (vi (i : Int)) ∧ ∀ (j : Nat) f, j < i → F[j]? = some f → f.y = true) F.length (by omega)
    ⟨Nat.zero_le _, rfl, rfl, rfl, g10, g11, g12, fun j f hj => by omega⟩ ?_
  rintro i z' vs' h' nx' ⟨hi, rfl, rfl, rfl, e10, e11, e12, ef⟩
  obtain ⟨a, c, hve, _⟩ := hv.form
  rw [List.length_map] at hve
  subst hve
  by_cases hlt : i < F.length
  · obtain ⟨_, rr, o, row, cs, rfl, hrn, hrow, hrl, hcs, ho, hseg⟩ := hv.load (i := i) hlt
    have h1 : ((i : Int) < (F.length : Int)) := by omega
    rw [List.getElem?_map, List.getElem?_eq_getElem hlt] at hrow
    cases hrow
    have hc := hp F[i] (List.getElem_mem hlt)
    have hel : cs[o + i * 1]? = some (.func (.func F[i].g) F[i].xs.toArray F[i].ys.toArray) := by rw [← part1_one 1]; exact part1_el (row := []) hseg
    rcases Bool.eq_false_or_eq_true F[i].y with hb | hb
    · left
      rw [hb] at hc
      refine ⟨hlt, z', _, h', nx', (by simp (maxSteps := 10000000) (disch := omega) only [l52_0, e10, e11, e12, hcs, hel, h1, hc, o_callT, List.append_nil, bz, put_none, Nat.reduceEqDiff, Nat.reduceLT, Nat.reduceAdd, Nat.reduceMul, Int.reduceToNat]; exact rfl), by omega, rfl, rfl, rfl, ?_, ?_, ?_, fun j f hj hf => ?_⟩
      · simp only [pg, Nat.reduceEqDiff, e10]
      · simp only [pg, Nat.reduceEqDiff, e11]
      · simp only [pg, Nat.reduceEqDiff]; rfl
      · by_cases hji : j = i
        · subst hji; rw [List.getElem?_eq_getElem hlt] at hf; cases hf; exact hb
        · exact ef j f (by omega) hf
    · right
      rw [hb] at hc
      have e : ∃ vs2, sC Tryz.prog 20 20 ih l52_0 z' vs' h' nx' = .ret z' vs2 h' nx' ∧ vs2 4 = some (vi 61) := by
        refine ⟨_, by simp (maxSteps := 10000000) (disch := omega) only [l52_0, e10, e11, e12, hcs, hel, h1, hc, o_callT, List.append_nil, bz, put_none, Nat.reduceEqDiff, Nat.reduceLT, Nat.reduceAdd, Nat.reduceMul, Int.reduceToNat]; exact rfl, ?_⟩
        simp only [pg, Nat.reduceEqDiff]
      obtain ⟨vs2, e, e4⟩ := e
      rw [e]
      refine ⟨trivial, .inl ⟨?_, vs2, rfl, e4⟩⟩
      rw [List.all_eq_false]
      exact ⟨F[i], List.getElem_mem hlt, by simp [hb]⟩
  · right
    have h1 : ¬ ((i : Int) < (F.length : Int)) := by omega
    have e : ∃ vs2, sC Tryz.prog 20 20 ih l52_0 z' vs' h' nx' = .exi 0 z' vs2 h' nx' := ⟨_, by simp (maxSteps := 10000000) (disch := omega) only [l52_0, e10, e11, e12, h1, bz, put_none, Nat.reduceEqDiff, Nat.reduceLT, Nat.reduceAdd, Nat.reduceMul, Int.reduceToNat]; exact rfl⟩
    obtain ⟨vs2, e⟩ := e
    rw [e]
    refine ⟨trivial, .inr ⟨?_, vs2, rfl⟩⟩
    rw [List.all_eq_true]
    intro f hf
    obtain ⟨j, hj, hjr⟩ := List.getElem_of_mem hf
    exact ef j f (by omega) (by rw [← hjr]; exact List.getElem?_eq_getElem hj)
def checkI (ok all : Bool) : Int := if ok then (if all then 0 else 61) else 60
theorem c52 {S : Kn} (hS : S.Only [22]) {m : Nat} (hm : 13 ≤ m) {h : Hp} {nx : Nat} {b : Bk} (hb : b.At h nx) {F : List Fu} {v : Value} (hl : F.length ≤ 140737488355328) (hv : Lst h nx 1 v (F.map Fu.row))
    (hp : b.valid = true → ∀ f, f ∈ F → ∀ h' nx', nx ≤ nx' → Same nx h h' → callF f.g (f.xs ++ f.ys) (execL Tryz.prog vmL S (m - 1)) h' nx' = .gen (.bool f.y) h' nx' []) :
    callF 52 [.agg b.cells.toArray, v] (execL Tryz.prog vmL S m) h nx = .gen (vi (checkI b.valid (F.all Fu.y))) h nx [] := by
  refine fun52.ground (hS _ _ _ _ (by decide)) (by omega) rfl (by simp) ?_
  have hsm : Same nx h (hset h nx (.cells b.cells none)) := (Same.refl nx h).set (Nat.le_refl _) _
  have k81 := c81 hS (m := m - 1) (by omega) (hb.same hsm (nx' := nx + 1) (by omega))
  obtain ⟨a, c, hve, _⟩ := hv.form
  rw [List.length_map] at hve
  subst hve
  have hcell : b.cells = [b.pv, b.kv, vi b.grams, vi b.free, vi b.unit, vi b.fee, b.sv] := rfl
  unfold checkI
  rcases Bool.eq_false_or_eq_true b.valid with hx | hx
  · rw [hx] at k81
    have hv' := hv.same hsm (nx' := nx + 1) (by omega)
    have hp' := fun f hf => hp hx f hf (hset h nx (.cells b.cells none)) (nx + 1) (by omega) hsm
    rw [hcell] at k81 hv' hp' ⊢
    simp (maxSteps := 10000000) (disch := omega) only [s52, s_loop, k81, hx, bz, put_none, Nat.reduceEqDiff, Nat.reduceLT, Nat.reduceAdd, Nat.reduceMul, Int.reduceToNat]
    generalize hr : loopR _ _ _ _ _ = r
    rcases loop52 (F := F) hl hv' hp' rfl rfl rfl hr with ⟨hf, vs', rfl, e4⟩ | ⟨hf, vs', rfl⟩
    · rw [hf]
      exact ⟨_, _, by simp (maxSteps := 10000000) (disch := omega) only [e4, Bool.false_eq_true, bz, put_none, Nat.reduceEqDiff, Nat.reduceLT, Nat.reduceAdd, Nat.reduceMul, Int.reduceToNat]; rfl⟩
    · rw [hf]
      exact ⟨_, _, by simp (maxSteps := 10000000) (disch := omega) only [bz, put_none, Nat.reduceEqDiff, Nat.reduceLT, Nat.reduceAdd, Nat.reduceMul, Int.reduceToNat]; rfl⟩
  · rw [hx] at k81
    rw [hcell] at k81 ⊢
    simp (maxSteps := 10000000) (disch := omega) only [s52, k81, hx, Bool.false_eq_true, bz, put_none, Nat.reduceEqDiff, Nat.reduceLT, Nat.reduceAdd, Nat.reduceMul, Int.reduceToNat]
    exact ⟨_, _, rfl⟩
theorem hset_twice (h : Hp) (r : Nat) (x y : Row) : hset (hset h r x) r y = hset h r y := by
  funext s
  show (if s = r then some y else if s = r then some x else h s) = if s = r then some y else h s
  by_cases q : s = r <;> simp [q]
theorem splice_mid : ∀ (c : List Value) (o : Nat) (vs : List Value), o + vs.length ≤ c.length → splice c o vs = some (c.take o ++ (vs ++ c.drop (o + vs.length))) := by
  intro c
  induction c with
  | nil => intro o vs h; cases vs with
    | nil => simp at h; subst h; rfl
    | cons _ _ => simp at h
  | cons x c ih =>
    intro o vs h
    cases o with
    | zero =>
      cases vs with
      | nil => rfl
      | cons v vs =>
        rw [splice_c, ih 0 vs (by simp at h ⊢; omega)]
        simp [Nat.add_comm]
    | succ o =>
      rw [splice_s, ih o vs (by simp at h ⊢; omega)]
      simp only [List.take_succ_cons, List.cons_append]
      have e : o + 1 + vs.length = (o + vs.length) + 1 := by omega
      rw [e, List.drop_succ_cons]
theorem flat_groundL {l : List Value} (h : ∀ v, v ∈ l → flat v = true) : groundL flat l = true := by
  induction l with
  | nil => rfl
  | cons v l ih =>
    show (Bool.rec false (groundL flat l) (flat v) : Bool) = true
    rw [h v List.mem_cons_self]
    exact ih fun x hx => h x (List.mem_cons_of_mem _ hx)
def flatL (l : List Value) : Prop := ∀ v, v ∈ l → flat v = true
end Go.Proofs.YtcmkngajdckndaaGreatDoor
namespace Go.Proofs.YtcmkngajdckndaaGreatDoor
open Go Go.Proofs Go.Lm
set_option maxRecDepth 10000
set_option maxHeartbeats 8000000
theorem inB_iff {lo hi x : Int} : inB lo hi x = true → lo ≤ x ∧ x ≤ hi := by
  intro h
  simpa [inB] using h
variable {S : Kn} (hS : S.Only [22]) {m : Nat} {b : Bk} {h : Hp} {nx : Nat} (hb : b.At h nx) (h7 : b.P.length ≤ 7) (hok : b.P.all Pc.ok = true) (f : Nat → Bool)
include hS hb h7 hok
end Go.Proofs.YtcmkngajdckndaaGreatDoor
namespace Go
namespace Lm
variable {P : Program} {nv : Nat} {ih : Rec} {vs : Vs} {h : Hp} {nx : Nat}
noncomputable def maxO (P : Program) (x y : Option Value) : Option Value := match x, y with
  | some a, some b => bif groundL flat [a, b] then gr (pureOf P (Builtin.max_ #[] 0 #[a, b])) else none
  | _, _ => none
theorem o_max2 (x y : Operand) (t u : TypeId) : rOp P nv ih (.call { callee := .builtin .max, args := #[x, y], argTypes := #[t, u] }) vs h nx = outP (maxO P (opV nv x vs) (opV nv y vs)) := by
  unfold rOp
  show runO (dCall P nv { callee := .builtin .max, args := #[x, y], argTypes := #[t, u] }) ih vs [] h nx = _
  obtain ⟨f, hf⟩ := dX_some nv x
  obtain ⟨g, hg⟩ := dX_some nv y
  have hm : dXs nv [x, y] = .mk [f, g] := by
    have e : dXs nv [x, y] = match dX nv x, (match dX nv y, dXs nv [] with | .mk f, .mk l => XL.mk (f :: l)) with | .mk f, .mk l => XL.mk (f :: l) := rfl
    rw [e, hf, hg]; rfl
  unfold dCall
  simp only [hm]
  rw [← opV_of hf, ← opV_of hg]
  show outP (oMinMax P .max [f, g] vs []) = outP (maxO P (f vs []) (g vs []))
  unfold oMinMax maxO
  cases hx : f vs [] with
  | none =>
    have e : evs [f, g] vs [] = none := by unfold evs; simp only [hx]
    rw [e]
  | some a =>
    cases hy : g vs [] with
    | none =>
      have e : evs [f, g] vs [] = none := by unfold evs; simp only [hx, evs, hy]
      rw [e]
    | some b =>
      have e : evs [f, g] vs [] = some [a, b] := by unfold evs; simp only [hx, evs, hy]
      rw [e]
theorem maxO_int (a b : Int) : maxO P (some (.int .i64 a)) (some (.int .i64 b)) = some (.int .i64 (max a b)) := by
  unfold maxO
  show gr (pureOf P (Builtin.max_ #[] 0 #[.int .i64 a, .int .i64 b])) = _
  unfold Builtin.max_
  simp only [List.foldlM]
  unfold Builtin.max2
  by_cases hab : a < b
  · have : max a b = b := by omega
    rw [this]; simp only [gt_iff_lt, hab, if_true, if_false]; rfl
  · have : max a b = a := by omega
    rw [this]; simp only [gt_iff_lt, hab, if_true, if_false]; rfl
end Lm
end Go
namespace Go.Proofs.YtcmkngajdckndaaGreatDoor
open Go Go.Proofs Go.Lm
set_option maxRecDepth 10000
set_option maxHeartbeats 8000000
end Go.Proofs.YtcmkngajdckndaaGreatDoor
namespace Go.Proofs.YtcmkngajdckndaaGreatDoor
open Go Go.Proofs Go.Lm
set_option maxRecDepth 10000
set_option maxHeartbeats 8000000
variable {S : Kn} (hS : S.Only [22]) {m : Nat} {b : Bk} {h : Hp} {nx : Nat} (hb : b.At h nx) (h7 : b.P.length ≤ 7) (hok : b.P.all Pc.ok = true) (f : Nat → Bool)
include hS hb h7 hok
end Go.Proofs.YtcmkngajdckndaaGreatDoor
namespace Go.Proofs.YtcmkngajdckndaaGreatDoor
open Go Go.Proofs Go.Lm
set_option maxRecDepth 10000
set_option maxHeartbeats 8000000
variable {S : Kn} (hS : S.Only [22]) {m : Nat} {b : Bk} {h : Hp} {nx : Nat} (hb : b.At h nx) (h7 : b.P.length ≤ 7) (hok : b.P.all Pc.ok = true) (f : Nat → Bool)
include hS hb h7 hok
end Go.Proofs.YtcmkngajdckndaaGreatDoor
namespace Go
namespace Lm
variable {P : Program} {nvs : List (Nat × Nat)}
theorem callF_whole {f : FuncId} {us : List Value} {ih : Rec} {h : Hp} {nx : Nat} {v : Value} {h1 : Hp} {n1 : Nat} (hg : ground v = false) (hc : cmp3 h1 nx v ⟨h, nx, []⟩ = none) (hv : ih (.call f us) h nx = .val v h1 n1 []) : callF f us ih h nx = .gen v h1 n1 [] := by
  unfold callF
  rw [hv]
  show (Bool.rec (match cmp3 h1 nx v ⟨h, nx, []⟩ with | some (u, s) => Out.gen u s.h s.nx [] | none => Out.gen v h1 n1 []) (Out.gen v h nx []) (ground v) : Out) = _
  rw [hg, hc]
theorem Fun.whole {f : FuncId} {n : Nat} {rs : List ResultVar} {s : SC} (F : Fun P nvs f n rs s) {S : Kn} {m : Nat} {us : List Value} {h : Hp} {nx : Nat} {v : Value} {h1 : Hp} {n1 : Nat} (hn : S f us h nx = none) (hm : 1 ≤ m) (hg : Lm.ground v = false) (hc : cmp3 h1 nx v ⟨h, nx, []⟩ = none) (ha : us.length ≤ n)
    (hx : doneR P n rs (sC P n n (execL P nvs S (m - 1)) s ⟨nx, none, [], []⟩ (enum us 0) h nx) = .val v h1 n1 []) : callF f us (execL P nvs S m) h nx = .gen v h1 n1 [] := by
  obtain ⟨k, rfl⟩ : ∃ k, m = k + 1 := ⟨m - 1, by omega⟩
  rw [Nat.add_sub_cancel] at hx
  exact callF_whole hg hc ((execL_call hn).trans ((F.run _ us h nx ha).trans hx))
theorem put_none2 (v : Value) (vs : Vs) : put none v vs = vs := (fun h => h) (put_none v)
end Lm
end Go
namespace Go.Proofs.YtcmkngajdckndaaGreatDoor
open Go Go.Proofs Go.Lm
set_option maxRecDepth 10000
set_option maxHeartbeats 8000000
abbrev fn (g : Nat) : Value := .func (.func g) #[] #[]
abbrev pt (p : Nat) : Value := .pointer (some ⟨p, 0, none⟩)
structure Bk.Fine (b : Bk) : Prop where
  p1 : 1 ≤ b.P.length
  p7 : b.P.length ≤ 7
  po : b.P.all Pc.ok = true
  k1 : 1 ≤ b.K.length
  k4 : b.K.length ≤ 4
  ko : b.K.all Kd.ok = true
  g1 : 1 ≤ b.grams
  g2 : b.grams ≤ 5000
  f1 : 0 ≤ b.free
  f2 : b.free ≤ 10000
  u1 : 1 ≤ b.unit
  u2 : b.unit ≤ 10000
  e1 : 0 ≤ b.fee
  e2 : b.fee ≤ 1000
  s1 : 1 ≤ b.S.length
  s5 : b.S.length ≤ 5
  so : b.S.all (inB 1 1000) = true
  si : incB b.S = true
theorem Bk.fine {b : Bk} (h : b.valid = true) : b.Fine := by
  unfold Bk.valid at h
  simp only [Bool.and_eq_true] at h
  obtain ⟨⟨a1, a2⟩, ⟨a3, a4⟩, a5, a6, a7, a8, ⟨a9, a10⟩, a11⟩ := h
  have := inB_iff a1
  have := inB_iff a3
  have := inB_iff a5
  have := inB_iff a6
  have := inB_iff a7
  have := inB_iff a8
  have := inB_iff a9
  exact ⟨by omega, by omega, a2, by omega, by omega, a4, by omega, by omega, by omega, by omega, by omega, by omega, by omega, by omega, by omega, by omega, a10, a11⟩
structure Kd.Fine (x : Kd) : Prop where
  r1 : 1 ≤ x.room
  r2 : x.room ≤ 500
  m1 : 1 ≤ x.most
  m2 : x.most ≤ 5000
  z : x.zs.length = 5
  zo : ∀ n, n ∈ x.zs → 1 ≤ n ∧ n ≤ 1000
  s1 : 0 ≤ x.step
  s2 : x.step ≤ 1000
theorem Kd.fine {x : Kd} (h : x.ok = true) : x.Fine := by
  unfold Kd.ok kindB at h
  simp only [Bool.and_eq_true] at h
  obtain ⟨a1, a2, ⟨a3, a4⟩, a5⟩ := h
  have := inB_iff a1
  have := inB_iff a2
  have := inB_iff a3
  have := inB_iff a5
  exact ⟨by omega, by omega, by omega, by omega, by omega, fun n hn => inB_iff (List.all_eq_true.1 a4 n hn), by omega, by omega⟩
theorem Bk.Fine.kind {b : Bk} (h : b.Fine) {i : Nat} (hi : i < b.K.length) : b.K[i].Fine := Kd.fine (List.all_eq_true.1 h.ko _ (List.getElem_mem hi))
structure Pa where
  kind : Int
  zs : List Int
  v : Value
def Pa.cells (p : Pa) : List Value := [vi p.kind, p.v]
structure Pa.At (p : Pa) (h : Hp) (nx : Nat) : Prop where
  l : Lst h nx 1 p.v (ints p.zs)
  n : p.zs.length ≤ 140737488355328
theorem Pa.At.same {p : Pa} {h h' : Hp} {nx nx' : Nat} (k : p.At h nx) (a : Same nx h h') (hn : nx ≤ nx') : p.At h' nx' := ⟨k.l.same a hn, k.n⟩
theorem pA9 (x0 x1 x2 x3 x4 x5 x6 x7 x8 : Value) (l : List Value) : part1 true 9 (x0 :: x1 :: x2 :: x3 :: x4 :: x5 :: x6 :: x7 :: x8 :: l) 0 = some (.agg #[x0, x1, x2, x3, x4, x5, x6, x7, x8]) := rfl
theorem lst_none {h : Hp} {nx sz : Nat} : Lst h nx sz (.slice none 0 0) [] := ⟨none, 0, rfl, fun i row hi => by simp at hi⟩
theorem c15 {S : Kn} (hS : S.Only [22]) {m : Nat} (hm : 14 ≤ m) {b : Bk} {h : Hp} {nx : Nat} (hb : b.At h nx) : callF 15 [.agg b.cells.toArray] (execL Tryz.prog vmL S m) h nx = .gen (vi (checkI b.valid true)) h nx [] := by
  refine fun15.ground (hS _ _ _ _ (by decide)) (by omega) rfl (by simp) ?_
  obtain ⟨G, eG⟩ : ∃ x, x = hset h nx (.cells b.cells none) := ⟨_, rfl⟩
  have hsm : Same nx h G := by rw [eG]; exact (Same.refl nx h).set (Nat.le_refl _) _
  have k52 := c52 hS (m := m - 1) (by omega) (hb.same hsm (nx' := nx + 1) (by omega)) (F := []) (by simp) lst_none (fun _ f hf => by cases hf)
  rw [show ([] : List Fu).all Fu.y = true from rfl] at k52
  simp only [eG, Bk.cells] at k52
  simp (maxSteps := 10000000) (disch := omega) only [s15, Bk.cells, k52, pA9, bz, put_none2, Nat.reduceEqDiff, Nat.reduceLT, Nat.reduceAdd, Nat.reduceMul, Int.reduceToNat]
  exact ⟨_, _, rfl⟩
theorem lst_row {h : Hp} {r nx : Nat} {l : List Value} (hr : r < nx) (hc : rowL h r = some l) : Lst h nx 1 (.slice (some ⟨r, 0, none⟩) l.length l.length) (l.map fun x => [x]) := by
  refine ⟨_, _, by rw [List.length_map], fun i row hi => ?_⟩
  rw [List.getElem?_map] at hi
  cases hx : l[i]? with
  | none => rw [hx] at hi; cases hi
  | some x =>
    rw [hx] at hi
    cases hi
    have hlt := (List.getElem?_eq_some_iff.1 hx).1
    refine ⟨rfl, r, 0, l, rfl, hr, hc, by omega, ?_⟩
    rw [Nat.zero_add, Nat.mul_one, List.drop_eq_getElem_cons hlt]
    rw [List.getElem?_eq_getElem hlt] at hx
    cases hx
    rfl
theorem checkI_tt : checkI true true = 0 := rfl
theorem checkI_tf : checkI true false = 61 := rfl
theorem checkI_f (x : Bool) : checkI false x = 60 := rfl
end Go.Proofs.YtcmkngajdckndaaGreatDoor
namespace Go
namespace Lm
variable {P : Program} {nvs : List (Nat × Nat)}
structure OwnL (h : Hp) (n0 nx sz : Nat) (v : Value) (cells : List Value) : Prop where
  is : (cells = [] ∧ v = .slice none 0 0) ∨ (∃ r len, n0 ≤ r ∧ r < nx ∧ v = .slice (some ⟨r, 0, none⟩) len SENT ∧ hget h r = some (.cells cells (some sz)) ∧ cells.length = len * sz ∧ 0 < len)
theorem OwnL.nil {h : Hp} {n0 nx sz : Nat} : OwnL h n0 nx sz (.slice none 0 0) [] := ⟨.inl ⟨rfl, rfl⟩⟩
theorem OwnL.app {h : Hp} {n0 nx sz k : Nat} {v x : Value} {cells new : List Value} (a : OwnL h n0 nx sz v cells) (hn : n0 ≤ nx) (hx : appended h sz x = some (1, new)) (hl : new.length = sz) (hsz : 0 < sz) (hk : cells.length = k * sz) (hk2 : k + 1 ≤ 65536) :
    ∃ v' h' M, appO h nx (some sz) (some v) (some x) = .gen v' h' (nx + 1) M ∧ (∀ z : Z, z.n0 ≤ n0 → logZ z M = z) ∧ OwnL h' n0 (nx + 1) sz v' (cells ++ new) ∧ (∀ s, s < n0 → hget h' s = hget h s) ∧ (∀ s, (∀ r len, v = .slice (some ⟨r, 0, none⟩) len SENT → s ≠ r) → s ≠ nx → hget h' s = hget h s) := by
  rcases a.is with ⟨rfl, rfl⟩ | ⟨r, len, hr0, hrn, rfl, hg, hlen, hpos⟩
  · refine ⟨_, hset h nx (.cells new (some sz)), [], ?_, fun z _ => rfl, ⟨.inr ⟨nx, 1, hn, by omega, rfl, hget_same _ _, by simp [hl], by omega⟩⟩, fun s hs => hget_other _ (by omega), fun s _ hs => hget_other _ hs⟩
    unfold appO
    simp only [hx, room_true]
    show appTo h nx sz (.slice none 0 0) 1 new = _
    unfold appTo small appNew
    rfl
  · have hkl : len = k := by
      rw [hlen] at hk
      exact Nat.eq_of_mul_eq_mul_right hsz hk
    subst hkl
    refine ⟨.slice (some ⟨nx, 0, none⟩) (len + 1) SENT, hset (hset h r .dead) nx (.cells (cells ++ new) (some sz)), [r], ?_, fun z hz => log_own _ _ (by omega), ⟨.inr ⟨nx, len + 1, hn, by omega, rfl, hget_same _ _, by rw [List.length_append, hlen, hl, Nat.succ_mul], by omega⟩⟩, fun s hs => ?_, fun s hs hs2 => ?_⟩
    · unfold appO
      simp only [hx, room_true]
      show appTo h nx sz (.slice (some ⟨r, 0, none⟩) len SENT) 1 new = _
      unfold appTo
      simp only [hg, forceN_eq]
      unfold small
      have e1 : Nat.ble (Nat.add len 1) 65536 = true := by rw [ble_eq']; simpa using hk2
      have e2 : Nat.blt SENT HALF = false := rfl
      have e3 : Nat.beq (Nat.mul len sz) cells.length = true := by rw [hlen]; exact beq_same _
      have e4 : szOk (some sz) sz = true := beq_same _
      have e5 : Nat.beq SENT SENT = true := beq_same _
      have e6 : Nat.beq 0 0 = true := rfl
      rw [e1, e2, e3, e4, e5, e6]
      rfl
    · rw [hget_other _ (by omega), hget_other _ (by omega)]
    · rw [hget_other _ hs2, hget_other _ (hs r len rfl)]
theorem OwnL.same {h h' : Hp} {n0 nx nx' sz : Nat} {v : Value} {cells : List Value} (a : OwnL h n0 nx sz v cells) (hn : nx ≤ nx') (hs : ∀ r len, v = .slice (some ⟨r, 0, none⟩) len SENT → hget h' r = hget h r) : OwnL h' n0 nx' sz v cells := by
  rcases a.is with ⟨rfl, rfl⟩ | ⟨r, len, h1, h2, rfl, h4, h5, h6⟩
  · exact .nil
  · exact ⟨.inr ⟨r, len, h1, by omega, rfl, by rw [hs r len rfl]; exact h4, h5, h6⟩⟩
theorem OwnL.cut {h : Hp} {n0 nx sz k : Nat} {v : Value} {cells : List Value} (a : OwnL h n0 nx sz v cells) (hk : cells.length = k * sz) (hsz : 0 < sz) (hk2 : k ≤ 65536) :
    (cells = [] ∧ k = 0 ∧ v = .slice none 0 0 ∧ slice3O sz (some v) (some (.int .i64 ((k : Nat) : Int))) (some (.int .i64 ((k : Nat) : Int))) = some (.slice none 0 0)) ∨ (∃ r, n0 ≤ r ∧ r < nx ∧ v = .slice (some ⟨r, 0, none⟩) k SENT ∧ hget h r = some (.cells cells (some sz)) ∧ slice3O sz (some v) (some (.int .i64 ((k : Nat) : Int))) (some (.int .i64 ((k : Nat) : Int))) = some (.slice (some ⟨r, 0, none⟩) k k)) := by
  rcases a.is with ⟨rfl, rfl⟩ | ⟨r, len, hr0, hrn, rfl, hg, hlen, hpos⟩
  · left
    have : k = 0 := by
      rcases Nat.eq_zero_or_pos k with q | q
      · exact q
      · have := Nat.mul_pos q hsz; simp at hk; omega
    subst this
    exact ⟨rfl, rfl, rfl, rfl⟩
  · right
    have hkl : len = k := by
      rw [hlen] at hk
      exact Nat.eq_of_mul_eq_mul_right hsz hk
    subst hkl
    refine ⟨r, hr0, hrn, rfl, hg, ?_⟩
    unfold slice3O sliceOf
    have e2 : Nat.blt SENT HALF = false := rfl
    have e3 : Nat.blt len HALF = true := by rw [blt_eq]; have : (65536 : Nat) < HALF := by decide
                                            simp; omega
    simp only [e2]
    have b1 : bound len (some (.int .i64 ((len : Nat) : Int))) 0 = some len := by
      show (Bool.rec none (some len) (Nat.ble len len) : Option Nat) = _
      rw [ble_eq']
      simp
    have b0 : bound len none 0 = some 0 := rfl
    rw [b1]
    simp only
    rw [b1]
    simp only [b0]
    show (Bool.rec none (mkSl sz r 0 0 len len) (Nat.blt len HALF) : Option Value) = _
    rw [e3]
    unfold mkSl
    simp only [forceN_eq]
    have e5 : Nat.add 0 (Nat.mul 0 sz) = 0 := by show 0 + 0 * sz = 0; omega
    rw [e5]
    cases Nat.beq len 0 <;> rfl
structure NewL (h : Hp) (nx : Nat) (h' : Hp) (nx' sz : Nat) (u : Value) (cells : List Value) : Prop where
  is : (cells = [] ∧ u = .slice none 0 0 ∧ h' = h ∧ nx' = nx) ∨ (∃ n c b, u = .slice (some ⟨nx, 0, none⟩) n c ∧ h' = hset h nx (.cells cells b) ∧ nx' = nx + 1 ∧ cells.length = n * sz ∧ 0 < n)
theorem NewL.keep {h h' : Hp} {nx nx' sz : Nat} {u : Value} {cells : List Value} (a : NewL h nx h' nx' sz u cells) : nx ≤ nx' ∧ Same nx h h' := by
  rcases a.is with ⟨_, _, rfl, rfl⟩ | ⟨n, c, b, _, rfl, rfl, _, _⟩
  · exact ⟨Nat.le_refl _, Same.refl _ _⟩
  · exact ⟨by omega, (Same.refl nx h).set (Nat.le_refl _) _⟩
def ListOut (n0 : Nat) (h1 : Hp) (sz : Nat) (v : Value) (cells : List Value) : Prop := (cells = [] ∧ v = .slice none 0 0) ∨ (∃ r n c b, n0 ≤ r ∧ v = .slice (some ⟨r, 0, none⟩) n c ∧ hget h1 r = some (.cells cells b) ∧ cells.length = n * sz ∧ 0 < n)
theorem Fun.list {f : FuncId} {n : Nat} {rs : List ResultVar} {s : SC} (F : Fun P nvs f n rs s) {S : Kn} {m : Nat} {us : List Value} {h : Hp} {nx sz : Nat} {cells : List Value} (hn : S f us h nx = none) (hm : 1 ≤ m) (ha : us.length ≤ n) (hf : groundL flat cells = true)
    (hx : ∃ v h1 n1, ListOut nx h1 sz v cells ∧ doneR P n rs (sC P n n (execL P nvs S (m - 1)) s ⟨nx, none, [], []⟩ (enum us 0) h nx) = .val v h1 n1 []) :
    ∃ u h' nx', callF f us (execL P nvs S m) h nx = .gen u h' nx' [] ∧ NewL h nx h' nx' sz u cells := by
  obtain ⟨v, h1, n1, ho, hx⟩ := hx
  rcases ho with ⟨rfl, rfl⟩ | ⟨r, k, c, b, hr, rfl, hg, hl, hp⟩
  · exact ⟨_, _, _, F.ground hn hm rfl ha ⟨h1, n1, hx⟩, ⟨.inl ⟨rfl, rfl, rfl, rfl⟩⟩⟩
  · exact ⟨_, _, _, F.fresh hn hm ha hf ⟨h1, n1, r, hr, hg, hx⟩, ⟨.inr ⟨k, c, b, rfl, rfl, rfl, hl, hp⟩⟩⟩
theorem cmp3_tup {h1 h : Hp} {nx r n c : Nat} {cs : List Value} {b : Option Nat} {y : Value} (hy : flat y = true) (hr : nx ≤ r) (hc : hget h1 r = some (.cells cs b)) (hf : groundL flat cs = true) :
    cmp3 h1 nx (.tuple #[.slice (some ⟨r, 0, none⟩) n c, y]) ⟨h, nx, []⟩ = some (.tuple #[.slice (some ⟨nx, 0, none⟩) n c, y], ⟨hset h nx (.cells cs b), nx + 1, [r]⟩) := by
  have e1 : cmp2 h1 nx (.slice (some ⟨r, 0, none⟩) n c) ⟨h, nx, []⟩ = some (.slice (some ⟨nx, 0, none⟩) n c, ⟨hset h nx (.cells cs b), nx + 1, [r]⟩) := cmp3_slice hr hc hf
  have e2 : ∀ s : CS, cmp2 h1 nx y s = some (y, s) := by
    intro s
    cases y with
    | agg _ => cases hy
    | tuple _ => cases hy
    | slice a _ _ => cases a with
      | none => rfl
      | some a => cases hy
    | pointer a => cases a with
      | none => rfl
      | some a => cases hy
    | map a => cases a with
      | none => rfl
      | some a => cases hy
    | _ => first | rfl | cases hy
  show (match cmpL (cmp2 h1 nx) [.slice (some ⟨r, 0, none⟩) n c, y] ⟨h, nx, []⟩ with | some (l, s) => some (Value.tuple l.toArray, s) | none => none) = _
  unfold cmpL
  rw [e1]
  simp only
  unfold cmpL
  rw [e2]
  rfl
theorem Fun.listT {f : FuncId} {n : Nat} {rs : List ResultVar} {s : SC} (F : Fun P nvs f n rs s) {S : Kn} {m : Nat} {us : List Value} {h : Hp} {nx sz : Nat} {cells : List Value} {y : Value} (hy : flat y = true) (hn : S f us h nx = none) (hm : 1 ≤ m) (ha : us.length ≤ n) (hf : groundL flat cells = true)
    (hx : ∃ v h1 n1, ListOut nx h1 sz v cells ∧ doneR P n rs (sC P n n (execL P nvs S (m - 1)) s ⟨nx, none, [], []⟩ (enum us 0) h nx) = .val (.tuple #[v, y]) h1 n1 []) :
    ∃ u h' nx', callF f us (execL P nvs S m) h nx = .gen (.tuple #[u, y]) h' nx' [] ∧ NewL h nx h' nx' sz u cells := by
  obtain ⟨v, h1, n1, ho, hx⟩ := hx
  rcases ho with ⟨rfl, rfl⟩ | ⟨r, k, c, b, hr, rfl, hg, hl, hp⟩
  · refine ⟨_, _, _, F.ground hn hm ?_ ha ⟨h1, n1, hx⟩, ⟨.inl ⟨rfl, rfl, rfl, rfl⟩⟩⟩
    show groundL flat [.slice none 0 0, y] = true
    show (Bool.rec false (Bool.rec false true (flat y)) (flat (.slice none 0 0)) : Bool) = true
    rw [hy]; rfl
  · obtain ⟨q, rfl⟩ : ∃ k, m = k + 1 := ⟨m - 1, by omega⟩
    rw [Nat.add_sub_cancel] at hx
    exact ⟨_, _, _, callF_new rfl (cmp3_tup hy hr hg hf) ((execL_call hn).trans ((F.run _ us h nx ha).trans hx)), ⟨.inr ⟨k, c, b, rfl, rfl, rfl, hl, hp⟩⟩⟩
end Lm
end Go
namespace Go.Proofs.YtcmkngajdckndaaGreatDoor
open Go Go.Proofs Go.Lm
set_option maxRecDepth 10000
set_option maxHeartbeats 8000000
theorem appF_24 : appF Tryz.prog 24 24 = some 1 := by kernel_rfl
theorem lst_rowc {h : Hp} {r nx : Nat} {l : List Value} (c : Nat) (hr : r < nx) (hc : rowL h r = some l) : Lst h nx 1 (.slice (some ⟨r, 0, none⟩) l.length c) (l.map fun x => [x]) := by
  obtain ⟨a, c', e, hh⟩ := (lst_row hr hc).form
  rw [List.length_map] at e
  cases e
  exact ⟨_, c, by rw [List.length_map], hh⟩
end Go.Proofs.YtcmkngajdckndaaGreatDoor
namespace Go.Proofs.YtcmkngajdckndaaGreatDoor
open Go Go.Proofs Go.Lm
set_option maxRecDepth 10000
set_option maxHeartbeats 8000000
variable {S : Kn} (hS : S.Only [22]) {m : Nat} {h : Hp} {nx : Nat}
include hS
theorem c34 (hm : 1 ≤ m) (n k : Int) (hk : 1 ≤ k) (hk2 : k ≤ 1000000000) : callF 34 [vi n, vi k] (execL Tryz.prog vmL S m) h nx = .gen (vi (n % k)) h nx [] := by
  refine fun34.ground (hS _ _ _ _ (by decide)) hm rfl (by simp) ?_
  have h1 : ¬ k < 1 := by omega
  have h0 : k ≠ 0 := by omega
  have hb := bin_rem (P := Tryz.prog) 3 (.tmp 8) (.tmp 9) n k h0
  have hr := Int.tmod_lt_of_pos n (show 0 < k by omega)
  have hr2 : -k < n.tmod k := by
    have := Int.tmod_lt_of_pos (-n) (show 0 < k by omega)
    rw [Int.neg_tmod] at this
    omega
  by_cases h2 : n.tmod k < 0
  · have e : n % k = n.tmod k + k := by
      rw [Int.emod_eq_tmod]
      have : ¬ (0 ≤ n ∨ k ∣ n) := by
        rintro (q | q)
        · have := Int.tmod_nonneg k q; omega
        · have := Int.tmod_eq_zero_of_dvd q; omega
      rw [if_neg this]
      have : k.natAbs = k.toNat := by omega
      omega
    rw [e]
    simp (maxSteps := 10000000) (implicitDefEqProofs := false) (disch := omega) only [s34, h1, hb, h2, bz, put_none2, Nat.reduceEqDiff, Nat.reduceLT, Nat.reduceAdd, Nat.reduceMul, Int.reduceToNat]
    exact ⟨_, _, rfl⟩
  · have e : n % k = n.tmod k := by
      have h3 := Int.tmod_add_mul_tdiv n k
      have h4 : (n.tmod k + k * n.tdiv k) % k = n.tmod k := by
        rw [Int.add_mul_emod_self_left]
        exact Int.emod_eq_of_lt (by omega) hr
      rw [h3] at h4
      exact h4
    rw [e]
    simp (maxSteps := 10000000) (implicitDefEqProofs := false) (disch := omega) only [s34, h1, hb, h2, bz, put_none2, Nat.reduceEqDiff, Nat.reduceLT, Nat.reduceAdd, Nat.reduceMul, Int.reduceToNat]
    exact ⟨_, _, rfl⟩
end Go.Proofs.YtcmkngajdckndaaGreatDoor
namespace Go.Proofs.YtcmkngajdckndaaGreatDoor
open Go Go.Proofs Go.Lm
set_option maxRecDepth 10000
set_option maxHeartbeats 8000000
theorem Bk.Fine.pc {b : Bk} (hF : b.Fine) {x : Pc} (hx : x ∈ b.P) : (1 ≤ x.size ∧ x.size ≤ 500) ∧ (1 ≤ x.weight ∧ x.weight ≤ 5000) ∧ (0 ≤ x.worth ∧ x.worth ≤ 10000) := by
  have h := List.all_eq_true.1 hF.po x hx
  unfold Pc.ok at h
  simp only [Bool.and_eq_true] at h
  exact ⟨inB_iff h.1, inB_iff h.2.1, inB_iff h.2.2⟩
theorem Bk.At.piece {b : Bk} {h : Hp} {nx : Nat} (hb : b.At h nx) {i : Nat} (hi : i < b.P.length) : ∃ r o cs c, b.pv = .slice (some ⟨r, o, none⟩) b.P.length c ∧ rowL h r = some cs ∧ r < nx ∧ part1 true 4 cs (o + i * 4) = some (.agg b.P[i].row.toArray) ∧ o + i * 4 + 4 ≤ cs.length ∧ (cs.drop (o + i * 4)).take 4 = b.P[i].row := by
  have hk := hb.p
  obtain ⟨a, c, hve, _⟩ := hk.form
  rw [List.length_map] at hve
  rw [hve] at hk
  obtain ⟨_, r, o, row, cs, rfl, hrn, hrow, hrl, hcs, ho, hseg⟩ := hk.load (i := i) (by simpa using hi)
  rw [List.getElem?_map, List.getElem?_eq_getElem hi] at hrow
  cases hrow
  exact ⟨r, o, cs, c, hve, hcs, hrn, part1_row (by omega) hseg, ho, hseg⟩
theorem ints_el {h : Hp} {nx : Nat} {a : Option Addr} {c : Nat} {zs : List Int} (hv : Lst h nx 1 (.slice a zs.length c) (ints zs)) {i : Nat} (hi : i < zs.length) : ∃ r o cs, a = some ⟨r, o, none⟩ ∧ r < nx ∧ rowL h r = some cs ∧ part1 false 1 cs (o + i * 1) = some (vi zs[i]) := by
  obtain ⟨_, r, o, row, cs, rfl, hrn, hrow, hrl, hcs, ho, hseg⟩ := hv.load hi
  have hrw : row = [vi zs[i]] := by
    unfold ints at hrow
    rw [List.getElem?_map, List.getElem?_eq_getElem hi] at hrow
    exact (Option.some.inj hrow).symm
  subst hrw
  exact ⟨r, o, cs, rfl, hrn, hcs, part1_el (row := []) hseg⟩
theorem seg_at {cs row : List Value} {a n j : Nat} {x : Value} (hseg : (cs.drop a).take n = row) (hx : row[j]? = some x) (hj : j < n) : part1 false 1 cs (a + j) = some x := by
  rw [part1_one, ← hx, ← hseg, List.getElem?_take_of_lt hj, List.getElem?_drop]
theorem Bk.At.kind {b : Bk} {h : Hp} {nx : Nat} (hb : b.At h nx) {i : Nat} (hi : i < b.K.length) : ∃ r o cs c, b.kv = .slice (some ⟨r, o, none⟩) b.K.length c ∧ rowL h r = some cs ∧ r < nx ∧ part1 false 1 cs (o + i * 4) = some (vi b.K[i].room) ∧ part1 false 1 cs (o + i * 4 + 1) = some (vi b.K[i].most) ∧ part1 false 1 cs (o + i * 4 + 2) = some b.K[i].zv ∧ part1 false 1 cs (o + i * 4 + 3) = some (vi b.K[i].step) := by
  have hk := hb.k
  obtain ⟨a, c, hve, _⟩ := hk.form
  rw [List.length_map] at hve
  rw [hve] at hk
  obtain ⟨_, r, o, row, cs, rfl, hrn, hrow, hrl, hcs, ho, hseg⟩ := hk.load (i := i) (by simpa using hi)
  rw [List.getElem?_map, List.getElem?_eq_getElem hi] at hrow
  cases hrow
  exact ⟨r, o, cs, c, hve, hcs, hrn, seg_at (j := 0) hseg rfl (by omega), seg_at (j := 1) hseg rfl (by omega), seg_at (j := 2) hseg rfl (by omega), seg_at (j := 3) hseg rfl (by omega)⟩
theorem loop_once {b : Z → Vs → Hp → Nat → R} {z : Z} {vs : Vs} {h : Hp} {nx : Nat} {r : R} (e : b z vs h nx = r) (hf : isFin r) : loopR b z vs h nx = r := by
  refine loop_rule (Post := fun q => q = r) (fun _ z' vs' h' nx' => z' = z ∧ vs' = vs ∧ h' = h ∧ nx' = nx) 0 (by omega) ⟨rfl, rfl, rfl, rfl⟩ ?_
  rintro i z' vs' h' nx' ⟨rfl, rfl, rfl, rfl⟩
  right
  rw [e]
  exact ⟨hf, rfl⟩
section
variable {ih : Rec} {z : Z} {vs : Vs} {h : Hp} {nx : Nat}
theorem exit35_0 (g3 : vs 3 = some (.bool false)) : ∃ vs', loopR (sC Tryz.prog 154 154 ih l35_0) z vs h nx = .exi 0 z vs' h nx ∧ vs' 1 = vs 1 ∧ vs' 3 = some (.bool false) := by
  have e : ∃ vs', sC Tryz.prog 154 154 ih l35_0 z vs h nx = .exi 0 z vs' h nx ∧ vs' 1 = vs 1 ∧ vs' 3 = some (.bool false) := by
    refine ⟨_, by simp (maxSteps := 10000000) (implicitDefEqProofs := false) (disch := omega) only [l35_0, g3, bz, put_none2, Nat.reduceEqDiff, Nat.reduceLT, Nat.reduceAdd, Nat.reduceMul, Int.reduceToNat]; exact rfl, ?_, ?_⟩ <;> simp only [pg, Nat.reduceEqDiff, g3]
  obtain ⟨vs', e, q⟩ := e
  exact ⟨vs', loop_once e trivial, q⟩
theorem exit35_2 (g3 : vs 3 = some (.bool false)) : ∃ vs', loopR (sC Tryz.prog 154 154 ih l35_2) z vs h nx = .exi 2 z vs' h nx ∧ vs' 1 = vs 1 ∧ vs' 3 = some (.bool false) := by
  have e : ∃ vs', sC Tryz.prog 154 154 ih l35_2 z vs h nx = .exi 2 z vs' h nx ∧ vs' 1 = vs 1 ∧ vs' 3 = some (.bool false) := by
    refine ⟨_, by simp (maxSteps := 10000000) (implicitDefEqProofs := false) (disch := omega) only [l35_2, g3, bz, put_none2, Nat.reduceEqDiff, Nat.reduceLT, Nat.reduceAdd, Nat.reduceMul, Int.reduceToNat]; exact rfl, ?_, ?_⟩ <;> simp only [pg, Nat.reduceEqDiff, g3]
  obtain ⟨vs', e, q⟩ := e
  exact ⟨vs', loop_once e trivial, q⟩
theorem exit35_3 (g3 : vs 3 = some (.bool false)) : ∃ vs', loopR (sC Tryz.prog 154 154 ih l35_3) z vs h nx = .exi 6 z vs' h nx ∧ vs' 1 = vs 1 ∧ vs' 3 = some (.bool false) := by
  have e : ∃ vs', sC Tryz.prog 154 154 ih l35_3 z vs h nx = .exi 6 z vs' h nx ∧ vs' 1 = vs 1 ∧ vs' 3 = some (.bool false) := by
    refine ⟨_, by simp (maxSteps := 10000000) (implicitDefEqProofs := false) (disch := omega) only [l35_3, g3, bz, put_none2, Nat.reduceEqDiff, Nat.reduceLT, Nat.reduceAdd, Nat.reduceMul, Int.reduceToNat]; exact rfl, ?_, ?_⟩ <;> simp only [pg, Nat.reduceEqDiff, g3]
  obtain ⟨vs', e, q⟩ := e
  exact ⟨vs', loop_once e trivial, q⟩
end
theorem inB_true {lo hi x : Int} (h1 : lo ≤ x) (h2 : x ≤ hi) : inB lo hi x = true := by unfold inB; rw [decide_eq_true h1, decide_eq_true h2]; rfl
theorem loop35_0 {S : Kn} (hS : S.Only [22]) {m : Nat} (hm : 1 ≤ m) {b : Bk} {z : Z} {vs : Vs} {h : Hp} {nx p1 : Nat} (hF : b.Fine) (hb : b.At h nx) (hr1 : rowL h p1 = some b.cells) (hp1 : p1 < nx) (hz : z.n0 ≤ nx)
    (g1 : vs 1 = some (pt p1)) (g3 : vs 3 = some (.bool true)) (g4 : vs 4 = some (vi 0)) {r : R} (hr : loopR (sC Tryz.prog 154 154 (execL Tryz.prog vmL S m) l35_0) z vs h nx = r) :
    ∃ vs' h' nx', r = .exi 0 z vs' h' nx' ∧ nx ≤ nx' ∧ Same nx h h' ∧ vs' 1 = some (pt p1) ∧ vs' 3 = some (.bool true) := by
  subst hr
  refine loop_rule (Post := fun r => ∃ vs' h' nx', r = .exi 0 z vs' h' nx' ∧ nx ≤ nx' ∧ Same nx h h' ∧ vs' 1 = some (pt p1) ∧ vs' 3 = some (.bool true))
    (fun i z' vs' h' nx' => i ≤ b.P.length ∧ z' = z ∧ nx ≤ nx' ∧ Same nx h h' ∧ vs' 1 = some (pt p1) ∧ vs' 3 = some (.bool true) ∧ vs' 4 = some (vi (i : Int))) b.P.length (by have := hF.p7; omega)
    ⟨Nat.zero_le _, rfl, Nat.le_refl _, Same.refl _ _, g1, g3, g4⟩ ?_
  rintro i z' vs' h' nx' ⟨hi, rfl, hn, hs, e1, e3, e4⟩
  have h7 := hF.p7
  have hrow : rowL h' p1 = some b.cells := by rw [rowL_same hs hp1]; exact hr1
  obtain ⟨pa, pc, hpv, _⟩ := hb.p.form
  rw [List.length_map] at hpv
  have hpp : part1 false 1 b.cells 0 = some b.pv := rfl
  rw [hpv] at hpp
  by_cases hlt : i < b.P.length
  · left
    have h1 : ((i : Int) < (b.P.length : Int)) := by omega
    obtain ⟨r2, o2, cs2, c2, hpv2, hcs2, hrn2, hel2, _, _⟩ := (hb.same hs hn).piece hlt
    rw [hpv2] at hpv
    cases hpv
    have hpc := hF.pc (List.getElem_mem hlt)
    have k40 := fun (h : Hp) (nx : Nat) (x lo hi : Int) => c40 hS (m := m) (h := h) (nx := nx) hm x lo hi
    generalize b.P[i] = x at *
    have b1 := inB_true hpc.1.1 hpc.1.2
    have b2 := inB_true hpc.2.1.1 hpc.2.1.2
    have b3 := inB_true hpc.2.2.1 hpc.2.2.2
    have hst := fun H : Hp => store_all (h := hset H nx' (.cells [vi 0, vi 0, vi 0, .bool false] none)) (r := nx') (l := x.row) (hget_same _ _) rfl
    simp only [Pc.row, hset_twice, List.length_cons, List.length_nil, Nat.reduceAdd, Nat.zero_add] at hst hel2
    refine ⟨hlt, z', _, _, _, (by simp (maxSteps := 10000000) (implicitDefEqProofs := false) (disch := omega) only [l35_0, e1, e3, e4, h1, hrow, hpp, hcs2, hel2, k40, b1, b2, b3, hst, storeO, log_own, bm, put_none2, Nat.reduceEqDiff, Nat.reduceLT, Nat.reduceAdd, Nat.reduceMul, Int.reduceToNat]; exact rfl), by omega, rfl, by omega, hs.set hn _, ?_, ?_, ?_⟩
    · simp only [pq, Nat.reduceEqDiff, e1]
    · simp only [pq, Nat.reduceEqDiff]
    · simp only [pq, Nat.reduceEqDiff]; rfl
  · right
    have h1 : ¬ ((i : Int) < (b.P.length : Int)) := by omega
    have e : ∃ vs2, sC Tryz.prog 154 154 (execL Tryz.prog vmL S m) l35_0 z' vs' h' nx' = .exi 0 z' vs2 h' nx' ∧ vs2 1 = vs' 1 ∧ vs2 3 = vs' 3 := by
      refine ⟨_, by simp (maxSteps := 10000000) (implicitDefEqProofs := false) (disch := omega) only [l35_0, e1, e3, e4, h1, hrow, hpp, bz, put_none2, Nat.reduceEqDiff, Nat.reduceLT, Nat.reduceAdd, Nat.reduceMul, Int.reduceToNat]; exact rfl, ?_, ?_⟩ <;> simp only [pg, Nat.reduceEqDiff]
    obtain ⟨vs2, e, q1, q3⟩ := e
    rw [e]
    exact ⟨trivial, vs2, _, _, rfl, hn, hs, q1.trans e1, q3.trans e3⟩
theorem loop35_1 {S : Kn} (hS : S.Only [22]) {m : Nat} (hm : 1 ≤ m) {k : Kd} {z : Z} {vs : Vs} {h : Hp} {nx p7 : Nat} (hk : k.Fine) (hz : Lst h nx 1 k.zv (ints k.zs)) (hr7 : rowL h p7 = some k.row)
    (g3 : vs 3 = some (.bool true)) (g7 : vs 7 = some (pt p7)) (g8 : vs 8 = some (vi 0)) {r : R} (hr : loopR (sC Tryz.prog 154 154 (execL Tryz.prog vmL S m) l35_1) z vs h nx = r) :
    ∃ vs', r = .exi 4 z vs' h nx ∧ vs' 1 = vs 1 ∧ vs' 3 = some (.bool true) ∧ vs' 6 = vs 6 := by
  subst hr
  refine loop_rule (Post := fun r => ∃ vs', r = .exi 4 z vs' h nx ∧ vs' 1 = vs 1 ∧ vs' 3 = some (.bool true) ∧ vs' 6 = vs 6)
    (fun i z' vs' h' nx' => i ≤ k.zs.length ∧ z' = z ∧ nx' = nx ∧ h' = h ∧ vs' 1 = vs 1 ∧ vs' 3 = some (.bool true) ∧ vs' 6 = vs 6 ∧ vs' 7 = some (pt p7) ∧ vs' 8 = some (vi (i : Int))) k.zs.length (by have := hk.z; omega)
    ⟨Nat.zero_le _, rfl, rfl, rfl, rfl, g3, rfl, g7, g8⟩ ?_
  rintro i z' vs' h' nx' ⟨hi, rfl, rfl, rfl, e1, e3, e6, e7, e8⟩
  have h5 := hk.z
  obtain ⟨a, c, hzv, _⟩ := hz.form
  have hil : (ints k.zs).length = k.zs.length := by simp [ints]
  rw [hil] at hzv
  have hpz : part1 false 1 k.row 2 = some k.zv := rfl
  rw [hzv] at hpz hz
  by_cases hlt : i < k.zs.length
  · left
    have h1 : ((i : Int) < (k.zs.length : Int)) := by omega
    obtain ⟨rr, o, cs, rfl, hrn, hcs, hel⟩ := ints_el hz hlt
    have hzr := hk.zo _ (List.getElem_mem hlt)
    have b1 := inB_true hzr.1 hzr.2
    have k40 := fun (h : Hp) (nx : Nat) (x lo hi : Int) => c40 hS (m := m) (h := h) (nx := nx) hm x lo hi
    refine ⟨hlt, z', _, _, _, (by simp (maxSteps := 10000000) (implicitDefEqProofs := false) (disch := omega) only [l35_1, e1, e3, e6, e7, e8, h1, hr7, hpz, hcs, hel, k40, b1, bz, put_none2, Nat.reduceEqDiff, Nat.reduceLT, Nat.reduceAdd, Nat.reduceMul, Int.reduceToNat]; exact rfl), by omega, rfl, rfl, rfl, ?_, ?_, ?_, ?_, ?_⟩
    · simp only [pq, Nat.reduceEqDiff, e1]
    · simp only [pq, Nat.reduceEqDiff]
    · simp only [pq, Nat.reduceEqDiff, e6]
    · simp only [pq, Nat.reduceEqDiff, e7]
    · simp only [pq, Nat.reduceEqDiff]; rfl
  · right
    have h1 : ¬ ((i : Int) < (k.zs.length : Int)) := by omega
    have e : ∃ vs2, sC Tryz.prog 154 154 (execL Tryz.prog vmL S m) l35_1 z' vs' h' nx' = .exi 4 z' vs2 h' nx' ∧ vs2 1 = vs' 1 ∧ vs2 3 = vs' 3 ∧ vs2 6 = vs' 6 := by
      refine ⟨_, by simp (maxSteps := 10000000) (implicitDefEqProofs := false) (disch := omega) only [l35_1, e1, e3, e6, e7, e8, h1, hr7, hpz, bz, put_none2, Nat.reduceEqDiff, Nat.reduceLT, Nat.reduceAdd, Nat.reduceMul, Int.reduceToNat]; exact rfl, ?_, ?_, ?_⟩ <;> simp only [pg, Nat.reduceEqDiff]
    obtain ⟨vs2, e, q1, q3, q6⟩ := e
    rw [e]
    exact ⟨trivial, vs2, rfl, q1.trans e1, q3.trans e3, q6.trans e6⟩
theorem loop35_2 {S : Kn} (hS : S.Only [22]) {m : Nat} (hm : 1 ≤ m) {b : Bk} {z : Z} {vs : Vs} {h : Hp} {nx p1 : Nat} (hF : b.Fine) (hb : b.At h nx) (hr1 : rowL h p1 = some b.cells) (hp1 : p1 < nx) (hz : z.n0 ≤ nx)
    (g1 : vs 1 = some (pt p1)) (g3 : vs 3 = some (.bool true)) (g6 : vs 6 = some (vi 0)) {r : R} (hr : loopR (sC Tryz.prog 154 154 (execL Tryz.prog vmL S m) l35_2) z vs h nx = r) :
    ∃ vs' h' nx', r = .exi 2 z vs' h' nx' ∧ nx ≤ nx' ∧ Same nx h h' ∧ vs' 1 = some (pt p1) ∧ vs' 3 = some (.bool true) := by
  subst hr
  refine loop_rule (Post := fun r => ∃ vs' h' nx', r = .exi 2 z vs' h' nx' ∧ nx ≤ nx' ∧ Same nx h h' ∧ vs' 1 = some (pt p1) ∧ vs' 3 = some (.bool true))
    (fun i z' vs' h' nx' => i ≤ b.K.length ∧ z' = z ∧ nx ≤ nx' ∧ Same nx h h' ∧ vs' 1 = some (pt p1) ∧ vs' 3 = some (.bool true) ∧ vs' 6 = some (vi (i : Int))) b.K.length (by have := hF.k4; omega)
    ⟨Nat.zero_le _, rfl, Nat.le_refl _, Same.refl _ _, g1, g3, g6⟩ ?_
  rintro i z' vs' h' nx' ⟨hi, rfl, hn, hs, e1, e3, e6⟩
  have h4 := hF.k4
  have hrow : rowL h' p1 = some b.cells := by rw [rowL_same hs hp1]; exact hr1
  have hb' := hb.same hs hn
  have hk' := hb'.k
  obtain ⟨ka, kc, hkv, _⟩ := hk'.form
  rw [List.length_map] at hkv
  have hpk : part1 false 1 b.cells 1 = some b.kv := rfl
  rw [hkv] at hpk hk'
  by_cases hlt : i < b.K.length
  · left
    have h1 : ((i : Int) < (b.K.length : Int)) := by omega
    obtain ⟨_, r2, o2, row, cs2, rfl, hrn2, hrow2, hrl2, hcs2, ho2, hseg2⟩ := hk'.load (i := i) (by simpa using hlt)
    rw [List.getElem?_map, List.getElem?_eq_getElem hlt] at hrow2
    cases hrow2
    have hel2 : part1 true 4 cs2 (o2 + i * 4) = some (.agg b.K[i].row.toArray) := part1_row (by omega) hseg2
    have hkf := hF.kind hlt
    have hzk := hb'.z _ (List.getElem_mem hlt)
    have k40 := fun (h : Hp) (nx : Nat) (x lo hi : Int) => c40 hS (m := m) (h := h) (nx := nx) hm x lo hi
    generalize b.K[i] = x at *
    have b1 := inB_true hkf.r1 hkf.r2
    have b2 := inB_true hkf.m1 hkf.m2
    have b3 := inB_true hkf.s1 hkf.s2
    obtain ⟨H, eH⟩ : ∃ q, q = hset h' nx' (.cells x.row none) := ⟨_, rfl⟩
    have hzH : Lst H (nx' + 1) 1 x.zv (ints x.zs) := hzk.same (by rw [eH]; exact (Same.refl nx' h').set (Nat.le_refl _) _) (by omega)
    have hr7 : rowL H nx' = some x.row := by rw [eH]; exact rowL_hset_same _ _
    have hst := fun H : Hp => store_all (h := hset H nx' (.cells [vi 0, vi 0, .slice none 0 0, vi 0] none)) (r := nx') (l := x.row) (hget_same _ _) rfl
    obtain ⟨za, zc, hzv, _⟩ := hzk.form
    have hzl : (ints x.zs).length = x.zs.length := by simp [ints]
    rw [hzl, hkf.z] at hzv
    have h55 : (((5 : Nat) : Int) == 5) = true := rfl
    have hr7e := hr7
    simp only [Kd.row, hset_twice, List.length_cons, List.length_nil, Nat.reduceAdd, Nat.zero_add, hzv] at hst hel2 eH hr7e
    have e : ∃ vs2, sC Tryz.prog 154 154 (execL Tryz.prog vmL S m) l35_2 z' vs' h' nx' = .nor z' vs2 H (nx' + 1) ∧ vs2 1 = vs' 1 ∧ vs2 3 = some (.bool true) ∧ vs2 6 = some (vi ((i + 1 : Nat) : Int)) := by
      simp (maxSteps := 10000000) (implicitDefEqProofs := false) (disch := omega) only [l35_2, s_loop, e1, e3, e6, h1, hrow, hpk, hcs2, hel2, k40, b1, b2, b3, h55, hst, storeO, log_own, ← eH, hr7e, bm, put_none2, Nat.reduceEqDiff, Nat.reduceLT, Nat.reduceAdd, Nat.reduceMul, Int.reduceToNat]
      generalize hr : loopR _ _ _ _ _ = r
      obtain ⟨vs1, rfl, q1, q3, q6⟩ := loop35_1 hS hm (k := x) (p7 := nx') hkf hzH hr7 (by rfl) (by rfl) (by rfl) hr
      have q6' : vs1 6 = some (vi (i : Int)) := by rw [q6]; simp only [pq, Nat.reduceEqDiff, e6]
      refine ⟨_, by simp (maxSteps := 10000000) (implicitDefEqProofs := false) (disch := omega) only [q6', bz, put_none2, Nat.reduceEqDiff, Nat.reduceLT, Nat.reduceAdd, Nat.reduceMul, Int.reduceToNat]; exact rfl, ?_, ?_, ?_⟩
      · simp only [pq, Nat.reduceEqDiff, q1, e1]
      · simp only [pq, Nat.reduceEqDiff, q3]
      · simp only [pq, Nat.reduceEqDiff]; rfl
    obtain ⟨vs2, e, q1, q3, q6⟩ := e
    exact ⟨hlt, z', vs2, H, nx' + 1, e, by omega, rfl, by omega, by rw [eH]; exact hs.set hn _, q1.trans e1, q3, q6⟩
  · right
    have h1 : ¬ ((i : Int) < (b.K.length : Int)) := by omega
    have e : ∃ vs2, sC Tryz.prog 154 154 (execL Tryz.prog vmL S m) l35_2 z' vs' h' nx' = .exi 2 z' vs2 h' nx' ∧ vs2 1 = vs' 1 ∧ vs2 3 = vs' 3 := by
      refine ⟨_, by simp (maxSteps := 10000000) (implicitDefEqProofs := false) (disch := omega) only [l35_2, e1, e3, e6, h1, hrow, hpk, bz, put_none2, Nat.reduceEqDiff, Nat.reduceLT, Nat.reduceAdd, Nat.reduceMul, Int.reduceToNat]; exact rfl, ?_, ?_⟩ <;> simp only [pg, Nat.reduceEqDiff]
    obtain ⟨vs2, e, q1, q3⟩ := e
    rw [e]
    exact ⟨trivial, vs2, _, _, rfl, hn, hs, q1.trans e1, q3.trans e3⟩
open Go Go.Proofs Go.Lm
set_option maxRecDepth 10000
set_option maxHeartbeats 8000000
theorem gone35_0 {ih : Rec} {z : Z} {vs : Vs} {h : Hp} {nx : Nat} {r : R} (g3 : vs 3 = some (.bool false)) (hr : loopR (sC Tryz.prog 154 154 ih l35_0) z vs h nx = r) : ∃ vs', r = .exi 0 z vs' h nx ∧ vs' 3 = some (.bool false) := by
  obtain ⟨v, e, _, q⟩ := exit35_0 (ih := ih) (z := z) (h := h) (nx := nx) g3
  rw [e] at hr
  exact ⟨v, hr.symm, q⟩
theorem gone35_2 {ih : Rec} {z : Z} {vs : Vs} {h : Hp} {nx : Nat} {r : R} (g3 : vs 3 = some (.bool false)) (hr : loopR (sC Tryz.prog 154 154 ih l35_2) z vs h nx = r) : ∃ vs', r = .exi 2 z vs' h nx ∧ vs' 3 = some (.bool false) := by
  obtain ⟨v, e, _, q⟩ := exit35_2 (ih := ih) (z := z) (h := h) (nx := nx) g3
  rw [e] at hr
  exact ⟨v, hr.symm, q⟩
theorem gone35_3 {ih : Rec} {z : Z} {vs : Vs} {h : Hp} {nx : Nat} {r : R} (g3 : vs 3 = some (.bool false)) (hr : loopR (sC Tryz.prog 154 154 ih l35_3) z vs h nx = r) : ∃ vs', r = .exi 6 z vs' h nx ∧ vs' 3 = some (.bool false) := by
  obtain ⟨v, e, _, q⟩ := exit35_3 (ih := ih) (z := z) (h := h) (nx := nx) g3
  rw [e] at hr
  exact ⟨v, hr.symm, q⟩
theorem loop35_3 {S : Kn} (hS : S.Only [22]) {m : Nat} (hm : 1 ≤ m) {b : Bk} {z : Z} {vs : Vs} {h : Hp} {nx p1 : Nat} (hF : b.Fine) (hb : b.At h nx) (hr1 : rowL h p1 = some b.cells)
    (g1 : vs 1 = some (pt p1)) (g3 : vs 3 = some (.bool true)) (g9 : vs 9 = some (vi 1)) (g10 : vs 10 = some (vi 0)) {r : R} (hr : loopR (sC Tryz.prog 154 154 (execL Tryz.prog vmL S m) l35_3) z vs h nx = r) :
    ∃ vs', r = .exi 6 z vs' h nx ∧ vs' 3 = some (.bool true) := by
  subst hr
  refine loop_rule (Post := fun r => ∃ vs', r = .exi 6 z vs' h nx ∧ vs' 3 = some (.bool true))
    (fun i z' vs' h' nx' => i ≤ b.S.length ∧ z' = z ∧ nx' = nx ∧ h' = h ∧ vs' 1 = some (pt p1) ∧ vs' 3 = some (.bool true) ∧ vs' 10 = some (vi (i : Int)) ∧ ∃ least : Int, vs' 9 = some (vi least) ∧ (∀ hi : i < b.S.length, least ≤ b.S[i])) b.S.length (by have := hF.s5; omega)
    ⟨Nat.zero_le _, rfl, rfl, rfl, g1, g3, g10, 1, g9, fun hi => (inB_iff (List.all_eq_true.1 hF.so _ (List.getElem_mem hi))).1⟩ ?_
  rintro i z' vs' h' nx' ⟨hi, rfl, rfl, rfl, e1, e3, e10, least, e9, el⟩
  have h5 := hF.s5
  have hs' := hb.s
  obtain ⟨a, c, hsv, _⟩ := hs'.form
  have hil : (ints b.S).length = b.S.length := by simp [ints]
  rw [hil] at hsv
  have hps : part1 false 1 b.cells 6 = some b.sv := rfl
  rw [hsv] at hps hs'
  by_cases hlt : i < b.S.length
  · left
    have h1 : ((i : Int) < (b.S.length : Int)) := by omega
    obtain ⟨rr, o, cs, rfl, hrn, hcs, hel⟩ := ints_el hs' hlt
    have hsr := inB_iff (List.all_eq_true.1 hF.so _ (List.getElem_mem hlt))
    have b1 := inB_true (el hlt) hsr.2
    have k40 := fun (h : Hp) (nx : Nat) (x lo hi : Int) => c40 hS (m := m) (h := h) (nx := nx) hm x lo hi
    refine ⟨hlt, z', _, _, _, (by simp (maxSteps := 10000000) (implicitDefEqProofs := false) (disch := omega) only [l35_3, e1, e3, e9, e10, h1, hr1, hps, hcs, hel, k40, b1, bz, put_none2, Nat.reduceEqDiff, Nat.reduceLT, Nat.reduceAdd, Nat.reduceMul, Int.reduceToNat]; exact rfl), by omega, rfl, rfl, rfl, ?_, ?_, ?_, b.S[i] + 1, ?_, fun h2 => ?_⟩
    · simp only [pq, Nat.reduceEqDiff, e1]
    · simp only [pq, Nat.reduceEqDiff]
    · simp only [pq, Nat.reduceEqDiff]; rfl
    · simp only [pq, Nat.reduceEqDiff]
    · have := (incB_iff b.S).1 hF.si i _ _ (List.getElem?_eq_getElem hlt) (List.getElem?_eq_getElem h2)
      omega
  · right
    have h1 : ¬ ((i : Int) < (b.S.length : Int)) := by omega
    have e : ∃ vs2, sC Tryz.prog 154 154 (execL Tryz.prog vmL S m) l35_3 z' vs' h' nx' = .exi 6 z' vs2 h' nx' ∧ vs2 3 = vs' 3 := by
      refine ⟨_, by simp (maxSteps := 10000000) (implicitDefEqProofs := false) (disch := omega) only [l35_3, e1, e3, e9, e10, h1, hr1, hps, bz, put_none2, Nat.reduceEqDiff, Nat.reduceLT, Nat.reduceAdd, Nat.reduceMul, Int.reduceToNat]; exact rfl, ?_⟩
      simp only [pg, Nat.reduceEqDiff]
    obtain ⟨vs2, e, q3⟩ := e
    rw [e]
    exact ⟨trivial, vs2, rfl, q3.trans e3⟩
theorem c35 {S : Kn} (hS : S.Only [22]) {m : Nat} (hm : 15 ≤ m) {b : Bk} {h : Hp} {nx : Nat} (hb : b.At h nx) : callF 35 [.agg b.cells.toArray] (execL Tryz.prog vmL S m) h nx = .gen (.bool b.valid) h nx [] := by
  refine fun35.ground (hS _ _ _ _ (by decide)) (by omega) rfl (by simp) ?_
  obtain ⟨H, eH⟩ : ∃ x, x = hset h nx (.cells b.cells none) := ⟨_, rfl⟩
  have hsm : Same nx h H := by rw [eH]; exact (Same.refl nx h).set (Nat.le_refl _) _
  have hb' := hb.same hsm (nx' := nx + 1) (by omega)
  have k15 := c15 hS (m := m - 1) (by omega) hb'
  have hrow : rowL H nx = some b.cells := by rw [eH]; exact rowL_hset_same _ _
  have hp7 : part1 true 7 b.cells 0 = some (.agg b.cells.toArray) := rfl
  have k40 := fun (h : Hp) (nx : Nat) (x lo hi : Int) => c40 hS (m := m - 1) (h := h) (nx := nx) (by omega) x lo hi
  rcases Bool.eq_false_or_eq_true b.valid with hv | hv
  · have hF := Bk.fine hv
    rw [hv, checkI_tt] at k15
    rw [hv]
    obtain ⟨pa, pc, hpv, _⟩ := hb.p.form
    rw [List.length_map] at hpv
    obtain ⟨ka, kc, hkv, _⟩ := hb.k.form
    rw [List.length_map] at hkv
    obtain ⟨sa, sc, hsv, _⟩ := hb.s.form
    have hsl : (ints b.S).length = b.S.length := by simp [ints]
    rw [hsl] at hsv
    have x0 : part1 false 1 b.cells 0 = some b.pv := rfl
    have x1 : part1 false 1 b.cells 1 = some b.kv := rfl
    have x2 : part1 false 1 b.cells 2 = some (vi b.grams) := rfl
    have x3 : part1 false 1 b.cells 3 = some (vi b.free) := rfl
    have x4 : part1 false 1 b.cells 4 = some (vi b.unit) := rfl
    have x5 : part1 false 1 b.cells 5 = some (vi b.fee) := rfl
    have x6 : part1 false 1 b.cells 6 = some b.sv := rfl
    rw [hpv] at x0
    rw [hkv] at x1
    rw [hsv] at x6
    have y0 := inB_true (lo := 1) (hi := 7) (x := (b.P.length : Int)) (by have := hF.p1; omega) (by have := hF.p7; omega)
    have y1 := inB_true (lo := 1) (hi := 4) (x := (b.K.length : Int)) (by have := hF.k1; omega) (by have := hF.k4; omega)
    have y2 := inB_true hF.g1 hF.g2
    have y3 := inB_true hF.f1 hF.f2
    have y4 := inB_true hF.u1 hF.u2
    have y5 := inB_true hF.e1 hF.e2
    have y6 := inB_true (lo := 1) (hi := 5) (x := (b.S.length : Int)) (by have := hF.s1; omega) (by have := hF.s5; omega)
    simp (maxSteps := 10000000) (implicitDefEqProofs := false) (disch := omega) only [s35, s_loop, ← eH, hrow, hp7, k15, show ((0 : Int) == 0) = true from rfl, x0, x1, x2, x3, x4, x5, x6, k40, y0, y1, y2, y3, y4, y5, y6, bz, put_none2, Nat.reduceEqDiff, Nat.reduceLT, Nat.reduceAdd, Nat.reduceMul, Int.reduceToNat]
    generalize hr : loopR _ _ _ _ _ = r
    obtain ⟨v1, h1, n1, rfl, hn1, hs1, q1, q3⟩ := loop35_0 hS (m := m - 1) (by omega) (b := b) (p1 := nx) (h := H) (nx := nx + 1) hF hb' hrow (by omega) (by show nx ≤ _; omega) rfl rfl rfl hr
    simp (maxSteps := 10000000) (implicitDefEqProofs := false) (disch := omega) only [s_loop, bz, put_none2, Nat.reduceEqDiff, Nat.reduceLT, Nat.reduceAdd, Nat.reduceMul, Int.reduceToNat]
    generalize hr2 : loopR _ _ _ _ _ = r2
    obtain ⟨v2, h2, n2, rfl, hn2, hs2, t1, t3⟩ := loop35_2 hS (m := m - 1) (by omega) (b := b) (p1 := nx) (h := h1) (nx := n1) hF (hb'.same hs1 hn1) (by rw [rowL_same hs1 (by omega)]; exact hrow) (by omega) (by show nx ≤ _; omega) (by simp only [pq, Nat.reduceEqDiff, q1]) (by simp only [pq, Nat.reduceEqDiff, q3]) (by simp only [pq, Nat.reduceEqDiff]) hr2
    simp (maxSteps := 10000000) (implicitDefEqProofs := false) (disch := omega) only [s_loop, bz, put_none2, Nat.reduceEqDiff, Nat.reduceLT, Nat.reduceAdd, Nat.reduceMul, Int.reduceToNat]
    generalize hr3 : loopR _ _ _ _ _ = r3
    have hb2 := (hb'.same hs1 hn1).same hs2 hn2
    obtain ⟨v3, rfl, w3⟩ := loop35_3 hS (m := m - 1) (by omega) (b := b) (p1 := nx) (h := h2) (nx := n2) hF hb2 (by rw [rowL_same hs2 (by omega), rowL_same hs1 (by omega)]; exact hrow) (by simp only [pq, Nat.reduceEqDiff, t1]) (by simp only [pq, Nat.reduceEqDiff, t3]) (by simp only [pq, Nat.reduceEqDiff]) (by simp only [pq, Nat.reduceEqDiff]) hr3
    exact ⟨_, _, by simp (maxSteps := 10000000) (implicitDefEqProofs := false) (disch := omega) only [w3, bz, put_none2, Nat.reduceEqDiff, Nat.reduceLT, Nat.reduceAdd, Nat.reduceMul, Int.reduceToNat]; rfl⟩
  · rw [hv, checkI_f] at k15
    rw [hv]
    simp (maxSteps := 10000000) (implicitDefEqProofs := false) (disch := omega) only [s35, s_loop, ← eH, hrow, hp7, k15, show ((60 : Int) == 0) = false from rfl, bz, put_none2, Nat.reduceEqDiff, Nat.reduceLT, Nat.reduceAdd, Nat.reduceMul, Int.reduceToNat]
    generalize hr : loopR _ _ _ _ _ = r
    obtain ⟨v1, rfl, q3⟩ := gone35_0 (by rfl) hr
    simp (maxSteps := 10000000) (implicitDefEqProofs := false) (disch := omega) only [s_loop, bz, put_none2, Nat.reduceEqDiff, Nat.reduceLT, Nat.reduceAdd, Nat.reduceMul, Int.reduceToNat]
    generalize hr2 : loopR _ _ _ _ _ = r2
    obtain ⟨v2, rfl, t3⟩ := gone35_2 (by simp only [pq, Nat.reduceEqDiff, q3]) hr2
    simp (maxSteps := 10000000) (implicitDefEqProofs := false) (disch := omega) only [s_loop, bz, put_none2, Nat.reduceEqDiff, Nat.reduceLT, Nat.reduceAdd, Nat.reduceMul, Int.reduceToNat]
    generalize hr3 : loopR _ _ _ _ _ = r3
    obtain ⟨v3, rfl, w3⟩ := gone35_3 (by simp only [pq, Nat.reduceEqDiff, t3]) hr3
    exact ⟨_, _, by simp (maxSteps := 10000000) (implicitDefEqProofs := false) (disch := omega) only [w3, bz, put_none2, Nat.reduceEqDiff, Nat.reduceLT, Nat.reduceAdd, Nat.reduceMul, Int.reduceToNat]; rfl⟩
section
variable {P : Program} {nv : Nat} {ih : Rec} {z : Z} {vs : Vs} {h : Hp} {nx : Nat}
theorem g_un (d : Option Nat) (op : Op) (b : Bool) : guardO P nv ih d op b z vs h nx (some undef) = .st z (put d undef vs) h nx := by cases b <;> rfl
theorem gq_un (b : List Nat) (k : Nat) (l : List SOp) (d : Option Nat) (op : Op) (y : Bool) : guardQ P nv ih b k l d op y z vs h nx (some undef) = qOps P nv ih b (k + 1) l z (put d undef vs) h nx := by cases y <;> rfl
end
def Stamped (S : Kn) : Prop := ∀ h nx, 1 ≤ nx → rowL h 0 = some limL → S 22 [] h nx = some (.bool true)
theorem c22 {S : Kn} (hK : Stamped S) {m : Nat} {h : Hp} {nx : Nat} (h1 : 1 ≤ nx) (hl : rowL h 0 = some limL) : callF 22 [] (execL Tryz.prog vmL S m) h nx = .gen (.bool true) h nx [] := known_ground (hK h nx h1 hl) rfl
open Go Go.Proofs Go.Lm
set_option maxRecDepth 10000
set_option maxHeartbeats 16000000
end Go.Proofs.YtcmkngajdckndaaGreatDoor
namespace Go
namespace Lm
open Go.RowKit
variable {P : Program}
theorem le_foldr {l : List Nat} {x : Nat} (h : x ∈ l) : x ≤ l.foldr Nat.max 0 := by
  induction l with
  | nil => cases h
  | cons y l ih =>
    rw [List.foldr_cons]
    rcases List.mem_cons.1 h with rfl | h
    · exact Nat.le_max_left _ _
    · exact Nat.le_trans (ih h) (Nat.le_max_right _ _)
def rowSize (o : Obj) : Nat := match o with | .cells cs _ _ => cs.size | _ => 0
def topOf (w : World) : Nat := (w.heap.toList.map rowSize).foldr Nat.max 0 + 1
theorem topOf_lt {w : World} {b : Nat} {cs : Array Value} {e fz} (h : w.heap[b]? = some (.cells cs e fz)) : cs.size < topOf w := by
  have hm : (.cells cs e fz : Obj) ∈ w.heap.toList := by
    rw [← Array.getElem?_toList] at h
    exact List.mem_of_getElem? h
  have := le_foldr (List.mem_map.2 ⟨_, hm, rfl⟩ : rowSize (.cells cs e fz) ∈ w.heap.toList.map rowSize)
  unfold topOf
  have e1 : rowSize (.cells cs e fz) = cs.size := rfl
  omega
def nnOf (w : World) : Nat := w.heap.size + 2
def argOf (w : World) : Nat := nnOf w * topOf w
theorem nn_le (w : World) : nnOf w ≤ argOf w := by
  unfold argOf
  exact Nat.le_mul_of_pos_right _ (by unfold topOf; omega)
abbrev worldLo (w : World) (hs : NG ≤ w.heap.size) : Lo where
  lo := fun r => if r < argOf w then r / nnOf w else 0
  arg := argOf w
  new := fun r h => if_neg (Nat.not_lt.2 h)
  gl := fun g hg => by
    have : g / nnOf w = 0 := Nat.div_eq_of_lt (by unfold nnOf; omega)
    simp [this]
  odd := w.heap.size + 1
  oddlt := Nat.lt_of_lt_of_le (by unfold nnOf; omega) (nn_le w)
def renOf (w : World) : Ren := ⟨fun r => if r < argOf w ∧ r % nnOf w < w.heap.size then some (r % nnOf w) else none, fun _ => 0⟩
def markOf (w : World) (b o : Nat) : Nat := o * nnOf w + b
theorem mark_ok {w : World} {b o : Nat} (hb : b < w.heap.size) (ho : o < topOf w) : markOf w b o < argOf w ∧ markOf w b o % nnOf w = b ∧ markOf w b o / nnOf w = o := by
  have hn : b < nnOf w := by unfold nnOf; omega
  refine ⟨?_, ?_, ?_⟩
  · have h1 : (o + 1) * nnOf w ≤ topOf w * nnOf w := Nat.mul_le_mul_right _ ho
    rw [Nat.succ_mul] at h1
    unfold markOf argOf
    rw [Nat.mul_comm (nnOf w)]
    omega
  · unfold markOf
    rw [Nat.add_comm, Nat.add_mul_mod_self_right]
    exact Nat.mod_eq_of_lt hn
  · unfold markOf
    rw [Nat.add_comm, Nat.add_mul_div_right _ _ (by omega), Nat.div_eq_of_lt hn, Nat.zero_add]
def encV (w : World) (v : Value) : Option Value :=
  match v with
  | .bool b => some (.bool b)
  | .int k n => some (.int k n)
  | .slice none n c => some (.slice none n c)
  | .slice (some a) n c => if n = 0 ∧ c = 0 then some (.slice (some ⟨w.heap.size + 1, 0, none⟩) 0 0)
      else if a.spot = none ∧ a.block < w.heap.size ∧ a.off < topOf w ∧ c < HALF ∧ n ≤ c then some (.slice (some ⟨markOf w a.block a.off, a.off, none⟩) n c) else none
  | _ => none
theorem enc_one {w : World} {v x : Value} (h : encV w v = some x) : x.oneCell' = true := by
  unfold encV at h
  split at h
  · cases h; rfl
  · cases h; rfl
  · cases h; rfl
  · split at h
    · cases h; rfl
    · split at h
      · cases h; rfl
      · cases h
  · cases h
theorem enc_vr {w : World} (hs : NG ≤ w.heap.size) {v x : Value} (h : encV w v = some x) : @VR (worldLo w hs) (renOf w) x v := by
  letI := worldLo w hs
  unfold encV at h
  split at h
  · cases h; exact .bool _
  · cases h; exact .int _ _
  · cases h; exact .slice0 _ _
  · rename_i a n c
    split at h
    · rename_i q
      obtain ⟨rfl, rfl⟩ := q
      cases h
      exact VR.sliceW a
    · split at h
      · rename_i q
        obtain ⟨q1, q2, q3, q4, q5⟩ := q
        cases h
        obtain ⟨m1, m2, m3⟩ := mark_ok q2 q3
        obtain ⟨b, o, s⟩ := a
        simp only at q1 q2 q3 m1 m2 m3
        subst q1
        refine VR.slice o n ?_ ?_ (.inl ⟨q4, rfl⟩) q5
        · show (if markOf w b o < argOf w ∧ markOf w b o % nnOf w < w.heap.size then some (markOf w b o % nnOf w) else none) = some b
          rw [if_pos ⟨m1, by rw [m2]; exact q2⟩, m2]
        · show (if markOf w b o < argOf w then markOf w b o / nnOf w else 0) ≤ o
          rw [if_pos m1, m3]
          exact Nat.le_refl _
      · cases h
  · cases h
def junkV : Value := .bool false
def cellsW (w : World) (o : Nat) (cs : Array Value) : List Value := List.replicate (min o cs.size) junkV ++ ((cs.toList.drop o).takeWhile fun v => (encV w v).isSome).map fun v => (encV w v).getD junkV
def rowW (w : World) (r : Nat) : Row := if r < argOf w ∧ r % nnOf w < w.heap.size then (match w.heap[r % nnOf w]? with | some (.cells cs _ _) => .ro (cellsW w (r / nnOf w) cs) | _ => .dead) else .dead
def hpW (w : World) : Hp := fun r => some (rowW w r)
theorem tw_len {α : Type} (p : α → Bool) (l : List α) : (l.takeWhile p).length ≤ l.length := (List.takeWhile_prefix p).length_le
theorem tw_get {α : Type} (p : α → Bool) : ∀ (l : List α) (i : Nat) (x : α), (l.takeWhile p)[i]? = some x → l[i]? = some x ∧ p x = true := by
  intro l
  induction l with
  | nil => intro i x h; simp at h
  | cons y l ih =>
    intro i x h
    rw [List.takeWhile_cons] at h
    split at h
    · rename_i hy
      cases i with
      | zero => simp at h; subst h; exact ⟨rfl, hy⟩
      | succ i => exact ih i x (by simpa using h)
    · simp at h
theorem tw_up {α : Type} (p : α → Bool) : ∀ (l : List α) (k : Nat), (∀ i, i < k → ∃ x, l[i]? = some x ∧ p x = true) → ∀ i, i < k → (l.takeWhile p)[i]? = l[i]? := by
  intro l
  induction l with
  | nil => intro k h i hi; obtain ⟨x, hx, _⟩ := h i hi; simp at hx
  | cons y l ih =>
    intro k h i hi
    obtain ⟨x, hx, hp⟩ := h 0 (by omega)
    simp at hx
    subst hx
    rw [List.takeWhile_cons, if_pos hp]
    cases i with
    | zero => rfl
    | succ i =>
      simp only [List.getElem?_cons_succ]
      exact ih (k - 1) (fun j hj => by
        obtain ⟨x, h1, h2⟩ := h (j + 1) (by omega)
        exact ⟨x, by simpa using h1, h2⟩) i (by omega)
theorem celX_world {w : World} (hs : NG ≤ w.heap.size) {o : Nat} {cs : Array Value} (ho : o ≤ cs.size ∨ cs.size ≤ o) : @CelX (worldLo w hs) (renOf w) o (cellsW w o cs) cs := by
  letI := worldLo w hs
  refine ⟨?_, fun i x hx => ?_, fun i x hi hx => ?_⟩
  · unfold cellsW
    rw [List.length_append, List.length_replicate, List.length_map]
    have := tw_len (fun v => (encV w v).isSome) (cs.toList.drop o)
    rw [List.length_drop] at this
    simp at this ⊢
    omega
  · unfold cellsW at hx
    rw [List.getElem?_append] at hx
    split at hx
    · have := List.mem_of_getElem? hx
      rw [List.mem_replicate] at this
      rw [this.2]; rfl
    · rw [List.getElem?_map] at hx
      cases hq : ((cs.toList.drop o).takeWhile fun v => (encV w v).isSome)[i - (List.replicate (min o cs.size) junkV).length]? with
      | none => rw [hq] at hx; cases hx
      | some v =>
        rw [hq] at hx
        obtain ⟨_, h2⟩ := tw_get _ _ _ _ hq
        obtain ⟨y, hy⟩ := Option.isSome_iff_exists.1 h2
        simp only [Option.map_some, hy, Option.getD_some, Option.some.injEq] at hx
        subst hx
        exact enc_one hy
  · unfold cellsW at hx
    rw [List.getElem?_append, List.length_replicate] at hx
    have hlt : ¬ i < min o cs.size := by omega
    rw [if_neg hlt, List.getElem?_map] at hx
    cases hq : ((cs.toList.drop o).takeWhile fun v => (encV w v).isSome)[i - min o cs.size]? with
    | none => rw [hq] at hx; cases hx
    | some v =>
      rw [hq] at hx
      obtain ⟨h1, h2⟩ := tw_get _ _ _ _ hq
      obtain ⟨y, hy⟩ := Option.isSome_iff_exists.1 h2
      simp only [Option.map_some, hy, Option.getD_some, Option.some.injEq] at hx
      subst hx
      rw [List.getElem?_drop] at h1
      have hol : o < cs.size := by
        have := (List.getElem?_eq_some_iff.1 h1).1
        simp at this; omega
      rw [Nat.min_eq_left (by omega)] at h1
      refine ⟨v, ?_, enc_vr hs hy⟩
      rw [show o + (i - o) = i by omega] at h1
      rw [← Array.getElem?_toList]; exact h1
theorem hr_world {w : World} (hs : NG ≤ w.heap.size) : @HR (worldLo w hs) (renOf w) (hpW w) w := by
  letI := worldLo w hs
  have valid : ∀ {r b : Nat}, (renOf w).blk r = some b → (r < argOf w ∧ r % nnOf w < w.heap.size) ∧ b = r % nnOf w := fun {r b} h => by
    unfold renOf at h
    simp only at h
    split at h
    · rename_i q; cases h; exact ⟨q, rfl⟩
    · cases h
  refine ⟨fun r b x hb hx hn => ?_, fun r s b hr hs' lr ls => ?_, fun r b hb => ?_, fun x hx => ?_⟩
  · obtain ⟨q, rfl⟩ := valid hb
    have hx' : x = rowW w r := (Option.some.inj hx).symm
    unfold rowW at hx'
    rw [if_pos q] at hx'
    split at hx'
    · rename_i cs e fz heq
      subst hx'
      refine ⟨_, heq, cs, e, fz, rfl, ?_⟩
      have : Lo.lo r = r / nnOf w := by show (if r < argOf w then r / nnOf w else 0) = _; rw [if_pos q.1]
      rw [this]
      exact celX_world hs (Nat.le_total _ _)
    · exact (hn hx').elim
  · exfalso
    obtain ⟨x, h1, h2, h3⟩ := ls
    have hx' : x = rowW w s := (Option.some.inj h1).symm
    unfold rowW at hx'
    split at hx'
    · split at hx'
      · exact h3 _ hx'
      · exact h2 hx'
    · exact h2 hx'
  · obtain ⟨q, rfl⟩ := valid hb
    exact q.2
  · have hx' : x = rowW w (w.heap.size + 1) := (Option.some.inj hx).symm
    rw [hx']
    unfold rowW
    rw [if_neg]
    intro q
    have : (w.heap.size + 1) % nnOf w = w.heap.size + 1 := Nat.mod_eq_of_lt (by unfold nnOf; omega)
    omega
theorem run_world (hm : P.follows .mixedOrders = true) {nvs : List (Nat × Nat)} {w : World} (hs : NG ≤ w.heap.size) {S : Kn} (hS : @Kn.Ok (worldLo w hs) P S) {m : Nat} {f : FuncId} {us : List Value} {v : Value} {args' : Array Value}
    (hrun : callF f us (execL P nvs S m) (hpW w) (argOf w) = .gen v (hpW w) (argOf w) []) (hgr : ground v = true) (hv : @VL (worldLo w hs) (renOf w) us args'.toList) :
    Calls P f args' w fun e w' => e = .returned v ∧ Below w.heap.size w w' := by
  letI := worldLo w hs
  have hd : Dom (renOf w) (argOf w) := ⟨Nat.le_refl _, fun r b hb => by
    unfold renOf at hb
    simp only at hb
    split at hb
    · rename_i q; exact q.1
    · cases hb⟩
  have hgl : ∀ g, g < NG → (renOf w).blk g = some g := fun g hg => by
    unfold renOf
    have h1 : g % nnOf w = g := Nat.mod_eq_of_lt (by unfold nnOf; omega)
    have h2 : g < argOf w := Nat.lt_of_lt_of_le (by unfold nnOf; omega) (nn_le w)
    simp only
    rw [if_pos ⟨h2, by rw [h1]; omega⟩, h1]
  have hc := callF_ok (execL_ok (nvs := nvs) (draw_ok hm) hS m) (hr_world hs) hd hgl wd_wide hv (f := f)
  rw [hrun] at hc
  refine (callsIn_wide.1 hc).mono fun e w' q => ?_
  obtain ⟨v', R', h1, h2, h3⟩ := q
  have := ground_eq hgr h2
  subst this
  exact ⟨h1, h3.os, h3.tape, h3.output, h3.size, fun k hk => h3.kept k hk fun m hm => by simp at hm⟩
end Lm
end Go
