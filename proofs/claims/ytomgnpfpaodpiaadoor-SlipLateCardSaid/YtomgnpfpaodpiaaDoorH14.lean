/- What produces loads: its contract. -/
import Derived.Test.YtomgnpfpaodpiaaDoorH13
set_option linter.unusedVariables false
set_option linter.unusedSimpArgs false
namespace Go.Proofs.YtomgnpfpaodpiaaDoor
open Go Go.RowKit Go.Shelf
set_option maxHeartbeats 2000000
attribute [local go_sem] Oper.semAt_some
abbrev Floor.cells (f : Floor) : List Value := [.slice f.fA f.far.length f.fC, vi f.slo, vi f.shi, .slice f.pA f.picks.length f.pC, vi f.carry, .slice f.sA f.slips.length f.sC]
/-- what loads holds -/
structure LoadsAt (w : World) (bF bn : Nat) (f : Floor) (n : Nat) : Prop where
  cF : CellsBox w bF 89 f.cells
  cn : CellsBox w bn 3 [vi n]
abbrev loadsV (bF bn : Nat) : Value := .func (.func 94) #[] #[.pointer (some ⟨bF, 0, none⟩), .pointer (some ⟨bn, 0, none⟩)]
theorem loads_any (f : Floor) (n : Nat) (w : World) :
    Calls Tryd.prog 63 #[f.val, vi n] w fun e w' => ∃ bF bn, e = .returned (loadsV bF bn) ∧ (w.heap.size ≤ bF ∧ w.heap.size ≤ bn) ∧ LoadsAt w' bF bn f n ∧ Below w.heap.size w w' := by
  obtain ⟨fA, fC, ff, slo, shi, pA, pC, fp, fc, sA, sC, fs⟩ := f
  show Calls Tryd.prog 63 #[.agg #[.slice fA ff.length fC, vi slo, vi shi, .slice pA fp.length pC, vi fc, .slice sA fs.length sC], vi n] w _
  go_enter Tryd.func63, Tryd.ntmps63
  have X1 := CellsBox.new w 89 [.slice fA ff.length fC, vi slo, vi shi, .slice pA fp.length pC, vi fc, .slice sA fs.length sC]
  have X2 := X1.alloc (.cells #[vi n] 3)
  have X3 := CellsBox.new (w.alloc (.cells #[.slice fA ff.length fC, vi slo, vi shi, .slice pA fp.length pC, vi fc, .slice sA fs.length sC] 89)) 3 [vi n]
  have HX2 := Lib.hid X2
  have HX3 := Lib.hid X3
  clear X1 X2 X3
  go_wp2
  go_ret
  refine ⟨_, _, rfl, ⟨Nat.le_refl _, by omega⟩, ⟨HX2.out, ?_⟩, ?_⟩
  · simpa using HX3.out
  · (repeat (first | exact Below.refl _ _ | refine Below.setCell ?_ (by first | omega | (simp; omega) | (simp; done)) _ | refine Below.alloc ?_ (by first | omega | (simp; omega) | (simp; done)) _ | refine Below.drew ?_ | refine below_drewN ?_ _ | refine Below.trans ?_ (Below.mono (by assumption) (by first | omega | (simp; omega) | (simp; done)))))
def sumOf (b : Nat) (W : World) : Nat := (((List.range 12).map fun j => intOf ((W.cell? ⟨b, j, none⟩).getD undef)).sum).toNat
theorem sumOf_is {W : World} {b : Nat} {p : List Int} (h : ArrAt W b p) : sumOf b W = p.sum.toNat := by
  have hl := h.len
  have hc := h.cell
  obtain ⟨r0, r1, r2, r3, r4, r5, r6, r7, r8, r9, r10, r11, rfl⟩ := spread hl
  have e : (List.range 12) = [0, 1, 2, 3, 4, 5, 6, 7, 8, 9, 10, 11] := by decide
  unfold sumOf
  rw [e]
  simp [hc, intOf]
set_option maxRecDepth 100000 in
theorem loads1_any (f : Floor) (c m : Nat) (hc : f.carry = c) (hc1 : 1 ≤ c) (hc2 : c ≤ 20) (s : SSlip) (hs : f.slips[m]? = some s) (hok : LinesOk s.lines) (htw : Twelve 12000 (piecesF s.lines)) (ho : Only f.far.length (piecesF s.lines)) (fuel : Nat) (hfuel : (piecesF s.lines).sum ≤ fuel)
    (all : List (List Int)) (hall : loadsF c fuel (piecesF s.lines) = all) (et : TypeId) (t1 : 89 ≠ et) (t2 : 3 ≠ et) (t3 : 102 ≠ et)
    (n : Nat) (hn : 1 ≤ n) (l bF bn n₀ B₀ L : Nat) (J : List (Load f.far.length c) → World → Prop) (W : World)
    (hJ : OwnE 102 W.heap.size J)
    (hY : ∀ pre x W1, J pre W1 → pre.length < all.length → YieldAt Fence.wide (n - 1) Tryd.prog l x.enc W1 fun e W' => e = .returned (.bool true) ∧ J (pre ++ [x]) W' ∧ KE et n₀ L W1 W' ∧ KeepsFrom W.heap.size W1 W')
    (hn₀ : n₀ ≤ W.heap.size) (hB₀ : B₀ ≤ n₀) (hBL : B₀ ≤ L) (hL : L < W.heap.size) (lF : bF ≠ L) (ln : bn ≠ L)
    (hA : LoadsAt W bF bn f m) (hI : FloorAt W B₀ f) (h0 : J [] W) :
    CallsIn Fence.wide n Tryd.prog 94 #[.func (.yield l) #[] #[], .pointer (some ⟨bF, 0, none⟩), .pointer (some ⟨bn, 0, none⟩)] W fun e W' => (∃ v, e = .returned v) ∧
      ∃ ys, Loads ys = all ∧ J ys W' := by
  have hsll := hI.slips.lens
  have HI := Lib.hid hI
  have HA := Lib.hid hA
  obtain ⟨bs, os, hsA, hbs, s0, s1⟩ := row2 hI.slips.row hs rfl
  have HSL := Lib.hid (hI.each s (List.mem_of_getElem? hs))
  have hml : (m : Int) < f.slips.length := by have := (List.getElem?_eq_some_iff.1 hs).1; omega
  have h0m : (0 : Int) ≤ m := by omega
  have zbs : bs < W.heap.size := cell_lt s0
  have zF := hA.cF.lt
  have zn := hA.cn.lt
  have f0 := hA.cF.cell (j := 0) rfl
  have f1 := hA.cF.cell (j := 1) rfl
  have f2 := hA.cF.cell (j := 2) rfl
  have f3 := hA.cF.cell (j := 3) rfl
  have f4 := hA.cF.cell (j := 4) rfl
  have f5 := hA.cF.cell (j := 5) rfl
  have fn0 := hA.cn.cell (j := 0) rfl
  obtain ⟨p, hp⟩ : ∃ p, piecesF s.lines = p := ⟨_, rfl⟩
  rw [hp] at htw ho hfuel hall
  have PO := Lib.hid (fun (A : Option Addr) (cap : Nat) (W : World) hW => piecesOf_is hp hok A cap W hW)
  have M0 : Hid (Mid c f.far.length all [] p fuel) := by rw [← hall]; exact Mid.start htw ho hfuel
  have FA := Lib.hid (fun (q r : List Int) (hq : Twelve 12000 q) (hr : farthestF c q = r) (W : World) => (show Calls Tryd.prog 95 #[f.val, piecesV q] W fun e w' => e = .returned (piecesV r) ∧ Below W.heap.size W w' from hr ▸ farthest_any f c hc (by omega) q (hq.wide (by omega)) W))
  obtain ⟨n0, n1, n2, n3, n4, n5, n6, n7, n8, n9, n10, n11, hpp⟩ := spread htw.len
  rw [hpp] at M0 PO
  clear hpp htw ho hfuel hall hok hp hs hA hI
  refine callsIn_of_wp Tryd.func94 rfl trivial ?_ rfl
  simp only [Tryd.ntmps94, List.size_toArray, List.length_cons, List.length_nil, Nat.reduceAdd, Nat.reduceSub, Array.replicate_succ, Array.replicate_zero, List.push_toArray, List.append_toArray, List.nil_append, List.cons_append]
  obtain ⟨sa, sc, sl, till⟩ := s
  simp only at PO HSL
  replace s0 : W.cell? ⟨bs, os + m * 2, none⟩ = some (.slice sa sl.length sc) := s0
  obtain ⟨fA, fC, ff, slo, shi, pA, pC, fp, fc, sA, sC, fs⟩ := f
  simp only at hsll hml hsA hc f0 f1 f2 f3 f4 f5
  subst hsA hc
  gi_wp2_with fail
  refine ⟨trivial, ?_⟩
  refine (callsIn_wide.2 (PO.out sa sc _ ((HSL.out.below (Below.refl _ _)).more (by omega)))).mono ?_
  rintro e W1 ⟨rfl, hb⟩
  have hz1 := hb.size
  have hA1 := Lib.hid (hJ.below h0 hb)
  have HA1 : Hid (LoadsAt W1 bF bn _ m) := ⟨HA.out.cF.keep hb, HA.out.cn.keep hb⟩
  clear hb s0 s1 f0 f1 f2 f3 f4 f5 fn0 h0 PO
  gi_wp2_with fail
  gi_loopw [5] (fun x wr => ∃ (left : List Int) (ys : List (Load ff.length c)) (fu : Nat), Hid (Mid c ff.length all (Loads ys) left fu) ∧ J ys wr ∧ KE et n₀ L W1 wr ∧ W1.heap.size + 1 ≤ wr.heap.size ∧ CellsBox wr W1.heap.size 102 (left.map vi)) (fun _ wr => sumOf W1.heap.size wr)
  case atStart =>
    have hb0 : ∀ o, Below W1.heap.size W1 (W1.alloc o) := fun o => (Below.refl W1.heap.size W1).alloc (Nat.le_refl _) o
    exact ⟨[n0, n1, n2, n3, n4, n5, n6, n7, n8, n9, n10, n11], [], fuel, M0.out, hJ.below hA1.out (hb0 _), ke_of_below (hb0 _) (by omega), by simp, CellsBox.new W1 _ [vi n0, vi n1, vi n2, vi n3, vi n4, vi n5, vi n6, vi n7, vi n8, vi n9, vi n10, vi n11]⟩
  case round =>
    obtain ⟨left, ys, fu, HM, hJs, hK, hsz, hX⟩ := hrel
    have hXA := hX.arr HM.out.tw.len
    have hgd : Tryd.prog.eqGuardType Tryd.prog.depth 102 = false := by kernel_rfl
    have hll := HM.out.tw.len
    have HAr : Hid (LoadsAt wr bF bn _ m) := ⟨hK.box lF t1 HA1.out.cF, hK.box ln t2 HA1.out.cn⟩
    have HJs := Lib.hid hJs
    have HX := Lib.hid hX
    by_cases hzz : left = [0, 0, 0, 0, 0, 0, 0, 0, 0, 0, 0, 0]
    · subst hzz
      have HD := HM.out.done
      obtain ⟨c0, c1, c2, c3, c4, c5, c6, c7, c8, c9, c10, c11⟩ := hXA.cells
      have heq : ∀ w : World, (binOp .neq 102 (.agg #[vi 0, vi 0, vi 0, vi 0, vi 0, vi 0, vi 0, vi 0, vi 0, vi 0, vi 0, vi 0]) (.agg #[vi 0, vi 0, vi 0, vi 0, vi 0, vi 0, vi 0, vi 0, vi 0, vi 0, vi 0, vi 0])).run Tryd.prog w = .ok (.bool false) w := fun w => by
        have := eq12 (x := [0, 0, 0, 0, 0, 0, 0, 0, 0, 0, 0, 0]) (y := [0, 0, 0, 0, 0, 0, 0, 0, 0, 0, 0, 0]) rfl rfl 9998 w
        rw [run_neq_struct]
        change Result.andThen ((Op.equalIn (9998 + 2) 102 (.agg (List.map vi [0, 0, 0, 0, 0, 0, 0, 0, 0, 0, 0, 0]).toArray) (.agg (List.map vi [0, 0, 0, 0, 0, 0, 0, 0, 0, 0, 0, 0]).toArray)).run Tryd.prog w) _ = _
        rw [this]
        rfl
      clear hX hXA hJs HM
      gi_wp2
      go_end0
      exact ⟨⟨_, rfl⟩, ys, HD, HJs.out⟩
    · obtain ⟨q, r, fu', hq, hr, htq, honq, hlt, hr0, hlen, HM2⟩ := HM.out.next hc1 hzz
      obtain ⟨m0, m1, m2, m3, m4, m5, m6, m7, m8, m9, m10, m11, rfl⟩ := spread hll
      obtain ⟨d0, d1, d2, d3, d4, d5, d6, d7, d8, d9, d10, d11, rfl⟩ := spread htq.len
      have hrl := HM2.tw.len
      obtain ⟨e0, e1, e2, e3, e4, e5, e6, e7, e8, e9, e10, e11, rfl⟩ := spread hrl
      have heq : ∀ w : World, (binOp .neq 102 (.agg #[vi m0, vi m1, vi m2, vi m3, vi m4, vi m5, vi m6, vi m7, vi m8, vi m9, vi m10, vi m11]) (.agg #[vi 0, vi 0, vi 0, vi 0, vi 0, vi 0, vi 0, vi 0, vi 0, vi 0, vi 0, vi 0])).run Tryd.prog w = .ok (.bool true) w := fun w => by
        have := eq12 (x := [m0, m1, m2, m3, m4, m5, m6, m7, m8, m9, m10, m11]) (y := [0, 0, 0, 0, 0, 0, 0, 0, 0, 0, 0, 0]) rfl rfl 9998 w
        rw [run_neq_struct]
        change Result.andThen ((Op.equalIn (9998 + 2) 102 (.agg (List.map vi [m0, m1, m2, m3, m4, m5, m6, m7, m8, m9, m10, m11]).toArray) (.agg (List.map vi [0, 0, 0, 0, 0, 0, 0, 0, 0, 0, 0, 0]).toArray)).run Tryd.prog w) _ = _
        rw [this, decide_eq_false hzz]
        rfl
      have g0 := HAr.out.cF.cell (j := 0) rfl
      have g1 := HAr.out.cF.cell (j := 1) rfl
      have g2 := HAr.out.cF.cell (j := 2) rfl
      have g3 := HAr.out.cF.cell (j := 3) rfl
      have g4 := HAr.out.cF.cell (j := 4) rfl
      have g5 := HAr.out.cF.cell (j := 5) rfl
      have zF2 := HAr.out.cF.lt
      have FA1 := Lib.hid (fun W => FA.out [m0, m1, m2, m3, m4, m5, m6, m7, m8, m9, m10, m11] [d0, d1, d2, d3, d4, d5, d6, d7, d8, d9, d10, d11] HM.out.tw hq W)
      have hpb : ∀ x ∈ [m0, m1, m2, m3, m4, m5, m6, m7, m8, m9, m10, m11], -1152921504606846976 ≤ x ∧ x ≤ 1152921504606846976 := fun x hx => by
        have := HM.out.tw.pos x hx; have := HM.out.tw.top x hx; omega
      have hqb : ∀ x ∈ [d0, d1, d2, d3, d4, d5, d6, d7, d8, d9, d10, d11], -1000000 ≤ x ∧ x ≤ 1000000 := fun x hx => by
        have := htq.pos x hx; have := htq.top x hx; omega
      have WO := Lib.hid (fun (W : World) => without_is hr rfl rfl hpb hqb W)
      have HLT := Lib.hid hlt
      have HR0 := Lib.hid hr0
      have HM2 := Lib.hid HM2
      have HTQ := Lib.hid htq
      obtain ⟨c0, c1, c2, c3, c4, c5, c6, c7, c8, c9, c10, c11⟩ := hXA.cells
      have HXA := Lib.hid hXA
      clear hX hXA hJs hr hq hpb hqb hlt hr0 hrl hll hzz htq
      gi_wp2_with fail
      refine ⟨trivial, ?_⟩
      refine (callsIn_wide.2 (FA1.out _)).mono ?_
      rintro e W2 ⟨rfl, hb2⟩
      have hz2 := hb2.size
      have hb3 : Below wr.heap.size wr (W2.alloc (.cells #[vi d0, vi d1, vi d2, vi d3, vi d4, vi d5, vi d6, vi d7, vi d8, vi d9, vi d10, vi d11] 102)) := hb2.alloc hz2 _
      have HXb := Lib.hid (HX.out.keep hb3)
      have HLd := Lib.hid (CellsBox.new W2 102 [vi d0, vi d1, vi d2, vi d3, vi d4, vi d5, vi d6, vi d7, vi d8, vi d9, vi d10, vi d11])
      obtain ⟨fn, tmps, assign, body, hy, hR⟩ := hY ys ⟨[d0, d1, d2, d3, d4, d5, d6, d7, d8, d9, d10, d11], HTQ.out, honq⟩ (W2.alloc (.cells #[vi d0, vi d1, vi d2, vi d3, vi d4, vi d5, vi d6, vi d7, vi d8, vi d9, vi d10, vi d11] 102)) (hJ.below HJs.out hb3) (by simpa using hlen)
      replace hy : (Instr.yield l #[.agg #[vi d0, vi d1, vi d2, vi d3, vi d4, vi d5, vi d6, vi d7, vi d8, vi d9, vi d10, vi d11]]).run Tryd.prog (W2.alloc (.cells #[vi d0, vi d1, vi d2, vi d3, vi d4, vi d5, vi d6, vi d7, vi d8, vi d9, vi d10, vi d11] 102)) = .ok (.round l fn tmps assign body) (W2.alloc (.cells #[vi d0, vi d1, vi d2, vi d3, vi d4, vi d5, vi d6, vi d7, vi d8, vi d9, vi d10, vi d11] 102)) := hy
      have HK3 : Hid (KE et n₀ L W1 (W2.alloc (.cells #[vi d0, vi d1, vi d2, vi d3, vi d4, vi d5, vi d6, vi d7, vi d8, vi d9, vi d10, vi d11] 102))) := hK.trans (ke_of_below hb3 (by omega))
      clear hb2 hb3 c0 c1 c2 c3 c4 c5 c6 c7 c8 c9 c10 c11 g0 g1 g2 g3 g4 g5 heq FA1
      gi_wp2
      refine hR.mono ?_
      clear hy
      rintro e W3 ⟨rfl, hJ3, hk3, -⟩
      have hk9 := hk3.size
      have HX3 := Lib.hid (hk3.box (by omega) t3 HXb.out)
      have HL3 := Lib.hid (hk3.box (by simp; omega) t3 HLd.out)
      have HJ3 := Lib.hid hJ3
      have HK4 : Hid (KE et n₀ L W1 W3) := HK3.out.trans hk3
      have zl := HL3.out.lt
      have zx := HX3.out.lt
      obtain ⟨c0, c1, c2, c3, c4, c5, c6, c7, c8, c9, c10, c11⟩ := (HX3.out.arr rfl).cells
      obtain ⟨p0, p1, p2, p3, p4, p5, p6, p7, p8, p9, p10, p11⟩ := (HL3.out.arr rfl).cells
      simp only [World.size_alloc] at hk9
      clear hJ3 hk3
      gi_wp2
      refine ⟨trivial, ?_⟩
      refine (callsIn_wide.2 (WO.out _)).mono ?_
      rintro e W4 ⟨rfl, hb4⟩
      have HX4 := Lib.hid (HX3.out.keep hb4)
      have hz4 := hb4.size
      obtain ⟨o0, o1, o2, o3, o4, o5, o6, o7, o8, o9, o10, o11⟩ := (HX4.out.arr rfl).softs
      have K := Lib.hid (CellsBox.both (z := [m0, m1, m2, m3, m4, m5, m6, m7, m8, m9, m10, m11]) rfl HX4.out (Below.refl W1.heap.size W4) (Nat.le_refl _) hJ (by omega) e0 e1 e2 e3 e4 e5 e6 e7 e8 e9 e10 e11)
      have HJ4 := Lib.hid (hJ.below HJ3.out hb4)
      have HK5 : Hid (KE et n₀ L W1 W4) := HK4.out.trans (ke_of_below hb4 (by omega))
      clear hb4 c0 c1 c2 c3 c4 c5 c6 c7 c8 c9 c10 c11 p0 p1 p2 p3 p4 p5 p6 p7 p8 p9 p10 p11
      obtain ⟨c0, c1, c2, c3, c4, c5, c6, c7, c8, c9, c10, c11⟩ := (HX4.out.arr rfl).cells
      gi_wp2
      go_roundw
      case rel =>
        refine ⟨[e0, e1, e2, e3, e4, e5, e6, e7, e8, e9, e10, e11], ys ++ [⟨[d0, d1, d2, d3, d4, d5, d6, d7, d8, d9, d10, d11], HTQ.out, honq⟩], fu', by simpa [Hid, Loads] using HM2.out, K.out.2.2 _ HJ4.out, ⟨HK5.out.spare.trans (spare_of_below L K.out.2.1 (by omega)), fun k cc t hl ht hk => (K.out.2.1.block k (Array.getElem?_eq_some_iff.1 hk).1).trans (HK5.out.boxes k cc t hl ht hk)⟩, by simp; omega, K.out.1⟩
      case measure =>
        rw [sumOf_is (K.out.1.arr rfl), sumOf_is HXA.out]
        have := HLT.out
        have := HR0.out
        omega
theorem loads_seq (f : Floor) (c m : Nat) (hc : f.carry = c) (hc1 : 1 ≤ c) (hc2 : c ≤ 20) (s : SSlip) (hs : f.slips[m]? = some s) (hok : LinesOk s.lines) (htw : Twelve 12000 (piecesF s.lines)) (ho : Only f.far.length (piecesF s.lines)) (fuel : Nat) (hfuel : (piecesF s.lines).sum ≤ fuel)
    (all : List (List Int)) (hall : loadsF c fuel (piecesF s.lines) = all) (et : TypeId) (t1 : 89 ≠ et) (t2 : 3 ≠ et) (t3 : 102 ≠ et)
    (n : Nat) (hn : 1 ≤ n) (bF bn B₀ L : Nat) (w : World) (hB₀ : B₀ ≤ w.heap.size) (hBL : B₀ ≤ L) (hL : L < w.heap.size) (lF : bF ≠ L) (ln : bn ≠ L)
    (hA : LoadsAt w bF bn f m) (hI : FloorAt w B₀ f) :
    SeqE Fence.wide n Tryd.prog 94 #[.pointer (some ⟨bF, 0, none⟩), .pointer (some ⟨bn, 0, none⟩)] (Load.enc (n := f.far.length) (c := c)) (KE et w.heap.size L) (fun ys => Loads ys = all) all.length 102 w := fun l J W hW hJ hY h0 =>
  loads1_any f c m hc hc1 hc2 s hs hok htw ho fuel hfuel all hall et t1 t2 t3 n hn l bF bn w.heap.size B₀ L J W hJ hY hW.size hB₀ hBL (Nat.lt_of_lt_of_le hL hW.size) lF ln ⟨hA.cF.keep hW, hA.cn.keep hW⟩ (hI.below (hW.mono hB₀)) h0
end Go.Proofs.YtomgnpfpaodpiaaDoor

/- How many steps a slip takes: plain forms and bounds. -/
namespace Go.Proofs.YtomgnpfpaodpiaaDoor
open Go Go.RowKit Go.Shelf
/-- what a valid floor is -/
structure Fine (f : Floor) : Prop where
  far1 : 1 ≤ f.far.length
  far12 : f.far.length ≤ 12
  fars : ∀ x ∈ f.far, 0 ≤ x ∧ x ≤ 500
  picksl : f.picks.length = f.far.length
  picks : ∀ p ∈ f.picks, p.1 ≤ p.2 ∧ 0 ≤ p.1 ∧ p.2 ≤ 300
  step : f.slo ≤ f.shi ∧ 1 ≤ f.slo ∧ f.shi ≤ 10
  carry1 : 1 ≤ f.carry
  carry20 : f.carry ≤ 20
  slips9 : f.slips.length ≤ 9
  slips : ∀ s ∈ f.slips, 0 ≤ s.till ∧ s.till ≤ 100000 ∧ linesB f.far.length s.lines = true
theorem hasB_iff {lo hi n : Int} : hasB lo hi n = true ↔ lo ≤ n ∧ n ≤ hi := by simp [hasB]
theorem fine {f : Floor} (h : validB f = true) : Fine f := by
  unfold validB shelvesB at h
  simp only [Bool.and_eq_true, decide_eq_true_eq, hasB_iff, withinB, List.all_eq_true, List.mem_range] at h
  obtain ⟨⟨⟨⟨⟨⟨h1, h2⟩, h3⟩, h4⟩, h5⟩, h6⟩, h7⟩ := h
  refine ⟨by omega, by omega, fun x hx => ?_, by omega, fun p hp => ?_, by omega, by omega, by omega, by omega, fun s hs => ?_⟩
  · obtain ⟨k, hk, rfl⟩ := List.mem_iff_getElem.1 hx
    have := h3 k hk
    unfold goodShelf at this
    rw [List.getElem?_eq_getElem hk, List.getElem?_eq_getElem (show k < f.picks.length by omega)] at this
    simp only [Bool.and_eq_true, decide_eq_true_eq, hasB_iff, withinB] at this
    omega
  · obtain ⟨k, hk, rfl⟩ := List.mem_iff_getElem.1 hp
    have := h3 k (by omega)
    unfold goodShelf at this
    rw [List.getElem?_eq_getElem hk, List.getElem?_eq_getElem (show k < f.far.length by omega)] at this
    simp only [Bool.and_eq_true, decide_eq_true_eq, hasB_iff, withinB] at this
    omega
  · obtain ⟨k, hk, rfl⟩ := List.mem_iff_getElem.1 hs
    have := h7 k hk
    unfold goodSlip at this
    rw [List.getElem?_eq_getElem hk] at this
    simp only [Bool.and_eq_true, decide_eq_true_eq, hasB_iff] at this
    exact ⟨by omega, by omega, this.2⟩
theorem pieces_sum {l : List SLine} {n : Int} (hn : n ≤ 12) (h : ∀ (k : Nat) (x : SLine), l[k]? = some x → 0 ≤ x.shelf ∧ x.shelf < n ∧ 1 ≤ x.many ∧ x.many ≤ 20) (hok : LinesOk l) : ∀ k : Nat, k ≤ l.length → (piecesK l k).sum = sumK l k ∧ ∀ (j : Nat) (x : Int), (piecesK l k)[j]? = some x → 0 < x → (j : Int) < n
  | 0, _ => by
    refine ⟨by simp [piecesK, piecesF, sumK], fun j x hx h0 => ?_⟩
    have e : piecesK l 0 = List.replicate 12 0 := by simp [piecesK, piecesF]
    rw [e, List.getElem?_replicate] at hx
    split at hx
    · cases hx; omega
    · cases hx
  | k + 1, hk => by
    obtain ⟨i1, i2⟩ := pieces_sum hn h hok k (by omega)
    obtain ⟨x, hx⟩ : ∃ x, l[k]? = some x := ⟨_, List.getElem?_eq_getElem (by omega)⟩
    obtain ⟨x0, x1, x2, x3⟩ := h k x hx
    have ht := piecesK_ok hok k (by omega)
    obtain ⟨m, hm, m0, _⟩ := ht.at_ (k := x.shelf.toNat) (by omega)
    rw [piecesK_succ hx, sumK_succ hx, hm]
    refine ⟨?_, fun j y hy h0 => ?_⟩
    · rw [Option.getD_some, sum_set _ _ _ _ hm, i1]; omega
    · by_cases hj : x.shelf.toNat = j
      · omega
      · rw [List.getElem?_set_ne hj] at hy
        exact i2 j y hy h0
theorem pieces_only {l : List SLine} {n : Nat} (hn : n ≤ 12) (h : linesB n l = true) : Only n (piecesF l) ∧ (piecesF l).sum = togetherF l ∧ 0 ≤ togetherF l ∧ togetherF l ≤ 240 := by
  obtain ⟨h1, h2, h3⟩ := linesB_ok h
  obtain ⟨i1, i2⟩ := pieces_sum (by omega) h3 (lines_good (by omega) h).1 l.length (Nat.le_refl _)
  rw [piecesK_all] at i1 i2
  rw [sumK_all] at i1
  have i3 := sumK_range (fun k x hx => ⟨(h3 k x hx).2.2.1, (h3 k x hx).2.2.2⟩) l.length (Nat.le_refl _)
  rw [sumK_all] at i3
  exact ⟨fun k x hx h0 => by have := i2 k x hx h0; omega, i1, i3.1, by omega⟩
theorem loads_len (c : Nat) : ∀ (n : Nat) (p : List Int), (loadsF c n p).length ≤ n
  | 0, p => by simp [loadsF]
  | n + 1, p => by
    rw [loadsF]
    split
    · simp
    · have := loads_len c n (withoutF p (farthestF c p))
      simp; omega
theorem linesFrom_mem : ∀ (p : List Int) (j : Nat) (x : SLine), x ∈ linesFrom j p → ∃ k : Nat, x.shelf = ((j + k : Nat) : Int) ∧ p[k]? = some x.many ∧ 0 < x.many
  | [], j, x, h => by simp [linesFrom] at h
  | a :: p, j, x, h => by
    rw [linesFrom] at h
    have rest : x ∈ linesFrom (j + 1) p → ∃ k : Nat, x.shelf = ((j + k : Nat) : Int) ∧ (a :: p)[k]? = some x.many ∧ 0 < x.many := fun h => by
      obtain ⟨k, h1, h2, h3⟩ := linesFrom_mem p (j + 1) x h
      exact ⟨k + 1, by omega, by simpa using h2, h3⟩
    split at h
    · rcases List.mem_cons.1 h with rfl | h
      · exact ⟨0, by simp, by simp, by assumption⟩
      · exact rest h
    · exact rest h
def farF (f : Floor) (x : SLine) : Int := f.far[x.shelf.toNat]?.getD 0
def farsF (f : Floor) (q : List Int) : List Int := (linesOf q).map (farF f)
theorem lines_at {f : Floor} {q : List Int} (ho : Only f.far.length q) {x : SLine} (h : x ∈ linesOf q) : ∃ k : Nat, x.shelf = k ∧ k < f.far.length ∧ f.far[k]? = some (farF f x) := by
  obtain ⟨k, h1, h2, h3⟩ := linesFrom_mem q 0 x h
  have hk := ho k _ h2 h3
  refine ⟨k, by omega, hk, ?_⟩
  have e : x.shelf.toNat = k := by omega
  unfold farF
  rw [e, List.getElem?_eq_getElem hk]
  rfl
theorem greatest_range {a : Int} {l : List Int} {m : Int} (ha : a ≤ m) (h : ∀ x ∈ l, x ≤ m) : a ≤ greatestF a l ∧ greatestF a l ≤ m := by
  induction l generalizing a with
  | nil => exact ⟨Int.le_refl _, ha⟩
  | cons x l ih =>
    have h1 := h x (by simp)
    have h2 := ih (a := max a x) (by omega) (fun y hy => h y (by simp [hy]))
    have e : greatestF a (x :: l) = greatestF (max a x) l := rfl
    rw [e]
    omega
def longF (f : Floor) (q : List Int) : Int := 2 * greatestF 0 (farsF f q)
theorem fars_range {f : Floor} (hf : Fine f) {q : List Int} (ho : Only f.far.length q) : 0 ≤ greatestF 0 (farsF f q) ∧ greatestF 0 (farsF f q) ≤ 500 := by
  refine greatest_range (by omega) fun x hx => ?_
  obtain ⟨l, hl, rfl⟩ := List.mem_map.1 hx
  obtain ⟨k, _, hk, h⟩ := lines_at ho hl
  exact (hf.fars _ (List.mem_of_getElem? h)).2
def stepsL (f : Floor) (loads : List (List Int)) : Int := (loads.map (longF f)).sum
theorem stepsL_snoc (f : Floor) (loads : List (List Int)) (q : List Int) : stepsL f (loads ++ [q]) = stepsL f loads + longF f q := by simp [stepsL]
theorem stepsL_range {f : Floor} (hf : Fine f) : ∀ {loads : List (List Int)}, (∀ q ∈ loads, Only f.far.length q) → 0 ≤ stepsL f loads ∧ stepsL f loads ≤ 1000 * loads.length
  | [], _ => by simp [stepsL]
  | q :: loads, h => by
    have i := stepsL_range hf (loads := loads) (fun q hq => h q (by simp [hq]))
    have j := fars_range hf (h q (by simp))
    have e : stepsL f (q :: loads) = longF f q + stepsL f loads := by simp [stepsL]
    rw [e, List.length_cons]
    unfold longF
    omega
def loadsOf (f : Floor) (s : SSlip) : List (List Int) := loadsF f.carry.toNat (piecesF s.lines).sum.toNat (piecesF s.lines)
def stepsF (f : Floor) (s : SSlip) : Int := stepsL f (loadsOf f s)
theorem lines_small {q : List Int} (h : q.length = 12) : (linesOf q).length ≤ 12 := by
  have := linesFrom_len q 0
  unfold linesOf
  omega
theorem loadsOf_len {f : Floor} (hf : Fine f) {s : SSlip} (hs : s ∈ f.slips) : (loadsOf f s).length ≤ 240 := by
  obtain ⟨_, _, h⟩ := hf.slips s hs
  obtain ⟨_, h1, h2, h3⟩ := pieces_only hf.far12 h
  have := loads_len f.carry.toNat (piecesF s.lines).sum.toNat (piecesF s.lines)
  unfold loadsOf
  omega
end Go.Proofs.YtomgnpfpaodpiaaDoor

