/- Contract of the specification's takes. -/
import Derived.Test.YtomgnpfpaodpiaaDoorH40
import Derived.Test.YtomgnpfpaodpiaaDoorH12
import Derived.Test.YtomgnpfpaodpiaaDoorH02
set_option linter.unusedVariables false
set_option linter.unusedSimpArgs false
namespace Go.Proofs.YtomgnpfpaodpiaaDoor
open Go Go.RowKit
set_option maxHeartbeats 4000000
def pickF (f : Floor) (x : SLine) : Int × Int := (f.picks[x.shelf.toNat]?).getD (0, 0)
def addP (f : Floor) (st : Int × Int) (x : SLine) : Int × Int := (st.1 + x.many * (pickF f x).1, st.2 + x.many * (pickF f x).2)
def rtakesF (f : Floor) (s : SSlip) : Int × Int := s.lines.foldl (addP f) (rstepsF f s * f.slo, rstepsF f s * f.shi)
def rtakesK (f : Floor) (l : List SLine) (st : Int × Int) (k : Nat) : Int × Int := (l.take k).foldl (addP f) st
theorem rtakesK_succ {f : Floor} {l : List SLine} {st : Int × Int} {k : Nat} {x : SLine} (h : l[k]? = some x) : rtakesK f l st (k + 1) = addP f (rtakesK f l st k) x := by
  obtain ⟨hk, rfl⟩ := List.getElem?_eq_some_iff.1 h
  unfold rtakesK
  rw [List.take_succ_eq_append_getElem hk, List.foldl_append]
  rfl
theorem pick_at {f : Floor} (hv : validB f = true) {k : Nat} {s : SSlip} (hs : f.slips[k]? = some s) {i : Nat} {x : SLine} (hx : s.lines[i]? = some x) : ∃ q, f.picks[x.shelf.toNat]? = some q ∧ pickF f x = q ∧ 0 ≤ q.1 ∧ q.1 ≤ q.2 ∧ q.2 ≤ 300 := by
  have hf := fine hv
  obtain ⟨⟨g1, g2⟩, _, _⟩ := line_at hv hs hx
  have hlt : x.shelf.toNat < f.picks.length := by rw [hf.picksl]; omega
  refine ⟨f.picks[x.shelf.toNat], List.getElem?_eq_getElem hlt, ?_, ?_⟩
  · unfold pickF
    rw [List.getElem?_eq_getElem hlt]
    rfl
  · have := hf.picks _ (List.getElem_mem hlt)
    omega
theorem iterP_range {C d : Int} (hd : 0 ≤ d ∧ d ≤ 500) (hC : 1 ≤ C) : ∀ (n : Nat) (st : Int × Int), 0 ≤ st.1 → 0 ≤ st.2 → 0 ≤ (iterP (stepP C d) n st).1 ∧ (iterP (stepP C d) n st).1 ≤ st.1 + 1000 * n ∧ 0 ≤ (iterP (stepP C d) n st).2
  | 0, st, h, k => by simp [iterP]; omega
  | n + 1, st, h, k => by
    obtain ⟨i1, i2, i3⟩ := iterP_range hd hC n st h k
    rw [iterP, stepP]
    split
    · simp only; omega
    · simp only; omega
theorem stateR_range {f : Floor} (hC : 1 ≤ f.carry) : ∀ (l : List SLine), (∀ x ∈ l, (1 ≤ x.many ∧ x.many ≤ 20) ∧ 0 ≤ farF f x ∧ farF f x ≤ 500) → 0 ≤ (stateR f l).1 ∧ (stateR f l).1 ≤ 20000 * l.length ∧ 0 ≤ (stateR f l).2
  | [], _ => by simp [stateR]
  | x :: l, h => by
    obtain ⟨i1, i2, i3⟩ := stateR_range hC l (fun y hy => h y (by simp [hy]))
    obtain ⟨hm, hd⟩ := h x (by simp)
    obtain ⟨j1, j2, j3⟩ := iterP_range hd hC x.many.toNat (stateR f l) i1 i3
    refine ⟨j1, ?_, j3⟩
    have : (stateR f (x :: l)).1 = (iterP (stepP f.carry (farF f x)) x.many.toNat (stateR f l)).1 := rfl
    rw [this]
    simp only [List.length_cons]
    omega
theorem rsteps_range {f : Floor} (hv : validB f = true) {k : Nat} {s : SSlip} (hs : f.slips[k]? = some s) : 0 ≤ rstepsF f s ∧ rstepsF f s ≤ 240000 := by
  have hf := fine hv
  obtain ⟨_, h2, _⟩ := linesB_ok (hf.slips s (List.mem_of_getElem? hs)).2.2
  have := stateR_range (f := f) hf.carry1 s.lines (fun x hx => by
    obtain ⟨i, hi, rfl⟩ := List.mem_iff_getElem.1 hx
    obtain ⟨_, h4, d, h5, h6, h7⟩ := line_at hv hs (List.getElem?_eq_getElem hi)
    rw [h6]
    exact ⟨h4, h7⟩)
  unfold rstepsF
  omega
theorem below1 (w : World) (a : Obj) : Below w.heap.size w (w.alloc a) := (Below.refl _ _).alloc (Nat.le_refl _) _
theorem below2 (w : World) (a b : Obj) : Below w.heap.size w ((w.alloc a).alloc b) := (below1 w a).alloc (by simp) _
set_option maxRecDepth 100000 in
theorem rtakes_any (f : Floor) (hv : validB f = true) (n : Nat) (s : SSlip) (hs : f.slips[n]? = some s) (w : World) (h : FloorAt w w.heap.size f) :
    Calls Tryd.prog 62 #[f.val, vi n] w fun e w' => e = .returned (spanV (rtakesF f s)) ∧ Below w.heap.size w w' := by
  have hf := fine hv
  obtain ⟨hl1, hl2, _⟩ := linesB_ok (hf.slips s (List.mem_of_getElem? hs)).2.2
  have LA := Lib.hid (fun (i : Nat) (x : SLine) (hx : s.lines[i]? = some x) => line_at hv hs hx)
  have PA := Lib.hid (fun (i : Nat) (x : SLine) (hx : s.lines[i]? = some x) => pick_at hv hs hx)
  have ST := Lib.hid (fun (X : World) hX => rsteps_any f hv n s hs X hX)
  obtain ⟨p, hp⟩ : ∃ p, p = rstepsF f s := ⟨_, rfl⟩
  have hpr := rsteps_range hv hs
  rw [← hp] at hpr ST
  have TK := Lib.hid (fun (k : Nat) (x : SLine) (hx : s.lines[k]? = some x) => rtakesK_succ (f := f) (st := (p * f.slo, p * f.shi)) hx)
  obtain ⟨T, hT⟩ : ∃ T, T = rtakesK f s.lines (p * f.slo, p * f.shi) := ⟨_, rfl⟩
  have T0 : Hid (T 0 = (p * f.slo, p * f.shi)) := by unfold Hid; rw [hT]; simp [rtakesK]
  have TE : Hid (rtakesF f s = T s.lines.length) := by unfold Hid; rw [hT, rtakesK, List.take_length, rtakesF, ← hp]
  rw [← hT] at TK
  obtain ⟨an, han⟩ : ∃ an, an = rtakesF f s := ⟨_, rfl⟩
  rw [← han] at TE ⊢
  have hsp := hf.step
  have hn9 := hf.slips9
  have hfl := hf.far12
  have hpl := hf.picksl
  have hnlt : n < f.slips.length := (List.getElem?_eq_some_iff.1 hs).1
  have hnI : (n : Int) < f.slips.length := by omega
  have hn0 : (0 : Int) ≤ n := by omega
  have HF := Lib.hid h
  have HP := Lib.hid h.picks
  have hse := h.each s (List.mem_of_getElem? hs)
  have hscap := h.slips.lens
  have hpcap := h.picks.lens
  obtain ⟨bb, off, hsA, hbb, x0, x1⟩ := row2 h.slips.row hs rfl
  obtain ⟨sa, sc, sl, st⟩ := s
  simp only at hl1 hl2 LA PA TK TE hse x0 x1
  replace x0 : w.cell? ⟨bb, off + n * 2, none⟩ = some (.slice sa sl.length sc) := x0
  have hslc := hse.lens
  have HSE := Lib.hid hse
  clear hT han hp h hse hs
  have hlo : 0 ≤ p * f.slo ∧ p * f.slo ≤ 2400000 := by
    have h1 : p * f.slo ≤ 240000 * 10 := Int.mul_le_mul hpr.2 (by omega) (by omega) (by omega)
    exact ⟨Int.mul_nonneg hpr.1 (by omega), by omega⟩
  have hhi : 0 ≤ p * f.shi ∧ p * f.shi ≤ 2400000 := by
    have h1 : p * f.shi ≤ 240000 * 10 := Int.mul_le_mul hpr.2 (by omega) (by omega) (by omega)
    exact ⟨Int.mul_nonneg hpr.1 (by omega), by omega⟩
  obtain ⟨fA, fC, ff, slo, shi, pA, pC, fp, fc, sA, sC, fs⟩ := f
  simp only at hsA hnI hn9 hscap hpcap HP hfl hpl hnlt hsp T0 hlo hhi
  subst hsA
  obtain ⟨u, hu⟩ : ∃ u, p * slo = u := ⟨_, rfl⟩
  obtain ⟨v, hv2⟩ : ∃ v, p * shi = v := ⟨_, rfl⟩
  rw [hu, hv2] at T0
  rw [hu] at hlo
  rw [hv2] at hhi
  have hwu : IntKind.wrap .i64 (p * slo) = u := by rw [hu]; exact wrapI (by omega) (by omega)
  have hwv : IntKind.wrap .i64 (p * shi) = v := by rw [hv2]; exact wrapI (by omega) (by omega)
  show Calls Tryd.prog 62 #[.agg #[.slice fA ff.length fC, vi slo, vi shi, .slice pA fp.length pC, vi fc, .slice (some ⟨bb, off, none⟩) fs.length sC], vi n] w _
  have HPL := Lib.hid hpl
  clear hpl
  go_enter Tryd.func62, Tryd.ntmps62
  go_wp2_with fail
  refine (ST.out _ (HF.out.to (below2 _ _ _))).mono ?_
  rintro e W ⟨rfl, hb⟩
  have HB0 : Below w.heap.size w W := gr_trans (below2 _ _ _) hb
  have X0 : CellsBox W w.heap.size 28 [.slice fA ff.length fC, vi slo, vi shi, .slice pA fp.length pC, vi fc, .slice (some ⟨bb, off, none⟩) fs.length sC] := by
    refine CellsBox.keep (b := w.heap.size) (t := 28) (cs := [.slice fA ff.length fC, vi slo, vi shi, .slice pA fp.length pC, vi fc, .slice (some ⟨bb, off, none⟩) fs.length sC]) ?_ hb
    exact (CellsBox.new w 28 [.slice fA ff.length fC, vi slo, vi shi, .slice pA fp.length pC, vi fc, .slice (some ⟨bb, off, none⟩) fs.length sC]).alloc _
  have X1 : CellsBox W (w.heap.size + 1) 24 [vi 0, vi 0] := by
    refine CellsBox.keep (b := w.heap.size + 1) (t := 24) (cs := [vi 0, vi 0]) ?_ hb
    have := CellsBox.new (w.alloc (.cells #[.slice fA ff.length fC, vi slo, vi shi, .slice pA fp.length pC, vi fc, .slice (some ⟨bb, off, none⟩) fs.length sC] 28)) 24 [vi 0, vi 0]
    simpa using this
  have HX0 := Lib.hid X0
  have HX1 := Lib.hid X1
  have a1 := X0.cell (j := 1) rfl
  have a2 := X0.cell (j := 2) rfl
  have za := X0.lt
  clear hb X0 X1
  go_wp2_with fail
  refine (to_any _ _ _).mono ?_
  rintro e W1 ⟨rfl, hb1⟩
  have HB1 : Below w.heap.size w W1 := HB0.trans (hb1.mono HB0.size)
  have HX0 := Lib.hid (HX0.out.keep hb1)
  have HX1 := Lib.hid (HX1.out.keep hb1)
  have zW1 : w.heap.size + 1 < W1.heap.size := HX1.out.lt
  have c5 := HX0.out.cell (j := 5) rfl
  have zc := HX0.out.lt
  have y0 : W1.cell? ⟨bb, off + n * 2, none⟩ = some (.slice sa sl.length sc) := (HB1.cell hbb).trans x0
  have zb : bb < W1.heap.size := cell_lt y0
  clear a1 a2 za hb1 x0 x1 hbb
  go_wp2_with fail
  obtain ⟨V, hV⟩ : ∃ V, V = W1.alloc (.cells #[vi u, vi v] 24) := ⟨_, rfl⟩
  have hbV : Below W1.heap.size W1 V := by rw [hV]; exact (Below.refl _ _).alloc (Nat.le_refl _) _
  have X2 : CellsBox V W1.heap.size 24 [vi u, vi v] := by rw [hV]; exact CellsBox.new W1 _ _
  have HX0 := Lib.hid (HX0.out.keep hbV)
  have HX1 := Lib.hid (HX1.out.keep hbV)
  have HBV : Below w.heap.size w V := HB1.trans (hbV.mono HB1.size)
  have HX2 := Lib.hid X2
  rw [← hV]
  clear hV hbV X2 c5 zc y0 zb hwu hwv
  go_loopw [8] (fun i wr => ∃ (k : Nat) (u v : Int), k ≤ sl.length ∧ i = vi k ∧ Below w.heap.size w wr ∧ V.heap.size ≤ wr.heap.size ∧ Hid (CellsBox wr w.heap.size 28 [.slice fA ff.length fC, vi slo, vi shi, .slice pA fp.length pC, vi fc, .slice (some ⟨bb, off, none⟩) fs.length sC] ∧ CellsBox wr (w.heap.size + 1) 24 [vi 0, vi 0] ∧ CellsBox wr W1.heap.size 24 [vi u, vi v]) ∧ Hid (T k = (u, v)) ∧ 0 ≤ u ∧ u ≤ 2400000 + 6000 * k ∧ 0 ≤ v ∧ v ≤ 2400000 + 6000 * k) (fun i _ => sl.length - (intOf i).toNat)
  case atStart => exact ⟨0, u, v, Nat.zero_le _, rfl, HBV, Nat.le_refl _, ⟨HX0.out, HX1.out, HX2.out⟩, T0.out, by omega, by omega, by omega, by omega⟩
  obtain ⟨k, u', v', hk, rfl, hB, hsz, HX, HT, hu0, hu1, hv0, hv1⟩ := hrel
  have z2 := HX.out.2.2.lt
  by_cases hlt : k < sl.length
  · obtain ⟨x, hx⟩ : ∃ x, sl[k]? = some x := ⟨_, List.getElem?_eq_getElem hlt⟩
    obtain ⟨⟨hx1, hx2⟩, ⟨hx3, hx4⟩, _⟩ := LA.out k x hx
    obtain ⟨q, hq1, hq2, hq3, hq4, hq5⟩ := PA.out k x hx
    have TN := TK.out k x hx
    rw [HT.out, addP, hq2] at TN
    have HTN := Lib.hid TN
    obtain ⟨lb, lo, rfl, hlb, l0, l1⟩ := row2 (HSE.out.to hB).row hx rfl
    have HLB : Hid (lb < W1.heap.size) := by
      obtain ⟨lb', lo', e, hlb', _, _⟩ := row2 HSE.out.row hx rfl
      simp only [Option.some.injEq, Addr.mk.injEq] at e
      have := HB1.size
      unfold Hid
      omega
    obtain ⟨pb, po, rfl, hpb, q0, q1⟩ := row2 (HP.out.to hB).row hq1 rfl
    obtain ⟨xs, xm⟩ := x
    obtain ⟨qa, qb⟩ := q
    simp only at hx1 hx2 hx3 hx4 hq1 hq3 hq4 hq5 l0 l1 HTN q0 q1
    obtain ⟨j, rfl⟩ : ∃ j : Nat, xs = j := ⟨xs.toNat, by omega⟩
    simp only [Int.toNat_natCast] at q0 q1 hq1
    have hkI : (k : Int) < sl.length := by omega
    have hk0 : (0 : Int) ≤ k := by omega
    have hjI : (j : Int) < fp.length := by have := HPL.out; omega
    have hj0 : (0 : Int) ≤ j := by omega
    have zl : lb < wr.heap.size := hlb
    have zp : pb < wr.heap.size := hpb
    have m1 : 0 ≤ xm * qa ∧ xm * qa ≤ 6000 := ⟨Int.mul_nonneg (by omega) hq3, by have : xm * qa ≤ 20 * 300 := Int.mul_le_mul hx4 (by omega) hq3 (by omega); omega⟩
    have m2 : 0 ≤ xm * qb ∧ xm * qb ≤ 6000 := ⟨Int.mul_nonneg (by omega) (by omega), by have : xm * qb ≤ 20 * 300 := Int.mul_le_mul hx4 (by omega) (by omega) (by omega); omega⟩
    obtain ⟨ma, hma⟩ : ∃ ma, xm * qa = ma := ⟨_, rfl⟩
    obtain ⟨mb, hmb⟩ : ∃ mb, xm * qb = mb := ⟨_, rfl⟩
    rw [hma] at m1 HTN
    rw [hmb] at m2 HTN
    have hwa : IntKind.wrap .i64 (xm * qa) = ma := by rw [hma]; exact wrapI (by omega) (by omega)
    have hwb : IntKind.wrap .i64 (xm * qb) = mb := by rw [hmb]; exact wrapI (by omega) (by omega)
    have hwc : IntKind.wrap .i64 (u' + ma) = u' + ma := wrapI (by omega) (by omega)
    have hwd : IntKind.wrap .i64 (v' + mb) = v' + mb := wrapI (by omega) (by omega)
    have HMA := Lib.hid hma
    have HMB := Lib.hid hmb
    clear hx hq1 hq2 TN hma hmb
    go_wp2_with fail
    refine' wp_region_box (fun w' => Below wr.heap.size wr w') (fun a b h h' => gr_trans h h') [0, 1, 2, 3, 4, 5, 6, 7, 8] 2 69 (by kernel_rfl) (by kernel_rfl) rfl (by kernel_rfl) (by kernel_rfl) rfl (by kernel_rfl) ?hl5 (Below.refl _ _) ?hq5 ?hr5
    case hl5 =>
      simp only [List.map_cons, List.map_nil, List.getD_cons_zero, List.getD_cons_succ]
      exact rfl
    case hq5 =>
      intro w0 K
      have f3 := (HX.out.1.keep K).cell (j := 3) rfl
      have zf := (HX.out.1.keep K).lt
      have l0w := cell_keep K l0
      have l1w := cell_keep K l1
      have q0w := cell_keep K q0
      have q1w := cell_keep K q1
      have zlw : lb < w0.heap.size := cell_lt l0w
      have zpw : pb < w0.heap.size := cell_lt q0w
      (repeat (go_big_quiet_step (fail)))
      exact wpQuiet_nil rfl
    case hr5 =>
      refine wpUp_one (i := 9) (by kernel_rfl) rfl rfl (fun wa b1 b2 Ka hKa => ?_)
      go_simp
      obtain ⟨V9, hV9⟩ : ∃ V9, V9 = wa.alloc (.cells #[vi 0, vi 0] 24) := ⟨_, rfl⟩
      have hbV9 : Below wa.heap.size wa V9 := by rw [hV9]; exact below1 _ _
      have X9 : CellsBox V9 wa.heap.size 24 [vi 0, vi 0] := by rw [hV9]; exact CellsBox.new wa _ _
      rw [← hV9]
      clear hV9
      have hsa := b1.size
      refine hKa _ _ (gr_trans b1 hbV9) ?_
      refine wpUp_one (i := 10) (by kernel_rfl) rfl rfl (fun wc c1 c2 Kc hKc => ?_)
      have Y9 := X9.keep c1
      have d0 := Y9.cell (j := 0) rfl
      have d1 := Y9.cell (j := 1) rfl
      have e0 := Y9.frozen 0
      have e1 := Y9.frozen 1
      have zz := Y9.lt
      go_simp
      have Z9 := (Y9.store 0 (vi qa)).store 1 (vi qb)
      have hbc : Below wr.heap.size wr ((wc.setCell ⟨wa.heap.size, 0, none⟩ (vi qa)).setCell ⟨wa.heap.size, 1, none⟩ (vi qb)) := (c2.setCell hsa _).setCell hsa _
      refine hKc _ _ hbc (wpUp_done (by kernel_rfl) (fun W8 g1 g2 => NoPanic.normal ?_))
      have HZ8 : Hid (CellsBox W8 wa.heap.size 24 [vi qa, vi qb]) := Z9.keep g1
      have HB8 : Below wr.heap.size wr W8 := g2
      have hne : wa.heap.size ≠ W1.heap.size := by omega
      clear hKa hKc X9 Y9 d0 d1 e0 e1 zz Z9 hbc g1 g2 c1 c2 b1 b2 hbV9
      obtain ⟨b9, hb9⟩ : ∃ b9, b9 = wa.heap.size := ⟨_, rfl⟩
      rw [← hb9] at HZ8 hne ⊢
      clear hb9
      have l0w := cell_keep HB8 l0
      have l1w := cell_keep HB8 l1
      have zlw : lb < W8.heap.size := cell_lt l0w
      have HX2w := Lib.hid (HX.out.2.2.keep HB8)
      go_wp2_with fail
      have s0 := HX2w.out.cell (j := 0) rfl
      have s1 := HX2w.out.cell (j := 1) rfl
      have zs := HX2w.out.lt
      have t0 := HZ8.out.cell (j := 0) rfl
      have t1 := HZ8.out.cell (j := 1) rfl
      have zt := HZ8.out.lt
      have hSC : Stays (fun w' => Below W1.heap.size W8 w' ∧ CellsBox w' b9 24 [vi qa, vi qb]) := fun a b h h' => ⟨h.1.trans (h'.mono (by have := h.1.size; omega)), h.2.keep h'⟩
      refine' wp_region_box (fun w' => Below W1.heap.size W8 w' ∧ CellsBox w' b9 24 [vi qa, vi qb]) hSC [0, 2, 3, 4, 5, 6, 7, 8, 9, 11, 13, 14, 15, 16, 17, 18, 19, 20] 6 69 (by kernel_rfl) (by kernel_rfl) rfl (by kernel_rfl) (by kernel_rfl) rfl (by kernel_rfl) ?hl6 ⟨Below.refl _ _, HZ8.out⟩ ?hq6 ?hr6
      case hl6 =>
        simp only [List.map_cons, List.map_nil, List.getD_cons_zero, List.getD_cons_succ]
        exact rfl
      case hq6 =>
        intro w0 K
        have t0 := K.2.cell (j := 0) rfl
        have t1 := K.2.cell (j := 1) rfl
        have zt := K.2.lt
        have hlW : lb < W1.heap.size := HLB.out
        have l0v : w0.cell? ⟨lb, lo + k * 2, none⟩ = some (vi j) := (K.1.cell hlW).trans l0w
        have l1v : w0.cell? ⟨lb, lo + k * 2 + 1, none⟩ = some (vi xm) := (K.1.cell hlW).trans l1w
        have zlv : lb < w0.heap.size := cell_lt l0v
        (repeat (go_big_quiet_step (fail)))
        exact wpQuiet_nil rfl
      refine wpUp_two (i := 1) (j := 12) (by kernel_rfl) rfl rfl rfl rfl (fun wa u1 u2 Ka hKa => ?_) (fun wa u1 u2 Ka hKa => ?_)
      · skip
        have s0xp : wa.cell? ⟨W1.heap.size, 0, none⟩ = some (vi u') := cell_keep u1 s0
        have zxwa : W1.heap.size < wa.heap.size := cell_lt s0xp
        go_simp
        refine hKa _ _ u2 ?_
        refine' wpUp_more hSC [10] 4 69 (by kernel_rfl) (by kernel_rfl) (by kernel_rfl) rfl (by kernel_rfl) rfl ?hlap u2 ?hqap ?hrap
        case hlap =>
          simp only [List.map_cons, List.map_nil, List.getD_cons_zero, List.getD_cons_succ]
          exact rfl
        case hqap =>
          intro w0 hw0
          (repeat (go_big_quiet_step ((go_at_call 44; refine Calls.grow_of (to_any _ _ _)))))
          exact wpQuiet_nil rfl
        refine wpUp_one (i := 12) (by kernel_rfl) rfl rfl (fun wb x1 x2 Kb hKb => ?_)
        have uu := gr_trans u1 x1
        have s1xp : wb.cell? ⟨W1.heap.size, 1, none⟩ = some (vi v') := cell_keep uu s1
        have zxwb : W1.heap.size < wb.heap.size := cell_lt s1xp
        go_simp
        refine hKb _ _ x2 ?_
        refine' wpUp_more hSC [21, 22] 1 69 (by kernel_rfl) (by kernel_rfl) (by kernel_rfl) rfl (by kernel_rfl) rfl ?hlbp x2 ?hqbp ?hrbp
        case hlbp =>
          simp only [List.map_cons, List.map_nil, List.getD_cons_zero, List.getD_cons_succ]
          exact rfl
        case hqbp =>
          intro w0 hw0
          (repeat (go_big_quiet_step ((go_at_call 44; refine Calls.grow_of (to_any _ _ _)))))
          exact wpQuiet_nil rfl
        refine wpUp_one (i := 23) (by kernel_rfl) rfl rfl (fun wv y1 y2 Kc hKc => ?_)
        have HBv := gr_trans uu y1
        have k0 := cell_keep HBv s0
        have k1 := cell_keep HBv s1
        have q0 : wv.frozen? ⟨W1.heap.size, 0, none⟩ = false := (HX2w.out.keep HBv).frozen 0
        have q1 : wv.frozen? ⟨W1.heap.size, 1, none⟩ = false := (HX2w.out.keep HBv).frozen 1
        have zv : W1.heap.size < wv.heap.size := cell_lt k0
        go_simp
        refine hKc _ _ ⟨(y2.1.setCell (Nat.le_refl _) _).setCell (Nat.le_refl _) _, (y2.2.apart ⟨W1.heap.size, 0, none⟩ (vi (u' + ma)) hne).apart ⟨W1.heap.size, 1, none⟩ (vi (v' + mb)) hne⟩ (wpUp_done (by kernel_rfl) (fun W9 g1 g2 => NoPanic.normal ?_))
        have HBr : Below wr.heap.size wr wv := gr_trans HB8 HBv
        have hW1 := HB1.size
        have hWs := HBr.size
        have Z2 := (((HX2w.out.keep HBv).store 0 (vi (u' + ma))).store 1 (vi (v' + mb))).keep g1
        have Z0 := (((HX.out.1.keep HBr).apart ⟨W1.heap.size, 0, none⟩ (vi (u' + ma)) (by simp only; omega)).apart ⟨W1.heap.size, 1, none⟩ (vi (v' + mb)) (by simp only; omega)).keep g1
        have Z1 := (((HX.out.2.1.keep HBr).apart ⟨W1.heap.size, 0, none⟩ (vi (u' + ma)) (by simp only; omega)).apart ⟨W1.heap.size, 1, none⟩ (vi (v' + mb)) (by simp only; omega)).keep g1
        have ZB : Below w.heap.size w W9 := by
          have e1 := ((hB.trans (HBr.mono hB.size)).setCell (p := ⟨W1.heap.size, 0, none⟩) (by simp only; omega) (vi (u' + ma))).setCell (p := ⟨W1.heap.size, 1, none⟩) (by simp only; omega) (vi (v' + mb))
          exact e1.trans (g1.mono e1.size)
        have ZS : V.heap.size ≤ W9.heap.size := by have := g1.size; simp at this; omega
        clear hKa hKb hKc
        have HX9 := Lib.hid (And.intro Z0 (And.intro Z1 Z2))
        have B9 := ZB
        have S9 := ZS
        clear Z2 Z0 Z1 ZB ZS s0 s1 l0w l1w zlw l0 l1 g1 g2 k0 k1 q0 q1 zv y1 y2 uu x1 x2 u1 u2 HBv HBr
        go_wp2_with fail
        go_roundw
        case rel => exact ⟨k + 1, u' + ma, v' + mb, by omega, by go_num, B9, S9, HX9, HTN.out, by omega, by omega, by omega, by omega⟩
        case measure => simp [intOf]; omega
      · skip
        have s1xq : wa.cell? ⟨W1.heap.size, 1, none⟩ = some (vi v') := cell_keep u1 s1
        have zxwa : W1.heap.size < wa.heap.size := cell_lt s1xq
        go_simp
        refine hKa _ _ u2 ?_
        refine' wpUp_more hSC [21] 4 69 (by kernel_rfl) (by kernel_rfl) (by kernel_rfl) rfl (by kernel_rfl) rfl ?hlaq u2 ?hqaq ?hraq
        case hlaq =>
          simp only [List.map_cons, List.map_nil, List.getD_cons_zero, List.getD_cons_succ]
          exact rfl
        case hqaq =>
          intro w0 hw0
          (repeat (go_big_quiet_step ((go_at_call 44; refine Calls.grow_of (to_any _ _ _)))))
          exact wpQuiet_nil rfl
        refine wpUp_one (i := 1) (by kernel_rfl) rfl rfl (fun wb x1 x2 Kb hKb => ?_)
        have uu := gr_trans u1 x1
        have s0xq : wb.cell? ⟨W1.heap.size, 0, none⟩ = some (vi u') := cell_keep uu s0
        have zxwb : W1.heap.size < wb.heap.size := cell_lt s0xq
        go_simp
        refine hKb _ _ x2 ?_
        refine' wpUp_more hSC [10, 22] 1 69 (by kernel_rfl) (by kernel_rfl) (by kernel_rfl) rfl (by kernel_rfl) rfl ?hlbq x2 ?hqbq ?hrbq
        case hlbq =>
          simp only [List.map_cons, List.map_nil, List.getD_cons_zero, List.getD_cons_succ]
          exact rfl
        case hqbq =>
          intro w0 hw0
          (repeat (go_big_quiet_step ((go_at_call 44; refine Calls.grow_of (to_any _ _ _)))))
          exact wpQuiet_nil rfl
        refine wpUp_one (i := 23) (by kernel_rfl) rfl rfl (fun wv y1 y2 Kc hKc => ?_)
        have HBv := gr_trans uu y1
        have k0 := cell_keep HBv s0
        have k1 := cell_keep HBv s1
        have q0 : wv.frozen? ⟨W1.heap.size, 0, none⟩ = false := (HX2w.out.keep HBv).frozen 0
        have q1 : wv.frozen? ⟨W1.heap.size, 1, none⟩ = false := (HX2w.out.keep HBv).frozen 1
        have zv : W1.heap.size < wv.heap.size := cell_lt k0
        go_simp
        refine hKc _ _ ⟨(y2.1.setCell (Nat.le_refl _) _).setCell (Nat.le_refl _) _, (y2.2.apart ⟨W1.heap.size, 0, none⟩ (vi (u' + ma)) hne).apart ⟨W1.heap.size, 1, none⟩ (vi (v' + mb)) hne⟩ (wpUp_done (by kernel_rfl) (fun W9 g1 g2 => NoPanic.normal ?_))
        have HBr : Below wr.heap.size wr wv := gr_trans HB8 HBv
        have hW1 := HB1.size
        have hWs := HBr.size
        have Z2 := (((HX2w.out.keep HBv).store 0 (vi (u' + ma))).store 1 (vi (v' + mb))).keep g1
        have Z0 := (((HX.out.1.keep HBr).apart ⟨W1.heap.size, 0, none⟩ (vi (u' + ma)) (by simp only; omega)).apart ⟨W1.heap.size, 1, none⟩ (vi (v' + mb)) (by simp only; omega)).keep g1
        have Z1 := (((HX.out.2.1.keep HBr).apart ⟨W1.heap.size, 0, none⟩ (vi (u' + ma)) (by simp only; omega)).apart ⟨W1.heap.size, 1, none⟩ (vi (v' + mb)) (by simp only; omega)).keep g1
        have ZB : Below w.heap.size w W9 := by
          have e1 := ((hB.trans (HBr.mono hB.size)).setCell (p := ⟨W1.heap.size, 0, none⟩) (by simp only; omega) (vi (u' + ma))).setCell (p := ⟨W1.heap.size, 1, none⟩) (by simp only; omega) (vi (v' + mb))
          exact e1.trans (g1.mono e1.size)
        have ZS : V.heap.size ≤ W9.heap.size := by have := g1.size; simp at this; omega
        clear hKa hKb hKc
        have HX9 := Lib.hid (And.intro Z0 (And.intro Z1 Z2))
        have B9 := ZB
        have S9 := ZS
        clear Z2 Z0 Z1 ZB ZS s0 s1 l0w l1w zlw l0 l1 g1 g2 k0 k1 q0 q1 zv y1 y2 uu x1 x2 u1 u2 HBv HBr
        go_wp2_with fail
        go_roundw
        case rel => exact ⟨k + 1, u' + ma, v' + mb, by omega, by go_num, B9, S9, HX9, HTN.out, by omega, by omega, by omega, by omega⟩
        case measure => simp [intOf]; omega
  · obtain rfl : k = sl.length := by omega
    have E : Hid (an = (u', v')) := by unfold Hid; rw [TE.out, HT.out]
    have s0 := HX.out.2.2.cell (j := 0) rfl
    have s1 := HX.out.2.2.cell (j := 1) rfl
    have r0 := HX.out.2.1.cell (j := 0) rfl
    have r1 := HX.out.2.1.cell (j := 1) rfl
    have e0 := HX.out.2.1.frozen 0
    have e1 := HX.out.2.1.frozen 1
    have zr := HX.out.2.1.lt
    go_wp2_with fail
    have Z1 := (HX.out.2.1.store 0 (vi u')).store 1 (vi v')
    have o0 := Z1.cell (j := 0) rfl
    have o1 := Z1.cell (j := 1) rfl
    refine bodyPost_ret (v := .agg #[vi u', vi v']) (by simp [results, Tryd.results62, go_sem, o0, o1]) rfl ?_
    exact ⟨by rw [E.out], (hB.setCell (by simp only; omega) _).setCell (by simp only; omega) _⟩
end Go.Proofs.YtomgnpfpaodpiaaDoor

