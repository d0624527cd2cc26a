/- Contract of the specification's steps. -/
import Derived.Test.YtomgnpfpaodpiaaDoorJ11
import Derived.Test.YtomgnpfpaodpiaaDoorJ03
import Derived.Test.YtomgnpfpaodpiaaDoorJ01
import Derived.Test.YtomgnpfpaodpiaaDoorJ08
import Derived.Test.YtomgnpfpaodpiaaDoorJ10
import Derived.Laws.AppendOwn
set_option linter.unusedVariables false
set_option linter.unusedSimpArgs false
namespace Go.Proofs.YtomgnpfpaodpiaaDoor
open Go Go.RowKit
set_option maxHeartbeats 4000000
/-- one piece more, from the farthest on: how many steps so far, and how many more can be carried -/
def stepP (C far : Int) (st : Int × Int) : Int × Int := if st.2 = 0 then (st.1 + 2 * far, C - 1) else (st.1, st.2 - 1)
def iterP (g : Int × Int → Int × Int) : Nat → Int × Int → Int × Int
  | 0, st => st
  | n + 1, st => g (iterP g n st)
def stateR (f : Floor) (l : List SLine) : Int × Int := l.foldr (fun x st => iterP (stepP f.carry (farF f x)) x.many.toNat st) (0, 0)
def rstepsF (f : Floor) (s : SSlip) : Int := (stateR f s.lines).1
theorem stateR_drop {f : Floor} {l : List SLine} {i : Nat} {x : SLine} (h : l[i]? = some x) : stateR f (l.drop i) = iterP (stepP f.carry (farF f x)) x.many.toNat (stateR f (l.drop (i + 1))) := by
  obtain ⟨hi, rfl⟩ := List.getElem?_eq_some_iff.1 h
  rw [List.drop_eq_getElem_cons hi]
  rfl
theorem line_at {f : Floor} (hv : validB f = true) {k : Nat} {s : SSlip} (hs : f.slips[k]? = some s) {i : Nat} {x : SLine} (hx : s.lines[i]? = some x) : (0 ≤ x.shelf ∧ x.shelf < f.far.length) ∧ (1 ≤ x.many ∧ x.many ≤ 20) ∧ ∃ d, f.far[x.shelf.toNat]? = some d ∧ farF f x = d ∧ 0 ≤ d ∧ d ≤ 500 := by
  have hf := fine hv
  obtain ⟨_, _, h3⟩ := linesB_ok (hf.slips s (List.mem_of_getElem? hs)).2.2
  obtain ⟨g1, g2, g3, g4⟩ := h3 i x hx
  have hlt : x.shelf.toNat < f.far.length := by omega
  refine ⟨⟨g1, g2⟩, ⟨g3, g4⟩, f.far[x.shelf.toNat], List.getElem?_eq_getElem hlt, ?_, hf.fars _ (List.getElem_mem _)⟩
  unfold farF
  rw [List.getElem?_eq_getElem hlt]
  rfl
set_option maxRecDepth 100000 in
theorem rsteps_any (f : Floor) (hv : validB f = true) (n : Nat) (s : SSlip) (hs : f.slips[n]? = some s) (w : World) (h : FloorAt w w.heap.size f) :
    Calls Tryd.prog 60 #[f.val, vi n] w fun e w' => e = .returned (vi (rstepsF f s)) ∧ Below w.heap.size w w' := by
  have hf := fine hv
  obtain ⟨hl1, hl2, _⟩ := linesB_ok (hf.slips s (List.mem_of_getElem? hs)).2.2
  have LA := Lib.hid (fun (i : Nat) (x : SLine) (hx : s.lines[i]? = some x) => line_at hv hs hx)
  have SD := Lib.hid (fun (i : Nat) (x : SLine) (hx : s.lines[i]? = some x) => stateR_drop (f := f) hx)
  have hc1 := hf.carry1
  have hc2 := hf.carry20
  have hn9 := hf.slips9
  have hfl := hf.far12
  have hnlt : n < f.slips.length := (List.getElem?_eq_some_iff.1 hs).1
  have hnI : (n : Int) < f.slips.length := by omega
  have hn0 : (0 : Int) ≤ n := by omega
  have HF := Lib.hid h.far
  have hse := h.each s (List.mem_of_getElem? hs)
  have hscap := h.slips.lens
  have hfcap := h.far.lens
  obtain ⟨bb, off, hsA, hbb, x0, x1⟩ := row2 h.slips.row hs rfl
  obtain ⟨sa, sc, sl, st⟩ := s
  simp only at hl1 hl2 LA SD hse x0 x1
  replace x0 : w.cell? ⟨bb, off + n * 2, none⟩ = some (.slice sa sl.length sc) := x0
  have hslc := hse.lens
  have HSE := Lib.hid hse
  obtain ⟨T, hT⟩ : ∃ T, T = fun i => stateR f (sl.drop i) := ⟨_, rfl⟩
  have SD2 : Hid (∀ (i : Nat) (x : SLine), sl[i]? = some x → T i = iterP (stepP f.carry (farF f x)) x.many.toNat (T (i + 1))) := fun i x hx => by rw [hT]; exact SD.out i x hx
  have T0 : Hid (T sl.length = (0, 0)) := by unfold Hid; rw [hT]; simp [stateR]
  have TE : Hid (rstepsF f ⟨sa, sc, sl, st⟩ = (T 0).1) := by unfold Hid; rw [hT]; rfl
  obtain ⟨an, han⟩ : ∃ an, an = rstepsF f ⟨sa, sc, sl, st⟩ := ⟨_, rfl⟩
  rw [← han] at TE ⊢
  clear SD hT han h hse hs
  obtain ⟨fA, fC, ff, slo, shi, pA, pC, fp, fc, sA, sC, fs⟩ := f
  simp only at hsA hnI hn9 hscap hfcap HF hc1 hc2 hfl hnlt
  subst hsA
  show Calls Tryd.prog 60 #[.agg #[.slice fA ff.length fC, vi slo, vi shi, .slice pA fp.length pC, vi fc, .slice (some ⟨bb, off, none⟩) fs.length sC], vi n] w _
  have hb0 : Below w.heap.size w (w.alloc (.cells #[.slice fA ff.length fC, vi slo, vi shi, .slice pA fp.length pC, vi fc, .slice (some ⟨bb, off, none⟩) fs.length sC] 28)) := (Below.refl _ _).alloc (Nat.le_refl _) _
  have X0 := CellsBox.new w 28 [.slice fA ff.length fC, vi slo, vi shi, .slice pA fp.length pC, vi fc, .slice (some ⟨bb, off, none⟩) fs.length sC]
  have hw1 : IntKind.wrap .i64 ((sl.length : Int) - 1) = (sl.length : Int) - 1 := wrapI (by omega) (by omega)
  go_enter Tryd.func60, Tryd.ntmps60
  go_wp2_with fail
  obtain ⟨W, hW⟩ : ∃ W, W = w.alloc (.cells #[.slice fA ff.length fC, vi slo, vi shi, .slice pA fp.length pC, vi fc, .slice (some ⟨bb, off, none⟩) fs.length sC] 28) := ⟨_, rfl⟩
  rw [← hW] at hb0 X0 ⊢
  have HX := Lib.hid X0
  have HB0 := hb0
  clear hW X0 hb0 x0 x1 hbb hnI hn0
  go_loopw [6, 7, 8] (fun vn vr vj wr => ∃ (m : Nat) (p r : Int), m ≤ sl.length ∧ vj = vi ((m : Int) - 1) ∧ vn = vi p ∧ vr = vi r ∧ Below W.heap.size W wr ∧ Hid (T m = (p, r)) ∧ 0 ≤ p ∧ p ≤ 20000 * (sl.length - m : Nat) ∧ 0 ≤ r ∧ r ≤ 20) (fun _ _ j _ => (intOf j + 1).toNat)
  case atStart => exact ⟨sl.length, 0, 0, Nat.le_refl _, by go_num, rfl, rfl, Below.refl _ _, T0.out, by omega, by simp, by omega, by omega⟩
  obtain ⟨m, p, r, hm, rfl, rfl, rfl, hB, hTm, hp0, hp1, hr0, hr1⟩ := hrel
  have HBr : Below w.heap.size w wr := HB0.trans (hB.mono HB0.size)
  have HTM := Lib.hid hTm.out
  clear hTm
  cases m with
  | zero =>
    have E : Hid (an = p) := by unfold Hid; rw [TE.out, HTM.out]
    have e1 : ((0 : Nat) : Int) - 1 = -1 := by omega
    rw [e1]
    go_wp2_with fail
    go_ret
    exact ⟨retI E.out.symm, HBr⟩
  | succ i =>
    have e1 : ((i + 1 : Nat) : Int) - 1 = i := by omega
    rw [e1]
    obtain ⟨x, hx⟩ : ∃ x, sl[i]? = some x := ⟨_, List.getElem?_eq_getElem (by omega)⟩
    obtain ⟨⟨hx1, hx2⟩, ⟨hx3, hx4⟩, d, hd1, hd2, hd3, hd4⟩ := LA.out i x hx
    have SDI := SD2.out i x hx
    rw [HTM.out, hd2] at SDI
    have HSD := Lib.hid SDI
    obtain ⟨lb, lo, rfl, hlb, l0, l1⟩ := row2 (HSE.out.to HBr).row hx rfl
    obtain ⟨fb, fo, rfl, hfb, f0⟩ := ints_at (HF.out.to HBr) hd1
    obtain ⟨xs, xm⟩ := x
    simp only at hx1 hx2 hx3 hx4 hd1 l0 l1 HSD f0
    obtain ⟨q, rfl⟩ : ∃ q : Nat, xs = q := ⟨xs.toNat, by omega⟩
    obtain ⟨c, rfl⟩ : ∃ c : Nat, xm = c := ⟨xm.toNat, by omega⟩
    simp only [Int.toNat_natCast] at f0 HSD hd1
    have hiI : (i : Int) < sl.length := by omega
    have hi0 : (0 : Int) ≤ i := by omega
    have hq0 : (0 : Int) ≤ q := by omega
    have hw2 : IntKind.wrap .i64 ((i : Int) - 1) = (i : Int) - 1 := wrapI (by omega) (by omega)
    clear hx SDI hd1 hd2
    go_wp2_with fail
    obtain ⟨wo, rfl⟩ : ∃ wo : World, wo = wr := ⟨_, rfl⟩
    have HXo := Lib.hid (HX.out.keep hB)
    have HBo := hB
    clear hB HBr
    go_loopw [6, 7, 9] (fun vn vr vk wr => ∃ (k : Nat) (p' r' : Int), k ≤ c ∧ vk = vi k ∧ vn = vi p' ∧ vr = vi r' ∧ Below wo.heap.size wo wr ∧ Hid (iterP (stepP fc d) k (p, r) = (p', r')) ∧ 0 ≤ p' ∧ p' ≤ p + 1000 * k ∧ 0 ≤ r' ∧ r' ≤ 20) (fun _ _ j _ => c - (intOf j).toNat)
    case atStart => exact ⟨0, p, r, Nat.zero_le _, rfl, rfl, rfl, Below.refl _ _, rfl, hp0, by omega, hr0, hr1⟩
    obtain ⟨k, p', r', hk, rfl, rfl, rfl, hB, hIt, hp0', hp1', hr0', hr1'⟩ := hrel
    have HIT := Lib.hid hIt.out
    clear hIt
    have HXr := Lib.hid (HXo.out.keep hB)
    have a0 := HXr.out.cell (j := 0) rfl
    have a3 := HXr.out.cell (j := 4) rfl
    have za := HXr.out.lt
    have l0r := cell_keep hB l0
    have l1r := cell_keep hB l1
    have f0r := cell_keep hB f0
    have zl : lb < wr.heap.size := cell_lt l0r
    have zf : fb < wr.heap.size := cell_lt f0r
    have HBw := gr_trans HBo hB
    by_cases hlt : k < c
    · have hkI : (k : Int) < c := by omega
      have NX : Hid (iterP (stepP fc d) (k + 1) (p, r) = stepP fc d (p', r')) := by unfold Hid; rw [iterP, HIT.out]
      have hwk : IntKind.wrap .i64 ((k : Int) + 1) = (k : Int) + 1 := wrapI (by omega) (by omega)
      by_cases hr : r' = 0
      · subst hr
        have hwa : IntKind.wrap .i64 (2 * d) = 2 * d := wrapI (by omega) (by omega)
        have hwb : IntKind.wrap .i64 (p' + 2 * d) = p' + 2 * d := wrapI (by omega) (by omega)
        have hwc : IntKind.wrap .i64 (fc - 1) = fc - 1 := wrapI (by omega) (by omega)
        have NY : Hid (iterP (stepP fc d) (k + 1) (p, r) = (p' + 2 * d, fc - 1)) := by unfold Hid; rw [NX.out, stepP]; rfl
        go_wp2_with fail
        (refine wp_region_grow_lit (by kernel_rfl) (by kernel_rfl) ?_; (repeat (go_big_quiet_step (fail))); refine wpQuiet_nil ?_; intro w1 hw1; have hb1 := below_of_plus hw1; clear hw1; obtain ⟨⟨hc1, hf1, hs1⟩, hz1⟩ := after hb1; (try simp only [World.size_alloc, World.size_setCell, World.size_drew] at hz1))
        have b3 := (HXr.out.keep hb1).cell (j := 4) rfl
        have zb := (HXr.out.keep hb1).lt
        have HB1 := gr_trans hB hb1
        clear hb1 hc1 hf1 hs1 hz1
        go_wp2_with fail
        go_roundw
        case rel => exact ⟨k + 1, p' + 2 * d, fc - 1, by omega, by go_num, rfl, rfl, HB1, NY.out, by omega, by omega, by omega, by omega⟩
        case measure => simp [intOf]; omega
      · have hre : (r' == 0) = false := by simpa using hr
        have hwc : IntKind.wrap .i64 (r' - 1) = r' - 1 := wrapI (by omega) (by omega)
        have NY : Hid (iterP (stepP fc d) (k + 1) (p, r) = (p', r' - 1)) := by unfold Hid; rw [NX.out, stepP, if_neg hr]
        go_wp2_with fail
        go_roundw
        case rel => exact ⟨k + 1, p', r' - 1, by omega, by go_num, rfl, rfl, hB, NY.out, by omega, by omega, by omega, by omega⟩
        case measure => simp [intOf]; omega
    · obtain rfl : k = c := by omega
      have TI : Hid (T i = (p', r')) := by unfold Hid; rw [HSD.out, HIT.out]
      go_wp2_with fail
      go_roundw
      case rel => exact ⟨i, p', r', by omega, by go_num, rfl, rfl, HBw, TI.out, by omega, by omega, by omega, by omega⟩
      case measure => first | (simp [intOf]; done) | (simp [intOf]; omega)
end Go.Proofs.YtomgnpfpaodpiaaDoor

/- Contract of the specification's takes. -/
namespace Go.Proofs.YtomgnpfpaodpiaaDoor
open Go Go.RowKit
set_option maxHeartbeats 4000000
def pickF (f : Floor) (x : SLine) : Int × Int := (f.picks[x.shelf.toNat]?).getD (0, 0)
def addP (f : Floor) (st : Int × Int) (x : SLine) : Int × Int := (st.1 + x.many * (pickF f x).1, st.2 + x.many * (pickF f x).2)
def rtakesF (f : Floor) (s : SSlip) : Int × Int := s.lines.foldl (addP f) (rstepsF f s * f.slo, rstepsF f s * f.shi)
def rtakesK (f : Floor) (l : List SLine) (st : Int × Int) (k : Nat) : Int × Int := (l.take k).foldl (addP f) st
theorem rtakesK_succ {f : Floor} {l : List SLine} {st : Int × Int} {k : Nat} {x : SLine} (h : l[k]? = some x) : rtakesK f l st (k + 1) = addP f (rtakesK f l st k) x := by
  obtain ⟨hk, rfl⟩ := List.getElem?_eq_some_iff.1 h
  unfold rtakesK
  rw [List.take_succ_eq_append_getElem hk, List.foldl_append]
  rfl
theorem pick_at {f : Floor} (hv : validB f = true) {k : Nat} {s : SSlip} (hs : f.slips[k]? = some s) {i : Nat} {x : SLine} (hx : s.lines[i]? = some x) : ∃ q, f.picks[x.shelf.toNat]? = some q ∧ pickF f x = q ∧ 0 ≤ q.1 ∧ q.1 ≤ q.2 ∧ q.2 ≤ 300 := by
  have hf := fine hv
  obtain ⟨⟨g1, g2⟩, _, _⟩ := line_at hv hs hx
  have hlt : x.shelf.toNat < f.picks.length := by rw [hf.picksl]; omega
  refine ⟨f.picks[x.shelf.toNat], List.getElem?_eq_getElem hlt, ?_, ?_⟩
  · unfold pickF
    rw [List.getElem?_eq_getElem hlt]
    rfl
  · have := hf.picks _ (List.getElem_mem hlt)
    omega
theorem iterP_range {C d : Int} (hd : 0 ≤ d ∧ d ≤ 500) (hC : 1 ≤ C) : ∀ (n : Nat) (st : Int × Int), 0 ≤ st.1 → 0 ≤ st.2 → 0 ≤ (iterP (stepP C d) n st).1 ∧ (iterP (stepP C d) n st).1 ≤ st.1 + 1000 * n ∧ 0 ≤ (iterP (stepP C d) n st).2
  | 0, st, h, k => by simp [iterP]; omega
  | n + 1, st, h, k => by
    obtain ⟨i1, i2, i3⟩ := iterP_range hd hC n st h k
    rw [iterP, stepP]
    split
    · simp only; omega
    · simp only; omega
theorem stateR_range {f : Floor} (hC : 1 ≤ f.carry) : ∀ (l : List SLine), (∀ x ∈ l, (1 ≤ x.many ∧ x.many ≤ 20) ∧ 0 ≤ farF f x ∧ farF f x ≤ 500) → 0 ≤ (stateR f l).1 ∧ (stateR f l).1 ≤ 20000 * l.length ∧ 0 ≤ (stateR f l).2
  | [], _ => by simp [stateR]
  | x :: l, h => by
    obtain ⟨i1, i2, i3⟩ := stateR_range hC l (fun y hy => h y (by simp [hy]))
    obtain ⟨hm, hd⟩ := h x (by simp)
    obtain ⟨j1, j2, j3⟩ := iterP_range hd hC x.many.toNat (stateR f l) i1 i3
    refine ⟨j1, ?_, j3⟩
    have : (stateR f (x :: l)).1 = (iterP (stepP f.carry (farF f x)) x.many.toNat (stateR f l)).1 := rfl
    rw [this]
    simp only [List.length_cons]
    omega
theorem rsteps_range {f : Floor} (hv : validB f = true) {k : Nat} {s : SSlip} (hs : f.slips[k]? = some s) : 0 ≤ rstepsF f s ∧ rstepsF f s ≤ 240000 := by
  have hf := fine hv
  obtain ⟨_, h2, _⟩ := linesB_ok (hf.slips s (List.mem_of_getElem? hs)).2.2
  have := stateR_range (f := f) hf.carry1 s.lines (fun x hx => by
    obtain ⟨i, hi, rfl⟩ := List.mem_iff_getElem.1 hx
    obtain ⟨_, h4, d, h5, h6, h7⟩ := line_at hv hs (List.getElem?_eq_getElem hi)
    rw [h6]
    exact ⟨h4, h7⟩)
  unfold rstepsF
  omega
theorem below1 (w : World) (a : Obj) : Below w.heap.size w (w.alloc a) := (Below.refl _ _).alloc (Nat.le_refl _) _
theorem below2 (w : World) (a b : Obj) : Below w.heap.size w ((w.alloc a).alloc b) := (below1 w a).alloc (by simp) _
set_option maxRecDepth 100000 in
theorem rtakes_any (f : Floor) (hv : validB f = true) (n : Nat) (s : SSlip) (hs : f.slips[n]? = some s) (w : World) (h : FloorAt w w.heap.size f) :
    Calls Tryd.prog 62 #[f.val, vi n] w fun e w' => e = .returned (spanV (rtakesF f s)) ∧ Below w.heap.size w w' := by
  have hf := fine hv
  obtain ⟨hl1, hl2, _⟩ := linesB_ok (hf.slips s (List.mem_of_getElem? hs)).2.2
  have LA := Lib.hid (fun (i : Nat) (x : SLine) (hx : s.lines[i]? = some x) => line_at hv hs hx)
  have PA := Lib.hid (fun (i : Nat) (x : SLine) (hx : s.lines[i]? = some x) => pick_at hv hs hx)
  have ST := Lib.hid (fun (X : World) hX => rsteps_any f hv n s hs X hX)
  obtain ⟨p, hp⟩ : ∃ p, p = rstepsF f s := ⟨_, rfl⟩
  have hpr := rsteps_range hv hs
  rw [← hp] at hpr ST
  have TK := Lib.hid (fun (k : Nat) (x : SLine) (hx : s.lines[k]? = some x) => rtakesK_succ (f := f) (st := (p * f.slo, p * f.shi)) hx)
  obtain ⟨T, hT⟩ : ∃ T, T = rtakesK f s.lines (p * f.slo, p * f.shi) := ⟨_, rfl⟩
  have T0 : Hid (T 0 = (p * f.slo, p * f.shi)) := by unfold Hid; rw [hT]; simp [rtakesK]
  have TE : Hid (rtakesF f s = T s.lines.length) := by unfold Hid; rw [hT, rtakesK, List.take_length, rtakesF, ← hp]
  rw [← hT] at TK
  obtain ⟨an, han⟩ : ∃ an, an = rtakesF f s := ⟨_, rfl⟩
  rw [← han] at TE ⊢
  have hsp := hf.step
  have hn9 := hf.slips9
  have hfl := hf.far12
  have hpl := hf.picksl
  have hnlt : n < f.slips.length := (List.getElem?_eq_some_iff.1 hs).1
  have hnI : (n : Int) < f.slips.length := by omega
  have hn0 : (0 : Int) ≤ n := by omega
  have HF := Lib.hid h
  have HP := Lib.hid h.picks
  have hse := h.each s (List.mem_of_getElem? hs)
  have hscap := h.slips.lens
  have hpcap := h.picks.lens
  obtain ⟨bb, off, hsA, hbb, x0, x1⟩ := row2 h.slips.row hs rfl
  obtain ⟨sa, sc, sl, st⟩ := s
  simp only at hl1 hl2 LA PA TK TE hse x0 x1
  replace x0 : w.cell? ⟨bb, off + n * 2, none⟩ = some (.slice sa sl.length sc) := x0
  have hslc := hse.lens
  have HSE := Lib.hid hse
  clear hT han hp h hse hs
  have hlo : 0 ≤ p * f.slo ∧ p * f.slo ≤ 2400000 := by
    have h1 : p * f.slo ≤ 240000 * 10 := Int.mul_le_mul hpr.2 (by omega) (by omega) (by omega)
    exact ⟨Int.mul_nonneg hpr.1 (by omega), by omega⟩
  have hhi : 0 ≤ p * f.shi ∧ p * f.shi ≤ 2400000 := by
    have h1 : p * f.shi ≤ 240000 * 10 := Int.mul_le_mul hpr.2 (by omega) (by omega) (by omega)
    exact ⟨Int.mul_nonneg hpr.1 (by omega), by omega⟩
  obtain ⟨fA, fC, ff, slo, shi, pA, pC, fp, fc, sA, sC, fs⟩ := f
  simp only at hsA hnI hn9 hscap hpcap HP hfl hpl hnlt hsp T0 hlo hhi
  subst hsA
  obtain ⟨u, hu⟩ : ∃ u, p * slo = u := ⟨_, rfl⟩
  obtain ⟨v, hv2⟩ : ∃ v, p * shi = v := ⟨_, rfl⟩
  rw [hu, hv2] at T0
  rw [hu] at hlo
  rw [hv2] at hhi
  have hwu : IntKind.wrap .i64 (p * slo) = u := by rw [hu]; exact wrapI (by omega) (by omega)
  have hwv : IntKind.wrap .i64 (p * shi) = v := by rw [hv2]; exact wrapI (by omega) (by omega)
  show Calls Tryd.prog 62 #[.agg #[.slice fA ff.length fC, vi slo, vi shi, .slice pA fp.length pC, vi fc, .slice (some ⟨bb, off, none⟩) fs.length sC], vi n] w _
  have HPL := Lib.hid hpl
  clear hpl
  go_enter Tryd.func62, Tryd.ntmps62
  go_wp2_with fail
  refine (ST.out _ (HF.out.to (below2 _ _ _))).mono ?_
  rintro e W ⟨rfl, hb⟩
  have HB0 : Below w.heap.size w W := gr_trans (below2 _ _ _) hb
  have X0 : CellsBox W w.heap.size 28 [.slice fA ff.length fC, vi slo, vi shi, .slice pA fp.length pC, vi fc, .slice (some ⟨bb, off, none⟩) fs.length sC] := by
    refine CellsBox.keep (b := w.heap.size) (t := 28) (cs := [.slice fA ff.length fC, vi slo, vi shi, .slice pA fp.length pC, vi fc, .slice (some ⟨bb, off, none⟩) fs.length sC]) ?_ hb
    exact (CellsBox.new w 28 [.slice fA ff.length fC, vi slo, vi shi, .slice pA fp.length pC, vi fc, .slice (some ⟨bb, off, none⟩) fs.length sC]).alloc _
  have X1 : CellsBox W (w.heap.size + 1) 24 [vi 0, vi 0] := by
    refine CellsBox.keep (b := w.heap.size + 1) (t := 24) (cs := [vi 0, vi 0]) ?_ hb
    have := CellsBox.new (w.alloc (.cells #[.slice fA ff.length fC, vi slo, vi shi, .slice pA fp.length pC, vi fc, .slice (some ⟨bb, off, none⟩) fs.length sC] 28)) 24 [vi 0, vi 0]
    simpa using this
  have HX0 := Lib.hid X0
  have HX1 := Lib.hid X1
  have a1 := X0.cell (j := 1) rfl
  have a2 := X0.cell (j := 2) rfl
  have za := X0.lt
  clear hb X0 X1
  go_wp2_with fail
  refine (to_any _ _ _).mono ?_
  rintro e W1 ⟨rfl, hb1⟩
  have HB1 : Below w.heap.size w W1 := HB0.trans (hb1.mono HB0.size)
  have HX0 := Lib.hid (HX0.out.keep hb1)
  have HX1 := Lib.hid (HX1.out.keep hb1)
  have zW1 : w.heap.size + 1 < W1.heap.size := HX1.out.lt
  have c5 := HX0.out.cell (j := 5) rfl
  have zc := HX0.out.lt
  have y0 : W1.cell? ⟨bb, off + n * 2, none⟩ = some (.slice sa sl.length sc) := (HB1.cell hbb).trans x0
  have zb : bb < W1.heap.size := cell_lt y0
  clear a1 a2 za hb1 x0 x1 hbb
  go_wp2_with fail
  obtain ⟨V, hV⟩ : ∃ V, V = W1.alloc (.cells #[vi u, vi v] 24) := ⟨_, rfl⟩
  have hbV : Below W1.heap.size W1 V := by rw [hV]; exact (Below.refl _ _).alloc (Nat.le_refl _) _
  have X2 : CellsBox V W1.heap.size 24 [vi u, vi v] := by rw [hV]; exact CellsBox.new W1 _ _
  have HX0 := Lib.hid (HX0.out.keep hbV)
  have HX1 := Lib.hid (HX1.out.keep hbV)
  have HBV : Below w.heap.size w V := HB1.trans (hbV.mono HB1.size)
  have HX2 := Lib.hid X2
  rw [← hV]
  clear hV hbV X2 c5 zc y0 zb hwu hwv
  go_loopw [8] (fun i wr => ∃ (k : Nat) (u v : Int), k ≤ sl.length ∧ i = vi k ∧ Below w.heap.size w wr ∧ V.heap.size ≤ wr.heap.size ∧ Hid (CellsBox wr w.heap.size 28 [.slice fA ff.length fC, vi slo, vi shi, .slice pA fp.length pC, vi fc, .slice (some ⟨bb, off, none⟩) fs.length sC] ∧ CellsBox wr (w.heap.size + 1) 24 [vi 0, vi 0] ∧ CellsBox wr W1.heap.size 24 [vi u, vi v]) ∧ Hid (T k = (u, v)) ∧ 0 ≤ u ∧ u ≤ 2400000 + 6000 * k ∧ 0 ≤ v ∧ v ≤ 2400000 + 6000 * k) (fun i _ => sl.length - (intOf i).toNat)
  case atStart => exact ⟨0, u, v, Nat.zero_le _, rfl, HBV, Nat.le_refl _, ⟨HX0.out, HX1.out, HX2.out⟩, T0.out, by omega, by omega, by omega, by omega⟩
  obtain ⟨k, u', v', hk, rfl, hB, hsz, HX, HT, hu0, hu1, hv0, hv1⟩ := hrel
  have z2 := HX.out.2.2.lt
  by_cases hlt : k < sl.length
  · obtain ⟨x, hx⟩ : ∃ x, sl[k]? = some x := ⟨_, List.getElem?_eq_getElem hlt⟩
    obtain ⟨⟨hx1, hx2⟩, ⟨hx3, hx4⟩, _⟩ := LA.out k x hx
    obtain ⟨q, hq1, hq2, hq3, hq4, hq5⟩ := PA.out k x hx
    have TN := TK.out k x hx
    rw [HT.out, addP, hq2] at TN
    have HTN := Lib.hid TN
    obtain ⟨lb, lo, rfl, hlb, l0, l1⟩ := row2 (HSE.out.to hB).row hx rfl
    have HLB : Hid (lb < W1.heap.size) := by
      obtain ⟨lb', lo', e, hlb', _, _⟩ := row2 HSE.out.row hx rfl
      simp only [Option.some.injEq, Addr.mk.injEq] at e
      have := HB1.size
      unfold Hid
      omega
    obtain ⟨pb, po, rfl, hpb, q0, q1⟩ := row2 (HP.out.to hB).row hq1 rfl
    obtain ⟨xs, xm⟩ := x
    obtain ⟨qa, qb⟩ := q
    simp only at hx1 hx2 hx3 hx4 hq1 hq3 hq4 hq5 l0 l1 HTN q0 q1
    obtain ⟨j, rfl⟩ : ∃ j : Nat, xs = j := ⟨xs.toNat, by omega⟩
    simp only [Int.toNat_natCast] at q0 q1 hq1
    have hkI : (k : Int) < sl.length := by omega
    have hk0 : (0 : Int) ≤ k := by omega
    have hjI : (j : Int) < fp.length := by have := HPL.out; omega
    have hj0 : (0 : Int) ≤ j := by omega
    have zl : lb < wr.heap.size := hlb
    have zp : pb < wr.heap.size := hpb
    have m1 : 0 ≤ xm * qa ∧ xm * qa ≤ 6000 := ⟨Int.mul_nonneg (by omega) hq3, by have : xm * qa ≤ 20 * 300 := Int.mul_le_mul hx4 (by omega) hq3 (by omega); omega⟩
    have m2 : 0 ≤ xm * qb ∧ xm * qb ≤ 6000 := ⟨Int.mul_nonneg (by omega) (by omega), by have : xm * qb ≤ 20 * 300 := Int.mul_le_mul hx4 (by omega) (by omega) (by omega); omega⟩
    obtain ⟨ma, hma⟩ : ∃ ma, xm * qa = ma := ⟨_, rfl⟩
    obtain ⟨mb, hmb⟩ : ∃ mb, xm * qb = mb := ⟨_, rfl⟩
    rw [hma] at m1 HTN
    rw [hmb] at m2 HTN
    have hwa : IntKind.wrap .i64 (xm * qa) = ma := by rw [hma]; exact wrapI (by omega) (by omega)
    have hwb : IntKind.wrap .i64 (xm * qb) = mb := by rw [hmb]; exact wrapI (by omega) (by omega)
    have hwc : IntKind.wrap .i64 (u' + ma) = u' + ma := wrapI (by omega) (by omega)
    have hwd : IntKind.wrap .i64 (v' + mb) = v' + mb := wrapI (by omega) (by omega)
    have HMA := Lib.hid hma
    have HMB := Lib.hid hmb
    clear hx hq1 hq2 TN hma hmb
    go_wp2_with fail
    refine' wp_region_box (fun w' => Below wr.heap.size wr w') (fun a b h h' => gr_trans h h') [0, 1, 2, 3, 4, 5, 6, 7, 8] 2 69 (by kernel_rfl) (by kernel_rfl) rfl (by kernel_rfl) (by kernel_rfl) rfl (by kernel_rfl) ?hl5 (Below.refl _ _) ?hq5 ?hr5
    case hl5 =>
      simp only [List.map_cons, List.map_nil, List.getD_cons_zero, List.getD_cons_succ]
      exact rfl
    case hq5 =>
      intro w0 K
      have f3 := (HX.out.1.keep K).cell (j := 3) rfl
      have zf := (HX.out.1.keep K).lt
      have l0w := cell_keep K l0
      have l1w := cell_keep K l1
      have q0w := cell_keep K q0
      have q1w := cell_keep K q1
      have zlw : lb < w0.heap.size := cell_lt l0w
      have zpw : pb < w0.heap.size := cell_lt q0w
      (repeat (go_big_quiet_step (fail)))
      exact wpQuiet_nil rfl
    case hr5 =>
      refine wpUp_one (i := 9) (by kernel_rfl) rfl rfl (fun wa b1 b2 Ka hKa => ?_)
      go_simp
      obtain ⟨V9, hV9⟩ : ∃ V9, V9 = wa.alloc (.cells #[vi 0, vi 0] 24) := ⟨_, rfl⟩
      have hbV9 : Below wa.heap.size wa V9 := by rw [hV9]; exact below1 _ _
      have X9 : CellsBox V9 wa.heap.size 24 [vi 0, vi 0] := by rw [hV9]; exact CellsBox.new wa _ _
      rw [← hV9]
      clear hV9
      have hsa := b1.size
      refine hKa _ _ (gr_trans b1 hbV9) ?_
      refine wpUp_one (i := 10) (by kernel_rfl) rfl rfl (fun wc c1 c2 Kc hKc => ?_)
      have Y9 := X9.keep c1
      have d0 := Y9.cell (j := 0) rfl
      have d1 := Y9.cell (j := 1) rfl
      have e0 := Y9.frozen 0
      have e1 := Y9.frozen 1
      have zz := Y9.lt
      go_simp
      have Z9 := (Y9.store 0 (vi qa)).store 1 (vi qb)
      have hbc : Below wr.heap.size wr ((wc.setCell ⟨wa.heap.size, 0, none⟩ (vi qa)).setCell ⟨wa.heap.size, 1, none⟩ (vi qb)) := (c2.setCell hsa _).setCell hsa _
      refine hKc _ _ hbc (wpUp_done (by kernel_rfl) (fun W8 g1 g2 => NoPanic.normal ?_))
      have HZ8 : Hid (CellsBox W8 wa.heap.size 24 [vi qa, vi qb]) := Z9.keep g1
      have HB8 : Below wr.heap.size wr W8 := g2
      have hne : wa.heap.size ≠ W1.heap.size := by omega
      clear hKa hKc X9 Y9 d0 d1 e0 e1 zz Z9 hbc g1 g2 c1 c2 b1 b2 hbV9
      obtain ⟨b9, hb9⟩ : ∃ b9, b9 = wa.heap.size := ⟨_, rfl⟩
      rw [← hb9] at HZ8 hne ⊢
      clear hb9
      have l0w := cell_keep HB8 l0
      have l1w := cell_keep HB8 l1
      have zlw : lb < W8.heap.size := cell_lt l0w
      have HX2w := Lib.hid (HX.out.2.2.keep HB8)
      go_wp2_with fail
      have s0 := HX2w.out.cell (j := 0) rfl
      have s1 := HX2w.out.cell (j := 1) rfl
      have zs := HX2w.out.lt
      have t0 := HZ8.out.cell (j := 0) rfl
      have t1 := HZ8.out.cell (j := 1) rfl
      have zt := HZ8.out.lt
      have hSC : Stays (fun w' => Below W1.heap.size W8 w' ∧ CellsBox w' b9 24 [vi qa, vi qb]) := fun a b h h' => ⟨h.1.trans (h'.mono (by have := h.1.size; omega)), h.2.keep h'⟩
      refine' wp_region_box (fun w' => Below W1.heap.size W8 w' ∧ CellsBox w' b9 24 [vi qa, vi qb]) hSC [0, 2, 3, 4, 5, 6, 7, 8, 9, 11, 13, 14, 15, 16, 17, 18, 19, 20] 6 69 (by kernel_rfl) (by kernel_rfl) rfl (by kernel_rfl) (by kernel_rfl) rfl (by kernel_rfl) ?hl6 ⟨Below.refl _ _, HZ8.out⟩ ?hq6 ?hr6
      case hl6 =>
        simp only [List.map_cons, List.map_nil, List.getD_cons_zero, List.getD_cons_succ]
        exact rfl
      case hq6 =>
        intro w0 K
        have t0 := K.2.cell (j := 0) rfl
        have t1 := K.2.cell (j := 1) rfl
        have zt := K.2.lt
        have hlW : lb < W1.heap.size := HLB.out
        have l0v : w0.cell? ⟨lb, lo + k * 2, none⟩ = some (vi j) := (K.1.cell hlW).trans l0w
        have l1v : w0.cell? ⟨lb, lo + k * 2 + 1, none⟩ = some (vi xm) := (K.1.cell hlW).trans l1w
        have zlv : lb < w0.heap.size := cell_lt l0v
        (repeat (go_big_quiet_step (fail)))
        exact wpQuiet_nil rfl
      refine wpUp_two (i := 1) (j := 12) (by kernel_rfl) rfl rfl rfl rfl (fun wa u1 u2 Ka hKa => ?_) (fun wa u1 u2 Ka hKa => ?_)
      · skip
        have s0xp : wa.cell? ⟨W1.heap.size, 0, none⟩ = some (vi u') := cell_keep u1 s0
        have zxwa : W1.heap.size < wa.heap.size := cell_lt s0xp
        go_simp
        refine hKa _ _ u2 ?_
        refine' wpUp_more hSC [10] 4 69 (by kernel_rfl) (by kernel_rfl) (by kernel_rfl) rfl (by kernel_rfl) rfl ?hlap u2 ?hqap ?hrap
        case hlap =>
          simp only [List.map_cons, List.map_nil, List.getD_cons_zero, List.getD_cons_succ]
          exact rfl
        case hqap =>
          intro w0 hw0
          (repeat (go_big_quiet_step ((go_at_call 44; refine Calls.grow_of (to_any _ _ _)))))
          exact wpQuiet_nil rfl
        refine wpUp_one (i := 12) (by kernel_rfl) rfl rfl (fun wb x1 x2 Kb hKb => ?_)
        have uu := gr_trans u1 x1
        have s1xp : wb.cell? ⟨W1.heap.size, 1, none⟩ = some (vi v') := cell_keep uu s1
        have zxwb : W1.heap.size < wb.heap.size := cell_lt s1xp
        go_simp
        refine hKb _ _ x2 ?_
        refine' wpUp_more hSC [21, 22] 1 69 (by kernel_rfl) (by kernel_rfl) (by kernel_rfl) rfl (by kernel_rfl) rfl ?hlbp x2 ?hqbp ?hrbp
        case hlbp =>
          simp only [List.map_cons, List.map_nil, List.getD_cons_zero, List.getD_cons_succ]
          exact rfl
        case hqbp =>
          intro w0 hw0
          (repeat (go_big_quiet_step ((go_at_call 44; refine Calls.grow_of (to_any _ _ _)))))
          exact wpQuiet_nil rfl
        refine wpUp_one (i := 23) (by kernel_rfl) rfl rfl (fun wv y1 y2 Kc hKc => ?_)
        have HBv := gr_trans uu y1
        have k0 := cell_keep HBv s0
        have k1 := cell_keep HBv s1
        have q0 : wv.frozen? ⟨W1.heap.size, 0, none⟩ = false := (HX2w.out.keep HBv).frozen 0
        have q1 : wv.frozen? ⟨W1.heap.size, 1, none⟩ = false := (HX2w.out.keep HBv).frozen 1
        have zv : W1.heap.size < wv.heap.size := cell_lt k0
        go_simp
        refine hKc _ _ ⟨(y2.1.setCell (Nat.le_refl _) _).setCell (Nat.le_refl _) _, (y2.2.apart ⟨W1.heap.size, 0, none⟩ (vi (u' + ma)) hne).apart ⟨W1.heap.size, 1, none⟩ (vi (v' + mb)) hne⟩ (wpUp_done (by kernel_rfl) (fun W9 g1 g2 => NoPanic.normal ?_))
        have HBr : Below wr.heap.size wr wv := gr_trans HB8 HBv
        have hW1 := HB1.size
        have hWs := HBr.size
        have Z2 := (((HX2w.out.keep HBv).store 0 (vi (u' + ma))).store 1 (vi (v' + mb))).keep g1
        have Z0 := (((HX.out.1.keep HBr).apart ⟨W1.heap.size, 0, none⟩ (vi (u' + ma)) (by simp only; omega)).apart ⟨W1.heap.size, 1, none⟩ (vi (v' + mb)) (by simp only; omega)).keep g1
        have Z1 := (((HX.out.2.1.keep HBr).apart ⟨W1.heap.size, 0, none⟩ (vi (u' + ma)) (by simp only; omega)).apart ⟨W1.heap.size, 1, none⟩ (vi (v' + mb)) (by simp only; omega)).keep g1
        have ZB : Below w.heap.size w W9 := by
          have e1 := ((hB.trans (HBr.mono hB.size)).setCell (p := ⟨W1.heap.size, 0, none⟩) (by simp only; omega) (vi (u' + ma))).setCell (p := ⟨W1.heap.size, 1, none⟩) (by simp only; omega) (vi (v' + mb))
          exact e1.trans (g1.mono e1.size)
        have ZS : V.heap.size ≤ W9.heap.size := by have := g1.size; simp at this; omega
        clear hKa hKb hKc
        have HX9 := Lib.hid (And.intro Z0 (And.intro Z1 Z2))
        have B9 := ZB
        have S9 := ZS
        clear Z2 Z0 Z1 ZB ZS s0 s1 l0w l1w zlw l0 l1 g1 g2 k0 k1 q0 q1 zv y1 y2 uu x1 x2 u1 u2 HBv HBr
        go_wp2_with fail
        go_roundw
        case rel => exact ⟨k + 1, u' + ma, v' + mb, by omega, by go_num, B9, S9, HX9, HTN.out, by omega, by omega, by omega, by omega⟩
        case measure => simp [intOf]; omega
      · skip
        have s1xq : wa.cell? ⟨W1.heap.size, 1, none⟩ = some (vi v') := cell_keep u1 s1
        have zxwa : W1.heap.size < wa.heap.size := cell_lt s1xq
        go_simp
        refine hKa _ _ u2 ?_
        refine' wpUp_more hSC [21] 4 69 (by kernel_rfl) (by kernel_rfl) (by kernel_rfl) rfl (by kernel_rfl) rfl ?hlaq u2 ?hqaq ?hraq
        case hlaq =>
          simp only [List.map_cons, List.map_nil, List.getD_cons_zero, List.getD_cons_succ]
          exact rfl
        case hqaq =>
          intro w0 hw0
          (repeat (go_big_quiet_step ((go_at_call 44; refine Calls.grow_of (to_any _ _ _)))))
          exact wpQuiet_nil rfl
        refine wpUp_one (i := 1) (by kernel_rfl) rfl rfl (fun wb x1 x2 Kb hKb => ?_)
        have uu := gr_trans u1 x1
        have s0xq : wb.cell? ⟨W1.heap.size, 0, none⟩ = some (vi u') := cell_keep uu s0
        have zxwb : W1.heap.size < wb.heap.size := cell_lt s0xq
        go_simp
        refine hKb _ _ x2 ?_
        refine' wpUp_more hSC [10, 22] 1 69 (by kernel_rfl) (by kernel_rfl) (by kernel_rfl) rfl (by kernel_rfl) rfl ?hlbq x2 ?hqbq ?hrbq
        case hlbq =>
          simp only [List.map_cons, List.map_nil, List.getD_cons_zero, List.getD_cons_succ]
          exact rfl
        case hqbq =>
          intro w0 hw0
          (repeat (go_big_quiet_step ((go_at_call 44; refine Calls.grow_of (to_any _ _ _)))))
          exact wpQuiet_nil rfl
        refine wpUp_one (i := 23) (by kernel_rfl) rfl rfl (fun wv y1 y2 Kc hKc => ?_)
        have HBv := gr_trans uu y1
        have k0 := cell_keep HBv s0
        have k1 := cell_keep HBv s1
        have q0 : wv.frozen? ⟨W1.heap.size, 0, none⟩ = false := (HX2w.out.keep HBv).frozen 0
        have q1 : wv.frozen? ⟨W1.heap.size, 1, none⟩ = false := (HX2w.out.keep HBv).frozen 1
        have zv : W1.heap.size < wv.heap.size := cell_lt k0
        go_simp
        refine hKc _ _ ⟨(y2.1.setCell (Nat.le_refl _) _).setCell (Nat.le_refl _) _, (y2.2.apart ⟨W1.heap.size, 0, none⟩ (vi (u' + ma)) hne).apart ⟨W1.heap.size, 1, none⟩ (vi (v' + mb)) hne⟩ (wpUp_done (by kernel_rfl) (fun W9 g1 g2 => NoPanic.normal ?_))
        have HBr : Below wr.heap.size wr wv := gr_trans HB8 HBv
        have hW1 := HB1.size
        have hWs := HBr.size
        have Z2 := (((HX2w.out.keep HBv).store 0 (vi (u' + ma))).store 1 (vi (v' + mb))).keep g1
        have Z0 := (((HX.out.1.keep HBr).apart ⟨W1.heap.size, 0, none⟩ (vi (u' + ma)) (by simp only; omega)).apart ⟨W1.heap.size, 1, none⟩ (vi (v' + mb)) (by simp only; omega)).keep g1
        have Z1 := (((HX.out.2.1.keep HBr).apart ⟨W1.heap.size, 0, none⟩ (vi (u' + ma)) (by simp only; omega)).apart ⟨W1.heap.size, 1, none⟩ (vi (v' + mb)) (by simp only; omega)).keep g1
        have ZB : Below w.heap.size w W9 := by
          have e1 := ((hB.trans (HBr.mono hB.size)).setCell (p := ⟨W1.heap.size, 0, none⟩) (by simp only; omega) (vi (u' + ma))).setCell (p := ⟨W1.heap.size, 1, none⟩) (by simp only; omega) (vi (v' + mb))
          exact e1.trans (g1.mono e1.size)
        have ZS : V.heap.size ≤ W9.heap.size := by have := g1.size; simp at this; omega
        clear hKa hKb hKc
        have HX9 := Lib.hid (And.intro Z0 (And.intro Z1 Z2))
        have B9 := ZB
        have S9 := ZS
        clear Z2 Z0 Z1 ZB ZS s0 s1 l0w l1w zlw l0 l1 g1 g2 k0 k1 q0 q1 zv y1 y2 uu x1 x2 u1 u2 HBv HBr
        go_wp2_with fail
        go_roundw
        case rel => exact ⟨k + 1, u' + ma, v' + mb, by omega, by go_num, B9, S9, HX9, HTN.out, by omega, by omega, by omega, by omega⟩
        case measure => simp [intOf]; omega
  · obtain rfl : k = sl.length := by omega
    have E : Hid (an = (u', v')) := by unfold Hid; rw [TE.out, HT.out]
    have s0 := HX.out.2.2.cell (j := 0) rfl
    have s1 := HX.out.2.2.cell (j := 1) rfl
    have r0 := HX.out.2.1.cell (j := 0) rfl
    have r1 := HX.out.2.1.cell (j := 1) rfl
    have e0 := HX.out.2.1.frozen 0
    have e1 := HX.out.2.1.frozen 1
    have zr := HX.out.2.1.lt
    go_wp2_with fail
    have Z1 := (HX.out.2.1.store 0 (vi u')).store 1 (vi v')
    have o0 := Z1.cell (j := 0) rfl
    have o1 := Z1.cell (j := 1) rfl
    refine bodyPost_ret (v := .agg #[vi u', vi v']) (by simp [results, Tryd.results62, go_sem, o0, o1]) rfl ?_
    exact ⟨by rw [E.out], (hB.setCell (by simp only; omega) _).setCell (by simp only; omega) _⟩
end Go.Proofs.YtomgnpfpaodpiaaDoor

/- Contracts of the specification's Steps and Takes. -/
namespace Go.Proofs.YtomgnpfpaodpiaaDoor
open Go Go.RowKit
set_option maxHeartbeats 4000000
def rStepsV (f : Floor) (n : Int) : Int := if checkSlipV f n = 0 then (match f.slips[n.toNat]? with | some s => rstepsF f s | none => 0) else 0
def rTakesV (f : Floor) (n : Int) : Int × Int := if checkSlipV f n = 0 then (match f.slips[n.toNat]? with | some s => rtakesF f s | none => (0, 0)) else (0, 0)
set_option maxRecDepth 100000 in
theorem rSteps_any (f : Floor) (n : Int) (w : World) (h : FloorAt w w.heap.size f) :
    Calls Tryd.prog 19 #[f.val, vi n] w fun e w' => e = .returned (.tuple #[vi (rStepsV f n), vi (checkSlipV f n)]) ∧ Below w.heap.size w w' := by
  have HF := Lib.hid h
  have h3l := h.slips.lens
  obtain ⟨b, hb⟩ : ∃ b, slipB f n = b := ⟨_, rfl⟩
  have IS := Lib.hid (fun (W : World) => isSlip_is hb W h3l.2)
  obtain ⟨c, hc⟩ : ∃ c, checkSlipV f n = c := ⟨_, rfl⟩
  have AS := Lib.hid (fun (W : World) hW => asked_is (b := b) (e := c) (by rw [← hb, asked_slip, hc]) W hW)
  have X0 := CellsBox.new w 28 f.cells
  have HX := Lib.hid X0
  have hb0 : Below w.heap.size w (w.alloc (.cells f.cells.toArray 28)) := below1 _ _
  have a0 := X0.cell (j := 0) rfl
  have a1 := X0.cell (j := 1) rfl
  have a2 := X0.cell (j := 2) rfl
  have a3 := X0.cell (j := 3) rfl
  have a4 := X0.cell (j := 4) rfl
  have a5 := X0.cell (j := 5) rfl
  have za := X0.lt
  obtain ⟨V, hV⟩ : ∃ V, V = w.alloc (.cells f.cells.toArray 28) := ⟨_, rfl⟩
  rw [← hV] at X0 hb0 a0 a1 a2 a3 a4 a5 za HX
  have hFV : Hid (FloorAt V V.heap.size f) := HF.out.to hb0
  rcases check_cases f n with hbad | ⟨h0, hv, k, s, rfl, hs⟩
  · have hne : c ≠ 0 := by omega
    have hnb : (c != 0) = true := by simp; exact hne
    have E : Hid (rStepsV f n = 0) := by unfold Hid rStepsV; rw [if_neg (by omega)]
    obtain ⟨an, han⟩ : ∃ an, an = rStepsV f n := ⟨_, rfl⟩
    rw [← han] at E ⊢
    rw [hc]
    clear hbad hne hb hc han h X0
    show Calls Tryd.prog 19 #[.agg #[.slice f.fA f.far.length f.fC, vi f.slo, vi f.shi, .slice f.pA f.picks.length f.pC, vi f.carry, .slice f.sA f.slips.length f.sC], vi n] w _
    go_enter Tryd.func19, Tryd.ntmps19
    go_wp2_with fail
    rw [← show V = w.alloc (.cells #[.slice f.fA f.far.length f.fC, vi f.slo, vi f.shi, .slice f.pA f.picks.length f.pC, vi f.carry, .slice f.sA f.slips.length f.sC] 28) from hV]
    clear hV
    (refine wp_region_grow_lit (by kernel_rfl) (by kernel_rfl) ?_; (repeat (go_big_quiet_step (first | (go_at_call 55; refine Calls.grow_of (IS.out _)) | (go_at_call 54; refine Calls.grow_of (AS.out _ (hFV.out.to (plus_below _ _))))))); refine wpQuiet_nil ?_; intro w1 hw1; have hb1 := below_of_plus hw1; clear hw1; obtain ⟨⟨hc1, hf1, hs1⟩, hz1⟩ := after hb1; (try simp only [World.size_alloc, World.size_setCell, World.size_drew] at hz1))
    have HB1 : Below w.heap.size w w1 := hb0.trans (hb1.mono hb0.size)
    clear hb1 hc1 hf1 hs1 hz1 a0 a1 a2 a3 a4 a5 za
    go_wp2_with fail
    go_ret2
    exact ⟨by rw [E.out]; rfl, HB1⟩
  · rw [h0] at hc
    subst hc
    have hf := fine hv
    have ST := Lib.hid (fun (X : World) hX => rsteps_any f hv k s hs X hX)
    have E : Hid (rStepsV f k = rstepsF f s) := by unfold Hid rStepsV; rw [if_pos h0, Int.toNat_natCast, hs]
    obtain ⟨an, han⟩ : ∃ an, an = rstepsF f s := ⟨_, rfl⟩
    rw [← han] at ST E
    rw [E.out, h0]
    clear h0 hs hv hb h X0 han hf
    show Calls Tryd.prog 19 #[.agg #[.slice f.fA f.far.length f.fC, vi f.slo, vi f.shi, .slice f.pA f.picks.length f.pC, vi f.carry, .slice f.sA f.slips.length f.sC], vi k] w _
    go_enter Tryd.func19, Tryd.ntmps19
    go_wp2_with fail
    rw [← show V = w.alloc (.cells #[.slice f.fA f.far.length f.fC, vi f.slo, vi f.shi, .slice f.pA f.picks.length f.pC, vi f.carry, .slice f.sA f.slips.length f.sC] 28) from hV]
    clear hV
    (refine wp_region_grow_lit (by kernel_rfl) (by kernel_rfl) ?_; (repeat (go_big_quiet_step (first | (go_at_call 55; refine Calls.grow_of (IS.out _)) | (go_at_call 54; refine Calls.grow_of (AS.out _ (hFV.out.to (plus_below _ _))))))); refine wpQuiet_nil ?_; intro w1 hw1; have hb1 := below_of_plus hw1; clear hw1; obtain ⟨⟨hc1, hf1, hs1⟩, hz1⟩ := after hb1; (try simp only [World.size_alloc, World.size_setCell, World.size_drew] at hz1))
    have HB1 : Below w.heap.size w w1 := hb0.trans (hb1.mono hb0.size)
    have HX1 := HX.out.keep hb1
    have HF1 := Lib.hid (hFV.out.to hb1)
    have c0 := HX1.cell (j := 0) rfl
    have c1 := HX1.cell (j := 1) rfl
    have c2 := HX1.cell (j := 2) rfl
    have c3 := HX1.cell (j := 3) rfl
    have c4 := HX1.cell (j := 4) rfl
    have c5 := HX1.cell (j := 5) rfl
    have zc := HX1.lt
    clear hb1 hc1 hf1 hs1 hz1 a0 a1 a2 a3 a4 a5 za HX1
    go_wp2_with fail
    refine (ST.out _ HF1.out).mono ?_
    rintro e w2 ⟨rfl, hb2⟩
    have HB2 : Below w.heap.size w w2 := HB1.trans (hb2.mono HB1.size)
    clear hb2 c0 c1 c2 c3 c4 c5 zc
    go_wp2_with fail
    go_ret2
    exact ⟨rfl, HB2⟩
set_option maxRecDepth 100000 in
theorem rTakes_any (f : Floor) (n : Int) (w : World) (h : FloorAt w w.heap.size f) :
    Calls Tryd.prog 21 #[f.val, vi n] w fun e w' => e = .returned (.tuple #[spanV (rTakesV f n), vi (checkSlipV f n)]) ∧ Below w.heap.size w w' := by
  have HF := Lib.hid h
  have h3l := h.slips.lens
  obtain ⟨b, hb⟩ : ∃ b, slipB f n = b := ⟨_, rfl⟩
  have IS := Lib.hid (fun (W : World) => isSlip_is hb W h3l.2)
  obtain ⟨c, hc⟩ : ∃ c, checkSlipV f n = c := ⟨_, rfl⟩
  have AS := Lib.hid (fun (W : World) hW => asked_is (b := b) (e := c) (by rw [← hb, asked_slip, hc]) W hW)
  have X0 := (CellsBox.new w 28 f.cells).alloc (.cells #[vi 0, vi 0] 24)
  have XR0 := CellsBox.new (w.alloc (.cells f.cells.toArray 28)) 24 [vi 0, vi 0]
  rw [World.size_alloc] at XR0
  have HX := Lib.hid X0
  have hb0 : Below w.heap.size w ((w.alloc (.cells f.cells.toArray 28)).alloc (.cells #[vi 0, vi 0] 24)) := below2 _ _ _
  have a0 := X0.cell (j := 0) rfl
  have a1 := X0.cell (j := 1) rfl
  have a2 := X0.cell (j := 2) rfl
  have a3 := X0.cell (j := 3) rfl
  have a4 := X0.cell (j := 4) rfl
  have a5 := X0.cell (j := 5) rfl
  have za := X0.lt
  obtain ⟨V, hV⟩ : ∃ V, V = (w.alloc (.cells f.cells.toArray 28)).alloc (.cells #[vi 0, vi 0] 24) := ⟨_, rfl⟩
  rw [← hV] at X0 hb0 a0 a1 a2 a3 a4 a5 za HX XR0
  have HR := Lib.hid XR0
  clear XR0
  have hFV : Hid (FloorAt V V.heap.size f) := HF.out.to hb0
  rcases check_cases f n with hbad | ⟨h0, hv, k, s, rfl, hs⟩
  · have hne : c ≠ 0 := by omega
    have hnb : (c != 0) = true := by simp; exact hne
    have E : Hid (rTakesV f n = (0, 0)) := by unfold Hid rTakesV; rw [if_neg (by omega)]
    obtain ⟨an, han⟩ : ∃ an, an = rTakesV f n := ⟨_, rfl⟩
    rw [← han] at E ⊢
    rw [hc]
    clear hbad hne hb hc han h X0
    show Calls Tryd.prog 21 #[.agg #[.slice f.fA f.far.length f.fC, vi f.slo, vi f.shi, .slice f.pA f.picks.length f.pC, vi f.carry, .slice f.sA f.slips.length f.sC], vi n] w _
    go_enter Tryd.func21, Tryd.ntmps21
    go_wp2_with fail
    rw [← show V = (w.alloc (.cells #[.slice f.fA f.far.length f.fC, vi f.slo, vi f.shi, .slice f.pA f.picks.length f.pC, vi f.carry, .slice f.sA f.slips.length f.sC] 28)).alloc (.cells #[vi 0, vi 0] 24) from hV]
    clear hV
    (refine wp_region_grow_lit (by kernel_rfl) (by kernel_rfl) ?_; (repeat (go_big_quiet_step (first | (go_at_call 55; refine Calls.grow_of (IS.out _)) | (go_at_call 54; refine Calls.grow_of (AS.out _ (hFV.out.to (plus_below _ _))))))); refine wpQuiet_nil ?_; intro w1 hw1; have hb1 := below_of_plus hw1; clear hw1; obtain ⟨⟨hc1, hf1, hs1⟩, hz1⟩ := after hb1; (try simp only [World.size_alloc, World.size_setCell, World.size_drew] at hz1))
    have HB1 : Below w.heap.size w w1 := hb0.trans (hb1.mono hb0.size)
    have HR1 := HR.out.keep hb1
    have r0 := HR1.cell (j := 0) rfl
    have r1 := HR1.cell (j := 1) rfl
    have e0 := HR1.frozen 0
    have e1 := HR1.frozen 1
    have zr := HR1.lt
    clear hb1 hc1 hf1 hs1 hz1 a0 a1 a2 a3 a4 a5 za
    go_wp2_with fail
    have Z1 := (HR1.store 0 (vi 0)).store 1 (vi 0)
    have o0 := Z1.cell (j := 0) rfl
    have o1 := Z1.cell (j := 1) rfl
    refine bodyPost_ret (v := .tuple #[.agg #[vi 0, vi 0], vi c]) (by simp [results, Tryd.results21, go_sem, o0, o1]) rfl ?_
    exact ⟨by rw [E.out], (HB1.setCell (by simp) _).setCell (by simp) _⟩
  · rw [h0] at hc
    subst hc
    have hf := fine hv
    have ST := Lib.hid (fun (X : World) hX => rtakes_any f hv k s hs X hX)
    have E : Hid (rTakesV f k = rtakesF f s) := by unfold Hid rTakesV; rw [if_pos h0, Int.toNat_natCast, hs]
    obtain ⟨an, han⟩ : ∃ an, an = rtakesF f s := ⟨_, rfl⟩
    rw [← han] at ST E
    rw [E.out, h0]
    clear h0 hs hv hb h X0 han hf
    show Calls Tryd.prog 21 #[.agg #[.slice f.fA f.far.length f.fC, vi f.slo, vi f.shi, .slice f.pA f.picks.length f.pC, vi f.carry, .slice f.sA f.slips.length f.sC], vi k] w _
    go_enter Tryd.func21, Tryd.ntmps21
    go_wp2_with fail
    rw [← show V = (w.alloc (.cells #[.slice f.fA f.far.length f.fC, vi f.slo, vi f.shi, .slice f.pA f.picks.length f.pC, vi f.carry, .slice f.sA f.slips.length f.sC] 28)).alloc (.cells #[vi 0, vi 0] 24) from hV]
    clear hV
    (refine wp_region_grow_lit (by kernel_rfl) (by kernel_rfl) ?_; (repeat (go_big_quiet_step (first | (go_at_call 55; refine Calls.grow_of (IS.out _)) | (go_at_call 54; refine Calls.grow_of (AS.out _ (hFV.out.to (plus_below _ _))))))); refine wpQuiet_nil ?_; intro w1 hw1; have hb1 := below_of_plus hw1; clear hw1; obtain ⟨⟨hc1, hf1, hs1⟩, hz1⟩ := after hb1; (try simp only [World.size_alloc, World.size_setCell, World.size_drew] at hz1))
    have HB1 : Below w.heap.size w w1 := hb0.trans (hb1.mono hb0.size)
    have HX1 := HX.out.keep hb1
    have HB01 := hb1
    have HF1 := Lib.hid (hFV.out.to hb1)
    have c0 := HX1.cell (j := 0) rfl
    have c1 := HX1.cell (j := 1) rfl
    have c2 := HX1.cell (j := 2) rfl
    have c3 := HX1.cell (j := 3) rfl
    have c4 := HX1.cell (j := 4) rfl
    have c5 := HX1.cell (j := 5) rfl
    have zc := HX1.lt
    clear hb1 hc1 hf1 hs1 hz1 a0 a1 a2 a3 a4 a5 za HX1
    go_wp2_with fail
    refine (ST.out _ HF1.out).mono ?_
    rintro e w2 ⟨rfl, hb2⟩
    have HB2 : Below w.heap.size w w2 := HB1.trans (hb2.mono HB1.size)
    have HR1 := (HR.out.keep HB01).keep hb2
    have r0 := HR1.cell (j := 0) rfl
    have r1 := HR1.cell (j := 1) rfl
    have e0 := HR1.frozen 0
    have e1 := HR1.frozen 1
    have zr := HR1.lt
    clear hb2 c0 c1 c2 c3 c4 c5 zc
    obtain ⟨u, v⟩ := an
    go_wp2_with fail
    have Z1 := (HR1.store 0 (vi u)).store 1 (vi v)
    have o0 := Z1.cell (j := 0) rfl
    have o1 := Z1.cell (j := 1) rfl
    refine bodyPost_ret (v := .tuple #[.agg #[vi u, vi v], vi 0]) (by simp [results, Tryd.results21, go_sem, o0, o1]) rfl ?_
    exact ⟨rfl, (HB2.setCell (by simp) _).setCell (by simp) _⟩
end Go.Proofs.YtomgnpfpaodpiaaDoor

/- Contracts of what specifications share: Spin, Lot, Take, Place, Climbs, In, Of, Total, Ahead. -/
namespace Go.Proofs.YtomgnpfpaodpiaaDoor
open Go Go.RowKit
set_option maxHeartbeats 2000000
theorem findIdx_step {α : Type} {p : α → Bool} {l : List α} {k : Nat} {x : α} (h : ∀ y, y ∈ l.take k → p y = false) (hx : l[k]? = some x) (hp : p x = true) : l.findIdx? p = some k := by
  obtain ⟨hk, rfl⟩ := List.getElem?_eq_some_iff.1 hx
  rw [List.findIdx?_eq_some_iff_getElem]
  refine ⟨hk, hp, fun j hj => ?_⟩
  have := h l[j] (by rw [List.mem_take_iff_getElem]; exact ⟨j, by omega, rfl⟩)
  simp [this]
theorem take_step {α : Type} {p : α → Bool} {l : List α} {k : Nat} {x : α} (h : ∀ y, y ∈ l.take k → p y = false) (hx : l[k]? = some x) (hp : p x = false) : ∀ y, y ∈ l.take (k + 1) → p y = false := by
  obtain ⟨hk, rfl⟩ := List.getElem?_eq_some_iff.1 hx
  intro y hy
  rw [List.take_succ_eq_append_getElem hk] at hy
  rcases List.mem_append.1 hy with h1 | h1
  · exact h y h1
  · obtain rfl : y = l[k] := by simpa using h1
    exact hp
theorem spin_any (n m : Int) (w : World) (h0 : -9223372036854775808 ≤ n) (h1 : n ≤ 9223372036854775807) (h2 : m ≤ 9223372036854775807) :
    Calls Tryd.prog 36 #[vi n, vi m] w fun e w' => e = .returned (vi (spinI n m)) ∧ w = w' := by
  by_cases hm : m < 1
  · have E : Hid (spinI n m = 0) := if_pos hm
    go_enter Tryd.func36, Tryd.ntmps36
    go_wp2
    go_ret
    exact ⟨retI (by rw [E.out]), rfl⟩
  · have ha := Int.emod_nonneg n (b := m) (by omega)
    have hb := Int.emod_lt_of_pos n (b := m) (by omega)
    have E0 : Hid (spinI n m = n % m) := if_neg hm
    by_cases hk : n.tmod m < 0
    · have e := spin_neg (by omega) hk
      have E : Hid (wrap64 (n.tmod m + m) = n % m) := by rw [e]; exact IntWalk.wrap64_in _ ⟨by omega, by omega⟩
      clear e
      go_enter Tryd.func36, Tryd.ntmps36
      go_wp2
      go_ret
      exact ⟨retI (by rw [E0.out, ← E.out]), rfl⟩
    · have E := Lib.hid (spin_pos (n := n) (m := m) (by omega) (by omega))
      go_enter Tryd.func36, Tryd.ntmps36
      go_wp2
      go_ret
      exact ⟨retI (by rw [E0.out, ← E.out]), rfl⟩
theorem lot_any (a b n : Int) (w : World) (ha : -9223372036854775808 ≤ a) (hb : b ≤ 9223372036854775807) (hab : b - a < 9223372036854775807) (hn : -9223372036854775808 ≤ n) (hn' : n ≤ 9223372036854775807) (ha' : a ≤ 9223372036854775807) (hb' : -9223372036854775808 ≤ b) :
    Calls Tryd.prog 49 #[.agg #[vi a, vi b], vi n] w fun e w' => e = .returned (vi (lotI a b n)) ∧ Below w.heap.size w w' := by
  by_cases h : b ≤ a
  · go_enter Tryd.func49, Tryd.ntmps49
    go_wp2
    go_ret
    refine ⟨retI (by rw [lotI, if_pos h]), ?_⟩
    (repeat (first | exact Below.refl _ _ | refine Below.setCell ?_ (by first | omega | (simp; omega) | (simp; done)) _ | refine Below.alloc ?_ (by first | omega | (simp; omega) | (simp; done)) _ | refine Below.drew ?_ | refine below_drewN ?_ _ | refine Below.trans ?_ (Below.mono (by assumption) (by first | omega | (simp; omega) | (simp; done)))))
  · obtain ⟨p0, p1⟩ := spin_range n (b - a + 1) (by omega)
    have E : Hid (wrap64 (a + spinI n (b - a + 1)) = lotI a b n) := by rw [lotI, if_neg h]; exact IntWalk.wrap64_in _ ⟨by omega, by omega⟩
    go_enter Tryd.func49, Tryd.ntmps49
    go_wp2_with fail
    (refine wp_region_grow_lit (by kernel_rfl) (by kernel_rfl) ?_; (repeat (go_big_quiet_step ((go_at_call 36; refine Calls.grow_same (spin_any _ _ _ (by omega) (by omega) (by omega)))))); refine wpQuiet_nil ?_; intro w1 hw1; have hb1 := below_of_plus hw1; clear hw1; obtain ⟨⟨hc1, hf1, hs1⟩, hz1⟩ := after hb1; (try simp only [World.size_alloc, World.size_setCell, World.size_drew] at hz1))
    go_wp2
    go_ret
    refine ⟨retI (by first | exact E.out | (rw [← E.out, IntWalk.wrap64_in _ ⟨by omega, by omega⟩])), ?_⟩
    (repeat (first | exact Below.refl _ _ | refine Below.setCell ?_ (by first | omega | (simp; omega) | (simp; done)) _ | refine Below.alloc ?_ (by first | omega | (simp; omega) | (simp; done)) _ | refine Below.drew ?_ | refine below_drewN ?_ _ | refine Below.trans ?_ (Below.mono (by assumption) (by first | omega | (simp; omega) | (simp; done)))))
def placeF (l : List Int) (n : Int) : Int := match l.findIdx? fun e => e == n with | some k => k | none => -1
theorem place_free (A : Option Addr) (cap : Nat) (l : List Int) (n : Int) (w : World) (hh : IntsAt w w.heap.size A l.length l) :
    Calls Tryd.prog 83 #[.slice A l.length cap, vi n] w fun e w' => e = .returned (vi (placeF l n)) ∧ w = w' := by
  have hcap := hh.lens
  go_enter Tryd.func83, Tryd.ntmps83
  go_wp2
  go_loopw [5] (fun i wr => ∃ k : Nat, k ≤ l.length ∧ i = .int .i64 k ∧ wr = w ∧ Hid (∀ y, y ∈ l.take k → (y == n) = false)) (fun i _ => l.length - (intOf i).toNat)
  case atStart => exact ⟨0, Nat.zero_le _, rfl, rfl, by simp [Hid]⟩
  case round =>
    obtain ⟨k, hk, rfl, rfl, hno⟩ := hrel
    by_cases hlt : k < l.length
    · obtain ⟨x, hx⟩ : ∃ x, l[k]? = some x := ⟨_, List.getElem?_eq_getElem hlt⟩
      obtain ⟨bb, off, rfl, hb, c0⟩ := ints_at hh hx
      have Hx := Lib.hid hx
      clear hx
      rcases hq : x == n with _ | _
      · have hst := Lib.hid (take_step (p := fun y : Int => y == n) hno.out Hx.out hq)
        go_wp2
        go_roundw
        case rel => exact ⟨k + 1, by omega, by go_num, trivial, hst⟩
        case measure => simp [intOf]; omega
      · have E : Hid (placeF l n = (k : Int)) := by unfold Hid placeF; rw [findIdx_step (p := fun y : Int => y == n) hno.out Hx.out hq]
        go_wp2
        go_ret
        exact ⟨retI E.out.symm, rfl⟩
    · obtain rfl : k = l.length := by omega
      have E : Hid (placeF l n = -1) := by
        have := hno.out
        rw [List.take_length] at this
        unfold Hid placeF
        rw [List.findIdx?_eq_none_iff.2 this]
      go_wp2
      go_ret
      exact ⟨retI E.out.symm, rfl⟩
def climbsB (n : Int) : Int → List Int → Bool
  | _, [] => true
  | b, x :: r => decide (b < x) && (decide (x < n) && climbsB n x r)
theorem climbs_step {n b : Int} {l : List Int} {k : Nat} {x : Int} (h : climbsB n b (l.drop k) = true) (hx : l[k]? = some x) : b < x ∧ x < n ∧ climbsB n x (l.drop (k + 1)) = true := by
  obtain ⟨hk, rfl⟩ := List.getElem?_eq_some_iff.1 hx
  rw [List.drop_eq_getElem_cons hk, climbsB] at h
  simp only [Bool.and_eq_true, decide_eq_true_eq] at h
  exact h
theorem climbs_yes (A : Option Addr) (cap : Nat) (l : List Int) (n : Int) (w : World) (hh : IntsAt w w.heap.size A cap l) (hc : climbsB n (-1) l = true) :
    Calls Tryd.prog 43 #[.slice A l.length cap, vi n] w fun e w' => e = .returned (.bool true) ∧ w' = w := by
  have hcap := hh.lens
  have HC := Lib.hid hc
  clear hc
  go_enter Tryd.func43, Tryd.ntmps43
  go_wp2
  go_loopw [5, 6] (fun b i wr => ∃ (k : Nat) (m : Int), k ≤ l.length ∧ i = .int .i64 k ∧ b = vi m ∧ wr = w ∧ Hid (climbsB n m (l.drop k) = true)) (fun _ i _ => l.length - (intOf i).toNat)
  case atStart => exact ⟨0, -1, Nat.zero_le _, rfl, rfl, rfl, by have := HC.out; unfold Hid; simpa using this⟩
  case round =>
    obtain ⟨k, m, hk, rfl, rfl, rfl, hc⟩ := hrel
    by_cases hlt : k < l.length
    · obtain ⟨x, hx⟩ : ∃ x, l[k]? = some x := ⟨_, List.getElem?_eq_getElem hlt⟩
      obtain ⟨bb, off, rfl, hb, c0⟩ := ints_at hh hx
      obtain ⟨h1, h2, h3⟩ := climbs_step hc.out hx
      have H3 := Lib.hid h3
      have hltI : (k : Int) < l.length := by omega
      have h0I : (0 : Int) ≤ k := by omega
      clear hx h3
      go_wp2
      go_roundw
      case rel => exact ⟨k + 1, x, by omega, by go_num, rfl, trivial, H3⟩
      case measure => simp [intOf]; omega
    · obtain rfl : k = l.length := by omega
      go_wp2
      go_ret
      exact ⟨rfl, rfl⟩
/-- the number of a list that a number chooses -/
def takeI (l : List Int) (n : Int) : Int := if l = [] then 0 else (l[(spinI n l.length).toNat]?).getD 0
set_option maxRecDepth 100000 in
theorem take_any (A : Option Addr) (cap : Nat) (l : List Int) (n : Int) (w : World) (hh : IntsAt w w.heap.size A cap l) (h0 : -9223372036854775808 ≤ n) (h1 : n ≤ 9223372036854775807) :
    Calls Tryd.prog 81 #[.slice A l.length cap, vi n] w fun e w' => e = .returned (vi (takeI l n)) ∧ Below w.heap.size w w' := by
  have hl := hh.lens
  by_cases hn : l = []
  · subst hn
    have E : Hid (takeI [] n = 0) := rfl
    have hz : (([] : List Int).length : Int) = 0 := rfl
    clear hh
    go_enter Tryd.func81, Tryd.ntmps81
    go_wp2
    go_ret
    exact ⟨retI E.out.symm, Below.refl _ _⟩
  · have hpos : 1 ≤ l.length := by
      cases l with
      | nil => exact absurd rfl hn
      | cons _ _ => simp
    obtain ⟨p0, p1⟩ := spin_range n l.length (by omega)
    obtain ⟨j, hj⟩ : ∃ j : Nat, spinI n l.length = j := ⟨(spinI n l.length).toNat, by omega⟩
    obtain ⟨x, hx⟩ : ∃ x, l[j]? = some x := ⟨_, List.getElem?_eq_getElem (by omega)⟩
    have E : Hid (takeI l n = x) := by unfold Hid takeI; rw [if_neg hn, hj, Int.toNat_natCast, hx]; rfl
    have SP := Lib.hid (fun (W : World) => (hj ▸ spin_any n l.length W h0 h1 (by omega)))
    have hne : ((l.length : Int) == 0) = false := by simp; omega
    have hjI : (j : Int) < l.length := by omega
    have hj0 : (0 : Int) ≤ j := by omega
    have HH := Lib.hid hh
    obtain ⟨bb, off, rfl, hbb, c0⟩ := ints_at hh hx
    clear hx hj p0 p1 hh
    go_enter Tryd.func81, Tryd.ntmps81
    go_wp2_with fail
    refine (SP.out _).mono ?_
    rintro e w1 ⟨rfl, rfl⟩
    go_wp2
    go_ret
    exact ⟨retI E.out.symm, Below.refl _ _⟩
theorem in_any (m s : Nat) (hm : m < 512) (hs : s < 9) (w : World) :
    Calls Tryd.prog 84 #[vi m, vi s] w fun e w' => e = .returned (.bool (m.testBit s)) ∧ w = w' := by
  have h1 : (0 : Int) ≤ s := by omega
  have h2 : (s : Int) < 9 := by omega
  go_enter Tryd.func84, Tryd.ntmps84
  go_wp2_with fail
  go_ret
  exact ⟨retB (has_fact ⟨s, hs⟩ ⟨m, hm⟩), rfl⟩
theorem in_is {m s : Nat} {b : Bool} (hb : m.testBit s = b) (hm : m < 512) (hs : s < 9) (w : World) :
    Calls Tryd.prog 84 #[vi m, vi s] w fun e w' => e = .returned (.bool b) ∧ w = w' := by
  subst hb
  exact in_any m s hm hs w
/-- all numbers of a set that are below a number -/
theorem of_set_any (m n : Nat) (hm : m < 512) (hn : n ≤ 9) (w : World) :
    Calls Tryd.prog 47 #[vi m, vi n] w fun e w' => ∃ A cap, e = .returned (.slice A (membersK m n).length cap) ∧ IntsAt w' w'.heap.size A cap (natsC (membersK m n)) ∧ (∀ b, A = some b → w.heap.size ≤ b.block) ∧ Below w.heap.size w w' := by
  obtain ⟨i0, hi, hy0, hy1, hy2⟩ := info_parts info_int
  have HX : Hid (∀ k : Nat, k < n → ∃ b : Bool, m.testBit k = b ∧ membersK m (k + 1) = membersK m k ++ (if b then [k] else [])) := fun k hk => ⟨_, rfl, membersK_succ m k⟩
  have HL : Hid (∀ k, (membersK m k).length ≤ k) := membersK_le m
  have H0 : Hid (membersK m 0 = []) := rfl
  obtain ⟨S, hS⟩ : ∃ S, S = fun k => membersK m k := ⟨_, rfl⟩
  have eS : ∀ k, membersK m k = S k := fun k => by rw [hS]
  simp only [eS] at HX HL H0 ⊢
  clear eS hS
  go_enter Tryd.func47, Tryd.ntmps47
  go_wp2_with fail
  go_loopw [5, 6] (fun v i wr => ∃ k : Nat, k ≤ n ∧ i = .int .i64 k ∧ Below w.heap.size w wr ∧ wr.ownsRow w.heap.size 3 1 v (S k).length ((natsC (S k)).map vi)) (fun _ i _ => n - (intOf i).toNat)
  case atStart => exact ⟨0, Nat.zero_le _, rfl, Below.refl _ _, by rw [H0.out]; simpa using World.ownsRow_nil _ _ _ _⟩
  obtain ⟨k, hk, rfl, hB, hown⟩ := hrel
  have hz := hB.size
  by_cases hlt : k < n
  · obtain ⟨b, hb, S1⟩ := HX.out k hlt
    have HS1 := Lib.hid S1
    have HLk := HL.out k
    have IN := Lib.hid (fun W => in_is hb hm (show k < 9 by omega) W)
    have hkI : (k : Int) < n := by omega
    obtain ⟨L, hL⟩ : ∃ L, L = S k := ⟨_, rfl⟩
    rw [← hL] at hown HS1 HLk
    clear hL S1 hb
    obtain ⟨A', c', rfl, h1, h2⟩ := own_form hown
    go_wp2_with fail
    refine (IN.out _).mono ?_
    rintro e W2 ⟨rfl, rfl⟩
    rcases b with _ | _
    · go_wp2_with fail
      go_roundw
      case rel =>
        refine ⟨k + 1, by omega, by go_num, hB, ?_⟩
        rw [HS1.out]
        simpa using hown
      case measure => simp [intOf]; omega
    · go_wp2_with (at_builtin; go_loud (refine wpList_append_own _ rfl _ _ 22 rfl w.heap.size 3 i0 (.int .i64 0) 1 8 Tryd.underlying22 hi hy0 hy1 hy2 rfl (by decide) _ _ _ rfl (hown.alloc _) ⟨wr.heap.size, 0, none⟩ 1 1 [vi k] rfl rfl (cell_one_new _ _ _) (by simp [Value.oneCell']) (by unfold maxLen; omega) (by omega) (by simp; omega) ?_; intro v5 w5 hown5 hgrow5 _))
      have HB5 : Below w.heap.size w w5 := Below.grown (hB.alloc (by omega) _) hgrow5 (by simp; omega) (fun j e => (hown.lt j e).1)
      obtain ⟨A5, c5, rfl, -, -⟩ := own_form hown5
      go_roundw
      case rel =>
        refine ⟨k + 1, by omega, by go_num, HB5, ?_⟩
        rw [HS1.out]
        simpa using hown5
      case measure => simp [intOf]; omega
  · obtain rfl : k = n := by omega
    have hlen := HL.out k
    rw [← intC_flat] at hown
    obtain ⟨A', c', rfl, h1, h2, h3⟩ := own_rows (m := (natsC (S k)).map intC) (intC_one _) hown (by simp) (by omega)
    go_wp2_with fail
    go_ret
    exact ⟨A', c', rfl, ⟨by simp; omega, by unfold maxLen at h2; omega, h3.few, h3.row⟩, fun b hb => (hown.lt b.block (by rw [hb]; rfl)).1, hB⟩
def sumI (l : List Int) : Int := l.sum
end Go.Proofs.YtomgnpfpaodpiaaDoor

/- Contract of the specification's Walk. -/
namespace Go.Proofs.YtomgnpfpaodpiaaDoor
open Go Go.RowKit
set_option maxHeartbeats 4000000
def lastShelf (l : List SLine) : Int := match l[l.length - 1]? with | some x => x.shelf | none => 0
def goesF (f : Floor) (t : STour) : Int := 2 * (f.far[(lastShelf t.lines).toNat]?).getD 0
def walkF (f : Floor) (ts : List STour) : Int := (ts.map (goesF f)).sum
def walkK (f : Floor) (ts : List STour) (k : Nat) : Int := walkF f (ts.take k)
theorem walkK_succ {f : Floor} {ts : List STour} {k : Nat} {t : STour} (h : ts[k]? = some t) : walkK f ts (k + 1) = walkK f ts k + goesF f t := by
  obtain ⟨hk, rfl⟩ := List.getElem?_eq_some_iff.1 h
  unfold walkK walkF
  rw [List.take_succ_eq_append_getElem hk, List.map_append, List.sum_append]
  simp
set_option maxRecDepth 100000 in
theorem Walk_any (f : Floor) (hv : validB f = true) (A : Option Addr) (cap : Nat) (ts : List STour) (hok : ∀ t ∈ ts, 1 ≤ t.lines.length ∧ ∀ x ∈ t.lines, 0 ≤ x.shelf ∧ x.shelf < f.far.length) (w : World) (h : FloorAt w w.heap.size f) (ht : ToursAt w w.heap.size A cap ts) :
    Calls Tryd.prog 24 #[f.val, .slice A ts.length cap] w fun e w' => e = .returned (vi (walkF f ts)) ∧ Below w.heap.size w w' := by
  have hf := fine hv
  have HF := Lib.hid h.far
  have htl := ht.rows.lens
  have hfl := h.far.lens
  have HT := Lib.hid ht
  have HS : Hid (∀ (k : Nat) (t : STour), ts[k]? = some t → ∃ (x : SLine) (d : Int), t.lines[t.lines.length - 1]? = some x ∧ 1 ≤ t.lines.length ∧ 0 ≤ x.shelf ∧ x.shelf < f.far.length ∧ f.far[x.shelf.toNat]? = some d ∧ 0 ≤ d ∧ d ≤ 500 ∧ walkK f ts (k + 1) = walkK f ts k + 2 * d) := fun k t hk => by
    obtain ⟨h1, h2⟩ := hok t (List.mem_of_getElem? hk)
    have hlt : t.lines.length - 1 < t.lines.length := by omega
    have hx : t.lines[t.lines.length - 1]? = some t.lines[t.lines.length - 1] := List.getElem?_eq_getElem hlt
    obtain ⟨h3, h4⟩ := h2 _ (List.getElem_mem hlt)
    have hlt2 : (t.lines[t.lines.length - 1].shelf).toNat < f.far.length := by omega
    have hd := List.getElem?_eq_getElem hlt2
    have hd2 := hf.fars _ (List.getElem_mem hlt2)
    refine ⟨_, _, hx, h1, h3, h4, hd, hd2.1, hd2.2, ?_⟩
    rw [walkK_succ hk, goesF, lastShelf, hx]
    simp only
    rw [hd]
    rfl
  obtain ⟨T, hT⟩ : ∃ T, T = walkK f ts := ⟨_, rfl⟩
  have T0 : Hid (T 0 = 0) := by unfold Hid; rw [hT]; rfl
  have TE : Hid (walkF f ts = T ts.length) := by unfold Hid; rw [hT, walkK, List.take_length]
  rw [← hT] at HS
  obtain ⟨an, han⟩ : ∃ an, an = walkF f ts := ⟨_, rfl⟩
  rw [← han] at TE ⊢
  clear hT han hok h ht hf hv
  obtain ⟨fA, fC, ff, slo, shi, pA, pC, fp, fc, sA, sC, fs⟩ := f
  simp only at HF hfl HS
  show Calls Tryd.prog 24 #[.agg #[.slice fA ff.length fC, vi slo, vi shi, .slice pA fp.length pC, vi fc, .slice sA fs.length sC], .slice A ts.length cap] w _
  have hb0 := below1 w (.cells #[.slice fA ff.length fC, vi slo, vi shi, .slice pA fp.length pC, vi fc, .slice sA fs.length sC] 28)
  have X0 := CellsBox.new w 28 [.slice fA ff.length fC, vi slo, vi shi, .slice pA fp.length pC, vi fc, .slice sA fs.length sC]
  go_enter Tryd.func24, Tryd.ntmps24
  go_wp2_with fail
  obtain ⟨W, hW⟩ : ∃ W, W = w.alloc (.cells #[.slice fA ff.length fC, vi slo, vi shi, .slice pA fp.length pC, vi fc, .slice sA fs.length sC] 28) := ⟨_, rfl⟩
  rw [← hW] at hb0 ⊢
  have HX : Hid (CellsBox W w.heap.size 28 [.slice fA ff.length fC, vi slo, vi shi, .slice pA fp.length pC, vi fc, .slice sA fs.length sC]) := by rw [hW]; exact X0
  clear hW X0
  go_loopw [5, 6] (fun v i wr => ∃ (k : Nat) (p : Int), k ≤ ts.length ∧ i = .int .i64 k ∧ v = vi p ∧ Below W.heap.size W wr ∧ Hid (T k = p) ∧ 0 ≤ p ∧ p ≤ 1000 * k) (fun _ i _ => ts.length - (intOf i).toNat)
  case atStart => exact ⟨0, 0, Nat.zero_le _, rfl, rfl, Below.refl _ _, T0.out, by omega, by omega⟩
  obtain ⟨k, p, hk, rfl, rfl, hB, hTk, hp0, hp1⟩ := hrel
  have HTK := Lib.hid hTk.out
  clear hTk
  have HBr : Below w.heap.size w wr := hb0.trans (hB.mono hb0.size)
  by_cases hlt : k < ts.length
  · obtain ⟨t, htk⟩ : ∃ t, ts[k]? = some t := ⟨_, List.getElem?_eq_getElem hlt⟩
    obtain ⟨x, d, hx, hl1, hx0, hx1, hd, hd0, hd1, hTn⟩ := HS.out k t htk
    have HTN : Hid (T (k + 1) = p + 2 * d) := by unfold Hid; rw [hTn, HTK.out]
    have hte := (HT.out.to HBr).each t (List.mem_of_getElem? htk)
    obtain ⟨tb, tf, rfl, htb, t0⟩ := row1 (HT.out.to HBr).rows.row htk rfl
    obtain ⟨tA, tc, tl⟩ := t
    simp only at hx hl1 hte
    replace t0 : wr.cell? ⟨tb, tf + k, none⟩ = some (.slice tA tl.length tc) := t0
    obtain ⟨i, hi⟩ : ∃ i, i = tl.length - 1 := ⟨_, rfl⟩
    rw [← hi] at hx
    have htc := hte.lens
    obtain ⟨lb, lf, rfl, hlb, l0, l1⟩ := row2 hte.row hx rfl
    obtain ⟨xs, xm⟩ := x
    simp only at hx0 hx1 hd l0 l1
    obtain ⟨j, rfl⟩ : ∃ j : Nat, xs = j := ⟨xs.toNat, by omega⟩
    rw [Int.toNat_natCast] at hd
    obtain ⟨fb, fo, rfl, hfb, f0⟩ := ints_at (HF.out.to HBr) hd
    have hw1 : IntKind.wrap .i64 ((tl.length : Int) - 1) = i := by rw [wrapI (by omega) (by omega)]; omega
    have hiI : (i : Int) < tl.length := by omega
    have hi0 : (0 : Int) ≤ i := by omega
    have hkI : (k : Int) < ts.length := by omega
    have hk0 : (0 : Int) ≤ k := by omega
    have hj0 : (0 : Int) ≤ j := by omega
    have hwa : IntKind.wrap .i64 (2 * d) = 2 * d := wrapI (by omega) (by omega)
    have hwb : IntKind.wrap .i64 (p + 2 * d) = p + 2 * d := wrapI (by omega) (by omega)
    have a0 := (HX.out.keep hB).cell (j := 0) rfl
    have za := (HX.out.keep hB).lt
    clear htk hx hd hTn hte hi
    go_wp2_with fail
    (refine wp_region_grow_lit (by kernel_rfl) (by kernel_rfl) ?_; (repeat (go_big_quiet_step (fail))); refine wpQuiet_nil ?_; intro w1 hw1; have hb1 := below_of_plus hw1; clear hw1; obtain ⟨⟨hc1, hf1, hs1⟩, hz1⟩ := after hb1; (try simp only [World.size_alloc, World.size_setCell, World.size_drew] at hz1))
    go_wp2_with fail
    go_roundw
    case rel => exact ⟨k + 1, p + 2 * d, by omega, by go_num, rfl, gr_trans hB hb1, HTN.out, by omega, by omega⟩
    case measure => simp [intOf]; omega
  · obtain rfl : k = ts.length := by omega
    have E : Hid (an = p) := by unfold Hid; rw [TE.out, HTK.out]
    go_wp2_with fail
    go_ret
    exact ⟨retI E.out.symm, HBr⟩
end Go.Proofs.YtomgnpfpaodpiaaDoor

