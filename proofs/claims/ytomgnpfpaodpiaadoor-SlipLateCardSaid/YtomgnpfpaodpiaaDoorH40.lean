/- Contract of the specification's steps. -/
import Derived.Test.YtomgnpfpaodpiaaDoorH39
set_option linter.unusedVariables false
set_option linter.unusedSimpArgs false
namespace Go.Proofs.YtomgnpfpaodpiaaDoor
open Go Go.RowKit
set_option maxHeartbeats 4000000
/-- one piece more, from the farthest on: how many steps so far, and how many more can be carried -/
def stepP (C far : Int) (st : Int × Int) : Int × Int := if st.2 = 0 then (st.1 + 2 * far, C - 1) else (st.1, st.2 - 1)
def iterP (g : Int × Int → Int × Int) : Nat → Int × Int → Int × Int
  | 0, st => st
  | n + 1, st => g (iterP g n st)
def stateR (f : Floor) (l : List SLine) : Int × Int := l.foldr (fun x st => iterP (stepP f.carry (farF f x)) x.many.toNat st) (0, 0)
def rstepsF (f : Floor) (s : SSlip) : Int := (stateR f s.lines).1
theorem stateR_drop {f : Floor} {l : List SLine} {i : Nat} {x : SLine} (h : l[i]? = some x) : stateR f (l.drop i) = iterP (stepP f.carry (farF f x)) x.many.toNat (stateR f (l.drop (i + 1))) := by
  obtain ⟨hi, rfl⟩ := List.getElem?_eq_some_iff.1 h
  rw [List.drop_eq_getElem_cons hi]
  rfl
theorem line_at {f : Floor} (hv : validB f = true) {k : Nat} {s : SSlip} (hs : f.slips[k]? = some s) {i : Nat} {x : SLine} (hx : s.lines[i]? = some x) : (0 ≤ x.shelf ∧ x.shelf < f.far.length) ∧ (1 ≤ x.many ∧ x.many ≤ 20) ∧ ∃ d, f.far[x.shelf.toNat]? = some d ∧ farF f x = d ∧ 0 ≤ d ∧ d ≤ 500 := by
  have hf := fine hv
  obtain ⟨_, _, h3⟩ := linesB_ok (hf.slips s (List.mem_of_getElem? hs)).2.2
  obtain ⟨g1, g2, g3, g4⟩ := h3 i x hx
  have hlt : x.shelf.toNat < f.far.length := by omega
  refine ⟨⟨g1, g2⟩, ⟨g3, g4⟩, f.far[x.shelf.toNat], List.getElem?_eq_getElem hlt, ?_, hf.fars _ (List.getElem_mem _)⟩
  unfold farF
  rw [List.getElem?_eq_getElem hlt]
  rfl
set_option maxRecDepth 100000 in
theorem rsteps_any (f : Floor) (hv : validB f = true) (n : Nat) (s : SSlip) (hs : f.slips[n]? = some s) (w : World) (h : FloorAt w w.heap.size f) :
    Calls Tryd.prog 60 #[f.val, vi n] w fun e w' => e = .returned (vi (rstepsF f s)) ∧ Below w.heap.size w w' := by
  have hf := fine hv
  obtain ⟨hl1, hl2, _⟩ := linesB_ok (hf.slips s (List.mem_of_getElem? hs)).2.2
  have LA := Lib.hid (fun (i : Nat) (x : SLine) (hx : s.lines[i]? = some x) => line_at hv hs hx)
  have SD := Lib.hid (fun (i : Nat) (x : SLine) (hx : s.lines[i]? = some x) => stateR_drop (f := f) hx)
  have hc1 := hf.carry1
  have hc2 := hf.carry20
  have hn9 := hf.slips9
  have hfl := hf.far12
  have hnlt : n < f.slips.length := (List.getElem?_eq_some_iff.1 hs).1
  have hnI : (n : Int) < f.slips.length := by omega
  have hn0 : (0 : Int) ≤ n := by omega
  have HF := Lib.hid h.far
  have hse := h.each s (List.mem_of_getElem? hs)
  have hscap := h.slips.lens
  have hfcap := h.far.lens
  obtain ⟨bb, off, hsA, hbb, x0, x1⟩ := row2 h.slips.row hs rfl
  obtain ⟨sa, sc, sl, st⟩ := s
  simp only at hl1 hl2 LA SD hse x0 x1
  replace x0 : w.cell? ⟨bb, off + n * 2, none⟩ = some (.slice sa sl.length sc) := x0
  have hslc := hse.lens
  have HSE := Lib.hid hse
  obtain ⟨T, hT⟩ : ∃ T, T = fun i => stateR f (sl.drop i) := ⟨_, rfl⟩
  have SD2 : Hid (∀ (i : Nat) (x : SLine), sl[i]? = some x → T i = iterP (stepP f.carry (farF f x)) x.many.toNat (T (i + 1))) := fun i x hx => by rw [hT]; exact SD.out i x hx
  have T0 : Hid (T sl.length = (0, 0)) := by unfold Hid; rw [hT]; simp [stateR]
  have TE : Hid (rstepsF f ⟨sa, sc, sl, st⟩ = (T 0).1) := by unfold Hid; rw [hT]; rfl
  obtain ⟨an, han⟩ : ∃ an, an = rstepsF f ⟨sa, sc, sl, st⟩ := ⟨_, rfl⟩
  rw [← han] at TE ⊢
  clear SD hT han h hse hs
  obtain ⟨fA, fC, ff, slo, shi, pA, pC, fp, fc, sA, sC, fs⟩ := f
  simp only at hsA hnI hn9 hscap hfcap HF hc1 hc2 hfl hnlt
  subst hsA
  show Calls Tryd.prog 60 #[.agg #[.slice fA ff.length fC, vi slo, vi shi, .slice pA fp.length pC, vi fc, .slice (some ⟨bb, off, none⟩) fs.length sC], vi n] w _
  have hb0 : Below w.heap.size w (w.alloc (.cells #[.slice fA ff.length fC, vi slo, vi shi, .slice pA fp.length pC, vi fc, .slice (some ⟨bb, off, none⟩) fs.length sC] 28)) := (Below.refl _ _).alloc (Nat.le_refl _) _
  have X0 := CellsBox.new w 28 [.slice fA ff.length fC, vi slo, vi shi, .slice pA fp.length pC, vi fc, .slice (some ⟨bb, off, none⟩) fs.length sC]
  have hw1 : IntKind.wrap .i64 ((sl.length : Int) - 1) = (sl.length : Int) - 1 := wrapI (by omega) (by omega)
  go_enter Tryd.func60, Tryd.ntmps60
  go_wp2_with fail
  obtain ⟨W, hW⟩ : ∃ W, W = w.alloc (.cells #[.slice fA ff.length fC, vi slo, vi shi, .slice pA fp.length pC, vi fc, .slice (some ⟨bb, off, none⟩) fs.length sC] 28) := ⟨_, rfl⟩
  rw [← hW] at hb0 X0 ⊢
  have HX := Lib.hid X0
  have HB0 := hb0
  clear hW X0 hb0 x0 x1 hbb hnI hn0
  go_loopw [6, 7, 8] (fun vn vr vj wr => ∃ (m : Nat) (p r : Int), m ≤ sl.length ∧ vj = vi ((m : Int) - 1) ∧ vn = vi p ∧ vr = vi r ∧ Below W.heap.size W wr ∧ Hid (T m = (p, r)) ∧ 0 ≤ p ∧ p ≤ 20000 * (sl.length - m : Nat) ∧ 0 ≤ r ∧ r ≤ 20) (fun _ _ j _ => (intOf j + 1).toNat)
  case atStart => exact ⟨sl.length, 0, 0, Nat.le_refl _, by go_num, rfl, rfl, Below.refl _ _, T0.out, by omega, by simp, by omega, by omega⟩
  obtain ⟨m, p, r, hm, rfl, rfl, rfl, hB, hTm, hp0, hp1, hr0, hr1⟩ := hrel
  have HBr : Below w.heap.size w wr := HB0.trans (hB.mono HB0.size)
  have HTM := Lib.hid hTm.out
  clear hTm
  cases m with
  | zero =>
    have E : Hid (an = p) := by unfold Hid; rw [TE.out, HTM.out]
    have e1 : ((0 : Nat) : Int) - 1 = -1 := by omega
    rw [e1]
    go_wp2_with fail
    go_ret
    exact ⟨retI E.out.symm, HBr⟩
  | succ i =>
    have e1 : ((i + 1 : Nat) : Int) - 1 = i := by omega
    rw [e1]
    obtain ⟨x, hx⟩ : ∃ x, sl[i]? = some x := ⟨_, List.getElem?_eq_getElem (by omega)⟩
    obtain ⟨⟨hx1, hx2⟩, ⟨hx3, hx4⟩, d, hd1, hd2, hd3, hd4⟩ := LA.out i x hx
    have SDI := SD2.out i x hx
    rw [HTM.out, hd2] at SDI
    have HSD := Lib.hid SDI
    obtain ⟨lb, lo, rfl, hlb, l0, l1⟩ := row2 (HSE.out.to HBr).row hx rfl
    obtain ⟨fb, fo, rfl, hfb, f0⟩ := ints_at (HF.out.to HBr) hd1
    obtain ⟨xs, xm⟩ := x
    simp only at hx1 hx2 hx3 hx4 hd1 l0 l1 HSD f0
    obtain ⟨q, rfl⟩ : ∃ q : Nat, xs = q := ⟨xs.toNat, by omega⟩
    obtain ⟨c, rfl⟩ : ∃ c : Nat, xm = c := ⟨xm.toNat, by omega⟩
    simp only [Int.toNat_natCast] at f0 HSD hd1
    have hiI : (i : Int) < sl.length := by omega
    have hi0 : (0 : Int) ≤ i := by omega
    have hq0 : (0 : Int) ≤ q := by omega
    have hw2 : IntKind.wrap .i64 ((i : Int) - 1) = (i : Int) - 1 := wrapI (by omega) (by omega)
    clear hx SDI hd1 hd2
    go_wp2_with fail
    obtain ⟨wo, rfl⟩ : ∃ wo : World, wo = wr := ⟨_, rfl⟩
    have HXo := Lib.hid (HX.out.keep hB)
    have HBo := hB
    clear hB HBr
    go_loopw [6, 7, 9] (fun vn vr vk wr => ∃ (k : Nat) (p' r' : Int), k ≤ c ∧ vk = vi k ∧ vn = vi p' ∧ vr = vi r' ∧ Below wo.heap.size wo wr ∧ Hid (iterP (stepP fc d) k (p, r) = (p', r')) ∧ 0 ≤ p' ∧ p' ≤ p + 1000 * k ∧ 0 ≤ r' ∧ r' ≤ 20) (fun _ _ j _ => c - (intOf j).toNat)
    case atStart => exact ⟨0, p, r, Nat.zero_le _, rfl, rfl, rfl, Below.refl _ _, rfl, hp0, by omega, hr0, hr1⟩
    obtain ⟨k, p', r', hk, rfl, rfl, rfl, hB, hIt, hp0', hp1', hr0', hr1'⟩ := hrel
    have HIT := Lib.hid hIt.out
    clear hIt
    have HXr := Lib.hid (HXo.out.keep hB)
    have a0 := HXr.out.cell (j := 0) rfl
    have a3 := HXr.out.cell (j := 4) rfl
    have za := HXr.out.lt
    have l0r := cell_keep hB l0
    have l1r := cell_keep hB l1
    have f0r := cell_keep hB f0
    have zl : lb < wr.heap.size := cell_lt l0r
    have zf : fb < wr.heap.size := cell_lt f0r
    have HBw := gr_trans HBo hB
    by_cases hlt : k < c
    · have hkI : (k : Int) < c := by omega
      have NX : Hid (iterP (stepP fc d) (k + 1) (p, r) = stepP fc d (p', r')) := by unfold Hid; rw [iterP, HIT.out]
      have hwk : IntKind.wrap .i64 ((k : Int) + 1) = (k : Int) + 1 := wrapI (by omega) (by omega)
      by_cases hr : r' = 0
      · subst hr
        have hwa : IntKind.wrap .i64 (2 * d) = 2 * d := wrapI (by omega) (by omega)
        have hwb : IntKind.wrap .i64 (p' + 2 * d) = p' + 2 * d := wrapI (by omega) (by omega)
        have hwc : IntKind.wrap .i64 (fc - 1) = fc - 1 := wrapI (by omega) (by omega)
        have NY : Hid (iterP (stepP fc d) (k + 1) (p, r) = (p' + 2 * d, fc - 1)) := by unfold Hid; rw [NX.out, stepP]; rfl
        go_wp2_with fail
        (refine wp_region_grow_lit (by kernel_rfl) (by kernel_rfl) ?_; (repeat (go_big_quiet_step (fail))); refine wpQuiet_nil ?_; intro w1 hw1; have hb1 := below_of_plus hw1; clear hw1; obtain ⟨⟨hc1, hf1, hs1⟩, hz1⟩ := after hb1; (try simp only [World.size_alloc, World.size_setCell, World.size_drew] at hz1))
        have b3 := (HXr.out.keep hb1).cell (j := 4) rfl
        have zb := (HXr.out.keep hb1).lt
        have HB1 := gr_trans hB hb1
        clear hb1 hc1 hf1 hs1 hz1
        go_wp2_with fail
        go_roundw
        case rel => exact ⟨k + 1, p' + 2 * d, fc - 1, by omega, by go_num, rfl, rfl, HB1, NY.out, by omega, by omega, by omega, by omega⟩
        case measure => simp [intOf]; omega
      · have hre : (r' == 0) = false := by simpa using hr
        have hwc : IntKind.wrap .i64 (r' - 1) = r' - 1 := wrapI (by omega) (by omega)
        have NY : Hid (iterP (stepP fc d) (k + 1) (p, r) = (p', r' - 1)) := by unfold Hid; rw [NX.out, stepP, if_neg hr]
        go_wp2_with fail
        go_roundw
        case rel => exact ⟨k + 1, p', r' - 1, by omega, by go_num, rfl, rfl, hB, NY.out, by omega, by omega, by omega, by omega⟩
        case measure => simp [intOf]; omega
    · obtain rfl : k = c := by omega
      have TI : Hid (T i = (p', r')) := by unfold Hid; rw [HSD.out, HIT.out]
      go_wp2_with fail
      go_roundw
      case rel => exact ⟨i, p', r', by omega, by go_num, rfl, rfl, HBw, TI.out, by omega, by omega, by omega, by omega⟩
      case measure => first | (simp [intOf]; done) | (simp [intOf]; omega)
end Go.Proofs.YtomgnpfpaodpiaaDoor

