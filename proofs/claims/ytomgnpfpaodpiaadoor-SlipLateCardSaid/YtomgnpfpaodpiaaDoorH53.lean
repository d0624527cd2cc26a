/- Contract of sound: it says whether a floor is valid. -/
import Derived.Test.YtomgnpfpaodpiaaDoorH42
import Derived.Test.YtomgnpfpaodpiaaDoorH46
import Derived.Test.YtomgnpfpaodpiaaDoorH50
import Derived.Test.YtomgnpfpaodpiaaDoorH38
import Derived.Test.YtomgnpfpaodpiaaDoorH51
import Derived.Deep.CutRange
set_option linter.unusedVariables false
set_option linter.unusedSimpArgs false
namespace Go.Proofs.YtomgnpfpaodpiaaDoor
open Go Go.RowKit
set_option maxHeartbeats 4000000
theorem valid_shelf {f : Floor} (hv : validB f = true) {k : Nat} {x : Int} {q : Int × Int} (hx : f.far[k]? = some x) (hq : f.picks[k]? = some q) : hasB 0 500 x = true ∧ properB q.1 q.2 0 300 = true ∧ ∀ (i : Nat) (p : Int), k = i + 1 → f.far[i]? = some p → p ≤ x := by
  have hk : k < f.far.length := (List.getElem?_eq_some_iff.1 hx).1
  rw [valid_head, Bool.and_eq_true, Bool.and_eq_true, List.all_eq_true] at hv
  have hg := hv.2.1 k (List.mem_range.2 hk)
  rw [goodShelf_of hx hq, Bool.and_eq_true, Bool.and_eq_true, ← proper_within] at hg
  refine ⟨hg.1.1, hg.2, fun i p hi hp => ?_⟩
  subst hi
  have hc := hg.1.2
  change (match f.far[i]? with | some p => decide (p ≤ x) | none => true) = true at hc
  rw [hp] at hc
  simpa using hc
theorem valid_line {f : Floor} (hv : validB f = true) {n : Nat} {s : SSlip} (hs : f.slips[n]? = some s) : ∀ (m : Nat) (x : SLine), s.lines[m]? = some x → hasB 0 ((f.far.length : Int) - 1) x.shelf = true ∧ hasB 1 20 x.many = true ∧ (m : Int) ≤ x.shelf ∧ ∀ (i : Nat) (p : SLine), m = i + 1 → s.lines[i]? = some p → p.shelf < x.shelf := by
  have hl := (slip_lines hv hs).1
  unfold linesR at hl
  rw [List.all_eq_true] at hl
  have key : ∀ (m : Nat) (x : SLine), s.lines[m]? = some x → (nextF s.lines m ≤ x.shelf ∧ x.shelf ≤ (f.far.length : Int) - 1) ∧ hasB 1 20 x.many = true := fun m x hx => by
    have hg := hl m (List.mem_range.2 (List.getElem?_eq_some_iff.1 hx).1)
    rw [goodLine_ref hx, Bool.and_eq_true, hasB_iff] at hg
    exact hg
  intro m
  induction m with
  | zero =>
    intro x hx
    obtain ⟨⟨h1, h2⟩, h3⟩ := key 0 x hx
    have h1 : 0 ≤ x.shelf := h1
    exact ⟨hasB_iff.2 ⟨h1, h2⟩, h3, by omega, fun i p hi => by omega⟩
  | succ m ih =>
    intro x hx
    obtain ⟨⟨h1, h2⟩, h3⟩ := key (m + 1) x hx
    have hm : m < s.lines.length := by have := (List.getElem?_eq_some_iff.1 hx).1; omega
    have hp := ih _ (List.getElem?_eq_getElem hm)
    rw [nextF_succ (List.getElem?_eq_getElem hm)] at h1
    refine ⟨hasB_iff.2 ⟨by omega, h2⟩, h3, by omega, fun i p hi hip => ?_⟩
    obtain rfl : i = m := by omega
    rw [List.getElem?_eq_getElem hm] at hip
    obtain rfl := Option.some.inj hip
    omega
theorem valid_count {f : Floor} (hv : validB f = true) {n : Nat} {s : SSlip} (hs : f.slips[n]? = some s) : hasB 0 100000 s.till = true ∧ hasB 1 f.far.length s.lines.length = true := by
  have hp := (valid_parts hv).2.2.2.2.2.2 n s hs
  have h1 := (slip_lines hv hs).2.2.1
  have hlt : s.lines.length - 1 < s.lines.length := by omega
  obtain ⟨h2, _, h3, _⟩ := valid_line hv hs _ _ (List.getElem?_eq_getElem hlt)
  rw [hasB_iff] at h2
  exact ⟨hasB_iff.2 hp.1, hasB_iff.2 ⟨by omega, by omega⟩⟩
theorem sound_no (f : Floor) (w : World) (hl : Lim w) (h : FloorAt w w.heap.size f) (hv : validB f = false) :
    Calls Tryd.prog 35 #[f.val] w fun e w' => e = .returned (.bool false) ∧ Below w.heap.size w w' := by
  have VA := Lib.hid (fun (W : World) hL hW => check_is (f := f) (e := 30) (by unfold checkV; simp [hv]) W hL hW)
  have HL := Lib.hid hl
  have HF := Lib.hid h
  clear h hl hv
  obtain ⟨fA, fC, ff, slo, shi, pA, pC, fp, fc, sA, sC, fs⟩ := f
  show Calls Tryd.prog 35 #[.agg #[.slice fA ff.length fC, vi slo, vi shi, .slice pA fp.length pC, vi fc, .slice sA fs.length sC]] w _
  go_enter Tryd.func35, Tryd.ntmps35
  go_wp2_with fail
  refine (VA.out _ (HL.out.next (by (repeat (first | exact Below.refl _ _ | refine Below.setCell ?_ (by first | omega | (simp; omega) | (simp; done)) _ | refine Below.alloc ?_ (by first | omega | (simp; omega) | (simp; done)) _ | refine Below.drew ?_ | refine below_drewN ?_ _ | refine Below.trans ?_ (Below.mono (by assumption) (by first | omega | (simp; omega) | (simp; done))))))) (HF.out.to (by (repeat (first | exact Below.refl _ _ | refine Below.setCell ?_ (by first | omega | (simp; omega) | (simp; done)) _ | refine Below.alloc ?_ (by first | omega | (simp; omega) | (simp; done)) _ | refine Below.drew ?_ | refine below_drewN ?_ _ | refine Below.trans ?_ (Below.mono (by assumption) (by first | omega | (simp; omega) | (simp; done)))))))).mono ?_
  rintro e W ⟨rfl, hb⟩
  have HB0 : Below w.heap.size w W := by (repeat (first | exact Below.refl _ _ | refine Below.setCell ?_ (by first | omega | (simp; omega) | (simp; done)) _ | refine Below.alloc ?_ (by first | omega | (simp; omega) | (simp; done)) _ | refine Below.drew ?_ | refine below_drewN ?_ _ | refine Below.trans ?_ (Below.mono (by assumption) (by first | omega | (simp; omega) | (simp; done)))))
  clear hb
  go_wp2_with fail
  go_rounds 2
  go_wp2_with fail
  go_rounds 2
  go_wp2_with fail
  go_ret
  exact ⟨rfl, HB0⟩
set_option maxRecDepth 100000 in
theorem sound_yes (f : Floor) (w : World) (hl : Lim w) (h : FloorAt w w.heap.size f) (hv : validB f = true) :
    Calls Tryd.prog 35 #[f.val] w fun e w' => e = .returned (.bool true) ∧ Below w.heap.size w w' := by
  have VA := Lib.hid (fun (W : World) hL hW => check_is (f := f) (e := 0) (by unfold checkV; simp [hv]) W hL hW)
  have HL := Lib.hid hl
  have HF := Lib.hid h
  have h1l := h.far.lens
  have h2l := h.picks.lens
  have h3l := h.slips.lens
  have SF := Lib.hid (fun (k : Nat) (x : Int) (q : Int × Int) hx hq => valid_shelf (f := f) hv (k := k) (x := x) (q := q) hx hq)
  have SL := Lib.hid (fun (n : Nat) (s : SSlip) hs => valid_line (f := f) hv (n := n) (s := s) hs)
  have SC := Lib.hid (fun (n : Nat) (s : SSlip) hs => valid_count (f := f) hv (n := n) (s := s) hs)
  have hh : headB f = true := by rw [valid_head, Bool.and_eq_true] at hv; exact hv.1
  clear h hl hv
  unfold headB at hh
  simp only [Bool.and_eq_true, decide_eq_true_eq] at hh
  obtain ⟨fA, fC, ff, slo, shi, pA, pC, fp, fc, sA, sC, fs⟩ := f
  simp only at h1l h2l h3l hh SF SL SC
  obtain ⟨h1, h2, h3, h4, h5⟩ := hh
  have H1 := Lib.hid h1
  have H3 := Lib.hid h3
  have H4 := Lib.hid h4
  have h2e : ((fp.length : Int) == (ff.length : Int)) = true := by simp [h2]
  have h5d : decide ((fs.length : Int) ≤ 9) = true := by simp; omega
  have H2 := Lib.hid h2
  show Calls Tryd.prog 35 #[.agg #[.slice fA ff.length fC, vi slo, vi shi, .slice pA fp.length pC, vi fc, .slice sA fs.length sC]] w _
  clear h1 h3 h4 h2
  go_enter Tryd.func35, Tryd.ntmps35
  go_wp2_with fail
  refine (VA.out _ (HL.out.next (by (repeat (first | exact Below.refl _ _ | refine Below.setCell ?_ (by first | omega | (simp; omega) | (simp; done)) _ | refine Below.alloc ?_ (by first | omega | (simp; omega) | (simp; done)) _ | refine Below.drew ?_ | refine below_drewN ?_ _ | refine Below.trans ?_ (Below.mono (by assumption) (by first | omega | (simp; omega) | (simp; done))))))) (HF.out.to (by (repeat (first | exact Below.refl _ _ | refine Below.setCell ?_ (by first | omega | (simp; omega) | (simp; done)) _ | refine Below.alloc ?_ (by first | omega | (simp; omega) | (simp; done)) _ | refine Below.drew ?_ | refine below_drewN ?_ _ | refine Below.trans ?_ (Below.mono (by assumption) (by first | omega | (simp; omega) | (simp; done)))))))).mono ?_
  rintro e W0 ⟨rfl, hb0⟩
  have HB00 : Below w.heap.size w W0 := by (repeat (first | exact Below.refl _ _ | refine Below.setCell ?_ (by first | omega | (simp; omega) | (simp; done)) _ | refine Below.alloc ?_ (by first | omega | (simp; omega) | (simp; done)) _ | refine Below.drew ?_ | refine below_drewN ?_ _ | refine Below.trans ?_ (Below.mono (by assumption) (by first | omega | (simp; omega) | (simp; done)))))
  have X00 : CellsBox W0 w.heap.size 28 [.slice fA ff.length fC, vi slo, vi shi, .slice pA fp.length pC, vi fc, .slice sA fs.length sC] := (CellsBox.new w _ _).keep hb0
  have a0 := X00.cell (j := 0) rfl
  have a1 := X00.cell (j := 1) rfl
  have a2 := X00.cell (j := 2) rfl
  have a3 := X00.cell (j := 3) rfl
  have a4 := X00.cell (j := 4) rfl
  have a5 := X00.cell (j := 5) rfl
  have za := X00.lt
  have HX0 := Lib.hid X00
  clear hb0 X00
  go_wp2_with (first | (go_at_call_of 39 ff; refine (tween_is H1.out _).mono ?_; rintro e w1 ⟨rfl, rfl⟩) | (go_at_call 58; refine (proper_is H3.out _).mono ?_; rintro e w1 ⟨rfl, hb1⟩; obtain ⟨⟨hc1, hf1, hs1⟩, hz1⟩ := after hb1; (try simp only [World.size_alloc, World.size_setCell, World.size_drew] at hz1)) | (go_at_call_of 39 fc; refine (tween_is H4.out _).mono ?_; rintro e w1 ⟨rfl, rfl⟩))
  have HB1 : Below W0.heap.size W0 w1 := hb1
  have HB0 : Below w.heap.size w w1 := HB00.trans (HB1.mono HB00.size)
  have HX := Lib.hid (HX0.out.keep HB1)
  clear hb1 hc1 hf1 hs1 hz1 HX0 h2e h5d a0 a1 a2 a3 a4 a5 za HB00 HB1
  obtain ⟨W, rfl⟩ : ∃ W, W = w1 := ⟨_, rfl⟩
  go_loopw [3, 4] (fun ok i wr => ∃ (k : Nat), k ≤ ff.length ∧ i = .int .i64 k ∧ ok = .bool true ∧ Below W.heap.size W wr) (fun _ i _ => ff.length - (intOf i).toNat)
  case atStart => exact ⟨0, Nat.zero_le _, rfl, rfl, Below.refl _ _⟩
  obtain ⟨k, hk, rfl, rfl, hB⟩ := hrel
  have HBr : Below w.heap.size w wr := HB0.trans (hB.mono HB0.size)
  have XR := HX.out.keep hB
  have a0 := XR.cell (j := 0) rfl
  have a2 := XR.cell (j := 3) rfl
  have a5 := XR.cell (j := 5) rfl
  have za := XR.lt
  have HXR := Lib.hid XR
  clear XR
  by_cases hlt : k < ff.length
  · obtain ⟨x, hx⟩ : ∃ x, ff[k]? = some x := ⟨_, List.getElem?_eq_getElem hlt⟩
    obtain ⟨q, hq⟩ : ∃ q, fp[k]? = some q := ⟨_, List.getElem?_eq_getElem (by have := H2.out; omega)⟩
    obtain ⟨pb, po, rfl, hpb, q0, q1⟩ := row2 (HF.out.picks.to HBr).row hq rfl
    obtain ⟨t1, t2, t3⟩ := SF.out k x q hx hq
    have T1 := Lib.hid t1
    have T2 := Lib.hid t2
    have hkI : (k : Int) < ff.length := by omega
    have hkP : (k : Int) < fp.length := by have := H2.out; omega
    have h0k : (0 : Int) ≤ k := by omega
    clear hq t1 t2
    obtain ⟨qa, qb⟩ := q
    simp only at q0 q1 T2
    obtain ⟨bb, off, rfl, hbb, x0⟩ := ints_at (HF.out.far.to HBr) hx
    have zbb : bb < wr.heap.size := hbb
    rcases hz : ((k : Int) == 0) with _ | _
    · have hk1 : 1 ≤ k := by have := beq_eq_false_iff_ne.1 hz; omega
      obtain ⟨i, hi⟩ : ∃ i, k = i + 1 := ⟨k - 1, by omega⟩
      obtain ⟨p, hp⟩ : ∃ p, ff[i]? = some p := ⟨_, List.getElem?_eq_getElem (by omega)⟩
      have t4 := t3 i p hi hp
      obtain ⟨b', off', e', hbb', p0⟩ := ints_at (HF.out.far.to HBr) hp
      simp only [Option.some.injEq, Addr.mk.injEq, and_true] at e'
      obtain ⟨rfl, rfl⟩ := e'
      have hd : decide (p ≤ x) = true := by simp [t4]
      have hw1 : IntKind.wrap .i64 ((k : Int) - 1) = (i : Int) := by rw [wrapI (by omega) (by omega)]; omega
      have hiI : (i : Int) < ff.length := by omega
      have h0i : (0 : Int) ≤ i := by omega
      clear hx hp t3 t4 hk1 hi
      go_wp2_with fail
      (refine wp_region_grow_lit (by kernel_rfl) (by kernel_rfl) ?_; (repeat (go_big_quiet_step (first | (go_at_call 39; refine Calls.grow_same (tween_is T1.out _)) | (go_at_call 58; refine Calls.grow_of (proper_is T2.out _))))); refine wpQuiet_nil ?_; intro w1 hw1; have hb1 := below_of_plus hw1; clear hw1; obtain ⟨⟨hc1, hf1, hs1⟩, hz1⟩ := after hb1; (try simp only [World.size_alloc, World.size_setCell, World.size_drew] at hz1))
      go_wp2_with fail
      go_roundw
      case rel => exact ⟨k + 1, by omega, by go_num, rfl, gr_trans hB (by (repeat (first | exact Below.refl _ _ | refine Below.setCell ?_ (by first | omega | (simp; omega) | (simp; done)) _ | refine Below.alloc ?_ (by first | omega | (simp; omega) | (simp; done)) _ | refine Below.drew ?_ | refine below_drewN ?_ _ | refine Below.trans ?_ (Below.mono (by assumption) (by first | omega | (simp; omega) | (simp; done))))))⟩
      case measure => simp [intOf]; omega
    · clear hx t3
      go_wp2_with fail
      (refine wp_region_grow_lit (by kernel_rfl) (by kernel_rfl) ?_; (repeat (go_big_quiet_step (first | (go_at_call 39; refine Calls.grow_same (tween_is T1.out _)) | (go_at_call 58; refine Calls.grow_of (proper_is T2.out _))))); refine wpQuiet_nil ?_; intro w1 hw1; have hb1 := below_of_plus hw1; clear hw1; obtain ⟨⟨hc1, hf1, hs1⟩, hz1⟩ := after hb1; (try simp only [World.size_alloc, World.size_setCell, World.size_drew] at hz1))
      go_wp2_with fail
      go_roundw
      case rel => exact ⟨k + 1, by omega, by go_num, rfl, gr_trans hB (by (repeat (first | exact Below.refl _ _ | refine Below.setCell ?_ (by first | omega | (simp; omega) | (simp; done)) _ | refine Below.alloc ?_ (by first | omega | (simp; omega) | (simp; done)) _ | refine Below.drew ?_ | refine below_drewN ?_ _ | refine Below.trans ?_ (Below.mono (by assumption) (by first | omega | (simp; omega) | (simp; done))))))⟩
      case measure => simp [intOf]; omega
  · obtain rfl : k = ff.length := by omega
    clear hlt
    go_wp2_with fail
    obtain ⟨wo, rfl⟩ : ∃ wo : World, wo = wr := ⟨_, rfl⟩
    have HBo := HBr
    have HXo := Lib.hid HXR.out
    clear hB HBr HXR hk a0 a2 a5 za
    go_loopw [3, 5, 6, 7] (fun ok i l7 j7 wr => ∃ (k : Nat), k ≤ fs.length ∧ i = .int .i64 k ∧ ok = .bool true ∧ Below wo.heap.size wo wr) (fun _ i _ _ _ => fs.length - (intOf i).toNat)
    case atStart => exact ⟨0, Nat.zero_le _, rfl, rfl, Below.refl _ _⟩
    obtain ⟨k, hk, rfl, rfl, hB⟩ := hrel
    have HBr : Below w.heap.size w wr := HBo.trans (hB.mono HBo.size)
    have XR := HXo.out.keep hB
    have a0 := XR.cell (j := 0) rfl
    have a5 := XR.cell (j := 5) rfl
    have za := XR.lt
    have HXR := Lib.hid XR
    clear XR
    by_cases hlt : k < fs.length
    · obtain ⟨s, hs⟩ : ∃ s, fs[k]? = some s := ⟨_, List.getElem?_eq_getElem hlt⟩
      have hse := HF.out.each s (List.mem_of_getElem? hs)
      obtain ⟨t1, t2⟩ := SC.out k s hs
      have LN := Lib.hid (SL.out k s hs)
      obtain ⟨bb, off, rfl, hbb, x0, x1⟩ := row2 (HF.out.slips.to HBr).row hs rfl
      have hkI : (k : Int) < fs.length := by omega
      have h0k : (0 : Int) ≤ k := by omega
      have T1 := Lib.hid t1
      have T2 := Lib.hid t2
      clear hs t1 t2
      obtain ⟨sa, sc, sl, st⟩ := s
      simp only [SSlip.slice] at x0 x1 T1 T2 LN hse
      have HSE := Lib.hid hse
      have hsl := hse.lens
      clear hse
      go_wp2_with (first | (go_at_call_of 39 st; refine (tween_is T1.out _).mono ?_; rintro e w1 ⟨rfl, rfl⟩) | (go_at_call_of 39 sl; refine (tween_is T2.out _).mono ?_; rintro e w1 ⟨rfl, rfl⟩))
      obtain ⟨Y, rfl⟩ : ∃ Y : World, Y = wr := ⟨_, rfl⟩
      clear x0 x1 a5
      go_loopw [3, 7] (fun ok j wr => ∃ (m : Nat), m ≤ sl.length ∧ j = .int .i64 m ∧ ok = .bool true ∧ Below Y.heap.size Y wr) (fun _ j _ => sl.length - (intOf j).toNat)
      case atStart => exact ⟨0, Nat.zero_le _, rfl, rfl, Below.refl _ _⟩
      obtain ⟨m, hm, rfl, rfl, hC⟩ := hrel
      have HCr : Below w.heap.size w wr := HBr.trans (hC.mono HBr.size)
      have XC := HXR.out.keep hC
      have b0 := XC.cell (j := 0) rfl
      have zb := XC.lt
      clear XC a0 za
      by_cases hlt2 : m < sl.length
      · obtain ⟨x, hx⟩ : ∃ x, sl[m]? = some x := ⟨_, List.getElem?_eq_getElem hlt2⟩
        obtain ⟨t3, t4, -, t5⟩ := LN.out m x hx
        obtain ⟨lb, lo, rfl, hlb, x0, x1⟩ := row2 (HSE.out.to HCr).row hx rfl
        have T3 := Lib.hid t3
        have T4 := Lib.hid t4
        have hw2 : IntKind.wrap .i64 ((ff.length : Int) - 1) = (ff.length : Int) - 1 := wrapI (by omega) (by omega)
        have hmI : (m : Int) < sl.length := by omega
        have h0m : (0 : Int) ≤ m := by omega
        have zlb : lb < wr.heap.size := hlb
        clear t3 t4
        obtain ⟨xs, xm⟩ := x
        simp only at x0 x1 T3 T4 t5
        rcases hz : ((m : Int) == 0) with _ | _
        · have hm1 : 1 ≤ m := by have := beq_eq_false_iff_ne.1 hz; omega
          obtain ⟨i, hi⟩ : ∃ i, m = i + 1 := ⟨m - 1, by omega⟩
          obtain ⟨p, hp⟩ : ∃ p, sl[i]? = some p := ⟨_, List.getElem?_eq_getElem (by omega)⟩
          have t6 := t5 i p hi hp
          obtain ⟨b', off', e', hbb', p0, p1⟩ := row2 (HSE.out.to HCr).row hp rfl
          simp only [Option.some.injEq, Addr.mk.injEq, and_true] at e'
          obtain ⟨rfl, rfl⟩ := e'
          obtain ⟨ps, pm⟩ := p
          simp only at p0 p1 t6
          have hd : decide (ps < xs) = true := by simp [t6]
          have hw1 : IntKind.wrap .i64 ((m : Int) - 1) = (i : Int) := by rw [wrapI (by omega) (by omega)]; omega
          have hiI : (i : Int) < sl.length := by omega
          have h0i : (0 : Int) ≤ i := by omega
          clear hx hp t5 t6 hm1 hi
          go_wp2_with fail
          (refine wp_region_grow_lit (by kernel_rfl) (by kernel_rfl) ?_; (repeat (go_big_quiet_step (first | (go_at_call_of 39 xs; refine Calls.grow_same (tween_is T3.out _)) | (go_at_call_of 39 xm; refine Calls.grow_same (tween_is T4.out _))))); refine wpQuiet_nil ?_; intro w1 hw1; have hb1 := below_of_plus hw1; clear hw1; obtain ⟨⟨hc1, hf1, hs1⟩, hz1⟩ := after hb1; (try simp only [World.size_alloc, World.size_setCell, World.size_drew] at hz1))
          go_wp2_with fail
          go_roundw
          case rel => exact ⟨m + 1, by omega, by go_num, rfl, gr_trans hC (by (repeat (first | exact Below.refl _ _ | refine Below.setCell ?_ (by first | omega | (simp; omega) | (simp; done)) _ | refine Below.alloc ?_ (by first | omega | (simp; omega) | (simp; done)) _ | refine Below.drew ?_ | refine below_drewN ?_ _ | refine Below.trans ?_ (Below.mono (by assumption) (by first | omega | (simp; omega) | (simp; done))))))⟩
          case measure => simp [intOf]; omega
        · clear hx t5
          go_wp2_with fail
          (refine wp_region_grow_lit (by kernel_rfl) (by kernel_rfl) ?_; (repeat (go_big_quiet_step (first | (go_at_call_of 39 xs; refine Calls.grow_same (tween_is T3.out _)) | (go_at_call_of 39 xm; refine Calls.grow_same (tween_is T4.out _))))); refine wpQuiet_nil ?_; intro w1 hw1; have hb1 := below_of_plus hw1; clear hw1; obtain ⟨⟨hc1, hf1, hs1⟩, hz1⟩ := after hb1; (try simp only [World.size_alloc, World.size_setCell, World.size_drew] at hz1))
          go_wp2_with fail
          go_roundw
          case rel => exact ⟨m + 1, by omega, by go_num, rfl, gr_trans hC (by (repeat (first | exact Below.refl _ _ | refine Below.setCell ?_ (by first | omega | (simp; omega) | (simp; done)) _ | refine Below.alloc ?_ (by first | omega | (simp; omega) | (simp; done)) _ | refine Below.drew ?_ | refine below_drewN ?_ _ | refine Below.trans ?_ (Below.mono (by assumption) (by first | omega | (simp; omega) | (simp; done))))))⟩
          case measure => simp [intOf]; omega
      · obtain rfl : m = sl.length := by omega
        clear hlt2
        go_wp2_with fail
        go_roundw
        case rel => exact ⟨k + 1, by omega, by go_num, rfl, gr_trans hB (hC.mono (by omega))⟩
        case measure => simp [intOf]; omega
    · obtain rfl : k = fs.length := by omega
      clear hlt
      go_wp2_with fail
      go_ret
      exact ⟨rfl, HBr⟩
theorem sound_is {f : Floor} {b : Bool} (hb : validB f = b) (w : World) (hl : Lim w) (h : FloorAt w w.heap.size f) :
    Calls Tryd.prog 35 #[f.val] w fun e w' => e = .returned (.bool b) ∧ Below w.heap.size w w' := by
  cases b with
  | false => exact sound_no f w hl h hb
  | true => exact sound_yes f w hl h hb
end Go.Proofs.YtomgnpfpaodpiaaDoor

/- The least Until: what it says of rosters. Plain mathematics. -/
namespace Go.Proofs.YtomgnpfpaodpiaaDoor
open Go Go.RowKit
set_option maxHeartbeats 2000000
theorem few_at (f : Floor) (A : Option Addr) (C k : Nat) (u : Int) : fewF (withF f A C k u) = fewF (tillF f k u) := by
  have hl : allF (withF f A C k u) = allF (tillF f k u) := by unfold allF; simp [withF]
  unfold fewF
  rw [hl]
  congr 1
  funext p
  exact can_at f A C k u p _
theorem rosterV_len (f : Floor) (hv : validB f = true) : (fewF f = none ∧ RosterV f = ([], 4)) ∨ ∃ p : Nat, fewF f = some p ∧ (RosterV f).2 = 0 ∧ (RosterV f).1.length = p := by
  have hc : checkV f = 0 := by unfold checkV; rw [if_pos hv]
  cases h : fewF f with
  | none => left; refine ⟨rfl, ?_⟩; unfold RosterV; rw [if_pos hc, h]
  | some p =>
    right
    have : RosterV f = (rosterF f p (allF f), 0) := by unfold RosterV; rw [if_pos hc, h]
    rw [this]
    exact ⟨p, rfl, rfl, roster_len f p _⟩
/-- with an Until in which so many have all in time, and which is no later, it is just so many -/
theorem few_till {f : Floor} (hv : validB f = true) {k p : Nat} {s : SSlip} (hs : f.slips[k]? = some s) (hp : fewF f = some p) {u : Int} (h0 : 0 ≤ u) (h1 : u ≤ s.till) (he : enoughF f k p u = true) : fewF (tillF f k u) = some p := by
  obtain ⟨p1, p5, _⟩ := few_can hp
  have ht := ((valid_parts hv).2.2.2.2.2.2 k s hs).1
  have hvt := valid_till hv none 0 k (u := u) h0 (by omega)
  refine few_some p1 p5 (fun j j1 hj => ?_) ?_
  · cases hc : canF (tillF f k u) j (allF (tillF f k u)) with
    | false => rfl
    | true =>
      exfalso
      have hb := few_below hp j j1 hj
      rw [all_till, can_fit hvt j _ (fun i hi => by rw [till_len]; exact all_in f i hi)] at hc
      have : canF f j (allF f) = true := by
        rw [can_fit hv j _ (all_in f)]
        refine PM.fit_mono (fun s' => by rw [sec_till]; exact Int.le_refl _) (fun s' => ?_) j _ hc
        rw [due_till]
        split
        · rename_i hi
          rw [hi.1, dueF_at hs]
          exact h1
        · exact Int.le_refl _
      rw [hb] at this; cases this
  · rw [all_till]
    exact he
theorem enough_self {f : Floor} {k p : Nat} {s : SSlip} (hv : validB f = true) (hs : f.slips[k]? = some s) (hp : fewF f = some p) : enoughF f k p s.till = true := by
  have ht := ((valid_parts hv).2.2.2.2.2.2 k s hs).1
  rw [enough_fit hv k p ht.1 ht.2]
  have hcan := (few_can hp).2.2
  rw [can_fit hv p (allF f) (all_in f)] at hcan
  have : dueF (tillF f k s.till) = dueF f := funext fun i => by
    rw [due_till]
    split
    · rename_i hi
      rw [hi.1, dueF_at hs]
    · rfl
  rw [this]
  exact hcan
/-- what Spare tells of rosters -/
theorem spared {f : Floor} (hv : validB f = true) {k : Nat} {s : SSlip} (hs : f.slips[k]? = some s) {v c : Int} (h : SpareA f k v c) :
    (c = 4 ∧ v = 0 ∧ RosterV f = ([], 4)) ∨ (c = 0 ∧ ∃ p r : Nat, v = r ∧ (RosterV f).2 = 0 ∧ (RosterV f).1.length = p ∧ (r : Int) ≤ s.till ∧ (∀ u : Int, (r : Int) ≤ u → u ≤ s.till → ∀ A C, (RosterV (withF f A C k u)).2 = 0 ∧ (RosterV (withF f A C k u)).1.length = p) ∧ (1 ≤ r → ∀ A C, (RosterV (withF f A C k ((r : Int) - 1))).2 = 4 ∨ ((RosterV (withF f A C k ((r : Int) - 1))).2 = 0 ∧ p < (RosterV (withF f A C k ((r : Int) - 1))).1.length))) := by
  have hk := (List.getElem?_eq_some_iff.1 hs).1
  have ht := ((valid_parts hv).2.2.2.2.2.2 k s hs).1
  have h0 : checkSlipV f k = 0 := by
    unfold checkSlipV
    rw [if_pos hv, if_pos]
    unfold slipB
    simp
    omega
  rcases h with ⟨h1, _⟩ | ⟨_, h1, h2, h3⟩ | ⟨_, hc, k', p, t, r, s', hk', hs', ht', hp, hv', hi⟩
  · exact absurd h0 h1
  · left
    refine ⟨h3, h2, ?_⟩
    rcases rosterV_len f hv with ⟨_, h4⟩ | ⟨p, h4, _⟩
    · exact h4
    · rw [h1] at h4; cases h4
  · right
    obtain rfl : k = k' := by omega
    rw [hs] at hs'
    obtain rfl := Option.some.inj hs'
    have hself := enough_self hv hs hp
    have hself2 : enoughF f k p (t : Nat) = true := by rw [← ht']; exact hself
    have hr : enoughF f k p r = true := by
      by_cases hlt : r < t
      · exact hi.enough hlt
      · obtain rfl : r = t := by have := hi.le; omega
        exact hself2
    have hle := hi.le
    rcases rosterV_len f hv with ⟨h4, _⟩ | ⟨p', h4, h5, h6⟩
    · rw [hp] at h4; cases h4
    · rw [hp] at h4
      obtain rfl := Option.some.inj h4
      refine ⟨hc, p, r, hv', h5, h6, by omega, fun u h7 h8 A C => ?_, fun h7 A C => ?_⟩
      · have he := enough_mono hv k p (show (0 : Int) ≤ r by omega) h7 (by omega) hr
        have hf := few_till hv hs hp (by omega) h8 he
        have hvx := valid_till hv A C k (u := u) (by omega) (by omega)
        rcases rosterV_len _ hvx with ⟨g1, _⟩ | ⟨q, g1, g2, g3⟩
        · rw [few_at, hf] at g1; cases g1
        · rw [few_at, hf] at g1
          obtain rfl := Option.some.inj g1
          exact ⟨g2, g3⟩
      · have hvx := valid_till hv A C k (u := (r : Int) - 1) (by omega) (by omega)
        have hno : enoughF f k p ((r : Int) - 1) = false := by
          have := hi.under (r - 1) (by omega)
          rwa [show ((r - 1 : Nat) : Int) = (r : Int) - 1 by omega] at this
        rcases rosterV_len _ hvx with ⟨_, g1⟩ | ⟨q, g1, g2, g3⟩
        · left; rw [g1]
        · right
          refine ⟨g2, ?_⟩
          rw [g3]
          rw [few_at] at g1
          apply Classical.byContradiction
          intro hn
          have hq := (few_can g1).2.2
          rw [all_till] at hq
          have hvt := valid_till hv none 0 k (u := (r : Int) - 1) (by omega) (by omega)
          have hq2 := can_up hvt (q := p) (m := allF f) (fun i hi => by rw [till_len]; exact all_in f i hi) (by omega) hq
          unfold enoughF at hno
          rw [hq2] at hno
          cases hno
end Go.Proofs.YtomgnpfpaodpiaaDoor

/- The law SlipSpared holds of every floor and two numbers. -/
namespace Go.Proofs.YtomgnpfpaodpiaaDoor
open Go Go.RowKit
set_option maxHeartbeats 8000000
theorem lot_range {a b n : Int} (h : a ≤ b) : a ≤ lotI a b n ∧ lotI a b n ≤ b := by
  unfold lotI
  split
  · omega
  · have := spin_range n (b - a + 1) (by omega)
    omega
set_option maxRecDepth 100000 in
theorem slipSpared_none (f : Floor) (n m : Int) (hno : validB f = false ∨ (validB f = true ∧ f.slips.length = 0)) (w : World) (hl : Lim w) (h : FloorAt w w.heap.size f) :
    Calls Tryd.prog 11 #[f.val, vi n, vi m] w fun e w' => e = .returned (.bool true) ∧ Below w.heap.size w w' := by
  have HL := Lib.hid hl
  have HF := Lib.hid h
  have h3l := h.slips.lens
  obtain ⟨b, hb⟩ : ∃ b, validB f = b := ⟨_, rfl⟩
  have SO := Lib.hid (fun (W : World) h1 h2 => sound_is hb W h1 h2)
  rw [hb] at hno
  clear hl h hb
  have X0 := CellsBox.new w 28 f.cells
  have hb0 : Below w.heap.size w (w.alloc (.cells f.cells.toArray 28)) := below1 _ _
  show Calls Tryd.prog 11 #[.agg #[.slice f.fA f.far.length f.fC, vi f.slo, vi f.shi, .slice f.pA f.picks.length f.pC, vi f.carry, .slice f.sA f.slips.length f.sC], vi n, vi m] w _
  go_enter Tryd.func11, Tryd.ntmps11
  go_upto_region 1 with fail
  refine (?_ : ∀ V : World, CellsBox V w.heap.size 28 f.cells → Below w.heap.size w V → Code.wp _ _ _ _ V) _ X0 hb0
  clear X0 hb0
  intro V X0 HB
  have HX := Lib.hid X0
  (have a0 := X0.cell (j := 0) rfl; have a1 := X0.cell (j := 1) rfl; have a2 := X0.cell (j := 2) rfl; have a3 := X0.cell (j := 3) rfl; have a4 := X0.cell (j := 4) rfl; have a5 := X0.cell (j := 5) rfl; have za := X0.lt)
  clear X0
  go_wp2_with fail
  refine (SO.out _ (HL.out.next HB) (HF.out.to HB)).mono ?_
  rintro e W1 ⟨rfl, hb⟩
  (replace HX := Lib.hid (HX.out.keep hb); replace HB : Below w.heap.size w W1 := HB.trans (hb.mono HB.size); clear hb a0 a1 a2 a3 a4 a5 za; (have a0 := HX.out.cell (j := 0) rfl; have a1 := HX.out.cell (j := 1) rfl; have a2 := HX.out.cell (j := 2) rfl; have a3 := HX.out.cell (j := 3) rfl; have a4 := HX.out.cell (j := 4) rfl; have a5 := HX.out.cell (j := 5) rfl; have za := HX.out.lt))
  rcases hno with rfl | ⟨rfl, hz⟩
  · go_wp2_with fail
    refine (works_any _ (HL.out.next HB)).mono ?_
    rintro e W ⟨rfl, hb⟩
    (replace HB : Below w.heap.size w W := HB.trans (hb.mono HB.size); clear hb)
    go_wp2_with fail
    go_ret
    exact ⟨rfl, HB⟩
  · have hzz : ((f.slips.length : Int) == 0) = true := by rw [hz]; rfl
    rw [hz] at a5
    clear hz hzz
    go_wp2_with fail
    refine (works_any _ (HL.out.next HB)).mono ?_
    rintro e W ⟨rfl, hb⟩
    (replace HB : Below w.heap.size w W := HB.trans (hb.mono HB.size); clear hb)
    go_wp2_with fail
    go_ret
    exact ⟨rfl, HB⟩
set_option maxRecDepth 100000 in
theorem slipSpared_some (f : Floor) (n m : Int) (hv : validB f = true) (h0 : 0 < f.slips.length) (hn : -9223372036854775808 ≤ n ∧ n ≤ 9223372036854775807) (hm : -9223372036854775808 ≤ m ∧ m ≤ 9223372036854775807) (w : World) (hl : Lim w) (h : FloorAt w w.heap.size f) :
    Calls Tryd.prog 11 #[f.val, vi n, vi m] w fun e w' => e = .returned (.bool true) ∧ Below w.heap.size w w' := by
  have HL := Lib.hid hl
  have HF := Lib.hid h
  have h9 := (fine hv).slips9
  have SO := Lib.hid (fun (W : World) h1 h2 => sound_is hv W h1 h2)
  obtain ⟨s0, s1⟩ := spin_range n f.slips.length (by omega)
  obtain ⟨k, hk⟩ : ∃ k : Nat, spinI n f.slips.length = k := ⟨(spinI n f.slips.length).toNat, by omega⟩
  have hkl : k < f.slips.length := by omega
  obtain ⟨s, hs⟩ : ∃ s, f.slips[k]? = some s := ⟨_, List.getElem?_eq_getElem hkl⟩
  have hti := ((valid_parts hv).2.2.2.2.2.2 k s hs).1
  have SP : Hid (∀ W : World, Calls Tryd.prog 36 #[vi n, vi f.slips.length] W fun e w' => e = .returned (vi k) ∧ W = w') := fun W => by
    have := spin_any n f.slips.length W hn.1 hn.2 (by omega)
    rwa [hk] at this
  have C1 := Lib.hid (fun (W : World) h1 h2 => Spare_any f k W h1 h2)
  have C2 := Lib.hid (fun (W : World) h1 h2 => Roster_any f W h1 h2)
  have C3 : Hid (∀ (a : Int), 0 ≤ a → a ≤ s.till → ∃ u, a ≤ u ∧ u ≤ s.till ∧ ∀ W : World, Calls Tryd.prog 49 #[.agg #[vi a, vi s.till], vi m] W fun e w' => e = .returned (vi u) ∧ Below W.heap.size W w') := fun a ha hb => by
    obtain ⟨g1, g2⟩ := lot_range (n := m) hb
    exact ⟨_, g1, g2, fun W => lot_any a s.till m W (by omega) (by omega) (by omega) hm.1 hm.2 (by omega) (by omega)⟩
  have C4 : Hid (∀ (u : Int), 0 ≤ u → u ≤ 100000 → ∀ W : World, FloorAt W W.heap.size f → Calls Tryd.prog 48 #[f.val, vi k, vi u] W fun e w' => ∃ g c, e = .returned (withF f (some ⟨g, 0, none⟩) c k u).val ∧ FloorAt w' w'.heap.size (withF f (some ⟨g, 0, none⟩) c k u) ∧ Below W.heap.size W w') := fun u _ _ W hW => until_any f k s hs h9 u W hW
  have C5 : Hid (∀ (x : Floor) (W : World), Lim W → FloorAt W W.heap.size x → Calls Tryd.prog 28 #[x.val] W fun e w' => ∃ A ts, e = .returned (.tuple #[.slice A ts.length ts.length, vi (RosterV x).2]) ∧ RosterAt w' w'.heap.size A ts.length ts ∧ ts.length = (RosterV x).1.length ∧ Below W.heap.size W w') := fun x W h1 h2 => by
    refine (Roster_any x W h1 h2).mono ?_
    rintro e w' ⟨A, ts, rfl, g1, g2, g3⟩
    have := congrArg List.length g2
    rw [List.length_map, List.length_map] at this
    exact ⟨A, ts, rfl, g1, this, g3⟩
  have HSP := Lib.hid (fun (v c : Int) (hh : SpareA f k v c) => spared hv hs hh)
  obtain ⟨SA, hSA⟩ : ∃ SA, SA = SpareA f k := ⟨_, rfl⟩
  rw [← hSA] at C1 HSP
  obtain ⟨RV, hRV⟩ : ∃ RV, RV = RosterV := ⟨_, rfl⟩
  rw [← hRV] at C2 C5 HSP
  obtain ⟨sb, so, hsA, hsb, q0, q1⟩ := row2 h.slips.row hs rfl
  have HS1 := Lib.hid q1
  have HSA := Lib.hid hsA
  have hkI : (k : Int) < f.slips.length := by omega
  have h0k : (0 : Int) ≤ k := by omega
  have hzz : ((f.slips.length : Int) == 0) = false := beq_eq_false_iff_ne.2 (by omega)
  clear hl h hs hk hSA hRV q0 q1 hsA hv s0 s1 hn hm
  obtain ⟨WF, hWF⟩ : ∃ WF : Int → Nat → Nat → Floor, WF = fun u g c => withF f (some ⟨g, 0, none⟩) c k u := ⟨_, rfl⟩
  have eW : ∀ u g c, withF f (some ⟨g, 0, none⟩) c k u = WF u g c := fun u g c => by rw [hWF]
  simp only [eW] at C4
  have HSP2 : Hid (∀ v c : Int, SA v c → (c = 4 ∧ v = 0 ∧ RV f = ([], 4)) ∨ (c = 0 ∧ ∃ p r : Nat, v = r ∧ (RV f).2 = 0 ∧ (RV f).1.length = p ∧ (r : Int) ≤ s.till ∧ (∀ u : Int, (r : Int) ≤ u → u ≤ s.till → ∀ g C, (RV (WF u g C)).2 = 0 ∧ (RV (WF u g C)).1.length = p) ∧ (1 ≤ r → ∀ g C, (RV (WF ((r : Int) - 1) g C)).2 = 4 ∨ ((RV (WF ((r : Int) - 1) g C)).2 = 0 ∧ p < (RV (WF ((r : Int) - 1) g C)).1.length)))) := fun v c hh => by
    rcases HSP.out v c hh with h1 | ⟨h1, p, r, g1, g2, g3, g4, g5, g6⟩
    · exact .inl h1
    · refine .inr ⟨h1, p, r, g1, g2, g3, g4, fun u a1 a2 g C => ?_, fun a1 g C => ?_⟩
      · rw [← eW]; exact g5 u a1 a2 _ _
      · rw [← eW]; exact g6 a1 _ _
  clear HSP eW hWF
  obtain ⟨sa, sc, sl, st⟩ := s
  simp only at hti C3 HSP2 HS1
  have X0 := CellsBox.new w 28 f.cells
  have hb0 : Below w.heap.size w (w.alloc (.cells f.cells.toArray 28)) := below1 _ _
  show Calls Tryd.prog 11 #[.agg #[.slice f.fA f.far.length f.fC, vi f.slo, vi f.shi, .slice f.pA f.picks.length f.pC, vi f.carry, .slice f.sA f.slips.length f.sC], vi n, vi m] w _
  go_enter Tryd.func11, Tryd.ntmps11
  go_upto_region 1 with fail
  refine (?_ : ∀ V : World, CellsBox V w.heap.size 28 f.cells → Below w.heap.size w V → Code.wp _ _ _ _ V) _ X0 hb0
  clear X0 hb0
  intro V X0 HB
  have HX := Lib.hid X0
  (have a0 := X0.cell (j := 0) rfl; have a1 := X0.cell (j := 1) rfl; have a2 := X0.cell (j := 2) rfl; have a3 := X0.cell (j := 3) rfl; have a4 := X0.cell (j := 4) rfl; have a5 := X0.cell (j := 5) rfl; have za := X0.lt)
  clear X0
  go_wp2_with fail
  refine (SO.out _ (HL.out.next HB) (HF.out.to HB)).mono ?_
  rintro e W1 ⟨rfl, hb⟩
  (replace HX := Lib.hid (HX.out.keep hb); replace HB : Below w.heap.size w W1 := HB.trans (hb.mono HB.size); clear hb a0 a1 a2 a3 a4 a5 za; (have a0 := HX.out.cell (j := 0) rfl; have a1 := HX.out.cell (j := 1) rfl; have a2 := HX.out.cell (j := 2) rfl; have a3 := HX.out.cell (j := 3) rfl; have a4 := HX.out.cell (j := 4) rfl; have a5 := HX.out.cell (j := 5) rfl; have za := HX.out.lt))
  go_wp2_with fail
  refine (SP.out _).mono ?_
  rintro e W2 ⟨rfl, rfl⟩
  go_wp2_with fail
  refine (C1.out _ (HL.out.next HB) (HF.out.to HB)).mono ?_
  rintro e W3 ⟨v, c, rfl, hv, hb⟩
  have HV := Lib.hid hv
  clear hv
  (replace HX := Lib.hid (HX.out.keep hb); replace HB : Below w.heap.size w W3 := HB.trans (hb.mono HB.size); clear hb a0 a1 a2 a3 a4 a5 za; (have a0 := HX.out.cell (j := 0) rfl; have a1 := HX.out.cell (j := 1) rfl; have a2 := HX.out.cell (j := 2) rfl; have a3 := HX.out.cell (j := 3) rfl; have a4 := HX.out.cell (j := 4) rfl; have a5 := HX.out.cell (j := 5) rfl; have za := HX.out.lt))
  go_wp2_with fail
  refine (C2.out _ (HL.out.next HB) (HF.out.to HB)).mono ?_
  rintro e W4 ⟨B, us, rfl, hU, hus, hb⟩
  have hul := congrArg List.length hus
  rw [List.length_map, List.length_map] at hul
  clear hU hus
  (replace HX := Lib.hid (HX.out.keep hb); replace HB : Below w.heap.size w W4 := HB.trans (hb.mono HB.size); clear hb a0 a1 a2 a3 a4 a5 za; (have a0 := HX.out.cell (j := 0) rfl; have a1 := HX.out.cell (j := 1) rfl; have a2 := HX.out.cell (j := 2) rfl; have a3 := HX.out.cell (j := 3) rfl; have a4 := HX.out.cell (j := 4) rfl; have a5 := HX.out.cell (j := 5) rfl; have za := HX.out.lt))
  rcases HSP2.out v c HV.out with ⟨rfl, rfl, hr⟩ | ⟨rfl, p, r, rfl, hr2, hr1, hle, hbt, hun⟩
  · rw [hr]
    clear hr HSP2 hul HV
    go_wp2_with fail
    refine (works_any _ (HL.out.next HB)).mono ?_
    rintro e W ⟨rfl, hb⟩
    (replace HB : Below w.heap.size w W := HB.trans (hb.mono HB.size); clear hb)
    go_wp2_with fail
    go_ret
    exact ⟨rfl, HB⟩
  · rw [hr2]
    rw [hr1] at hul
    have HUL := Lib.hid hul
    obtain ⟨u, hu1, hu2, LOT⟩ := C3.out r (by omega) hle
    have LOTT := Lib.hid LOT
    clear LOT
    have h0r : (0 : Int) ≤ r := by omega
    have UNT := Lib.hid (C4.out u (by omega) (by omega))
    have HBT := Lib.hid (hbt u hu1 hu2)
    have HUN := Lib.hid hun
    have TW := Lib.hid (fun (W : World) => tween_is (a := (r : Int)) (b := 0) (c := st) (v := true) (hasB_iff.2 ⟨h0r, hle⟩) W)
    have s1w : W4.cell? ⟨sb, so + k * 2 + 1, none⟩ = some (vi st) := (HB.cell hsb).trans HS1.out
    have zsb := cell_lt s1w
    rw [HSA.out] at a5
    clear hr2 hr1 hul hbt hun HV HSP2 C3
    go_wp2_with fail
    refine (TW.out _).mono ?_
    rintro e W5 ⟨rfl, rfl⟩
    go_wp2_with fail
    refine' wp_region_box (fun w' => Below W4.heap.size W4 w') (fun a b h h' => gr_trans h h') [0, 1, 2, 3, 4, 5, 6, 7, 8, 9, 10, 11] 7 124 (by kernel_rfl) (by kernel_rfl) rfl (by kernel_rfl) (by kernel_rfl) rfl (by kernel_rfl) ?hl5 (Below.refl _ _) ?hq5 ?hr5
    case hl5 =>
      simp only [List.map_cons, List.map_nil, List.getD_cons_zero, List.getD_cons_succ]
      exact rfl
    case hq5 =>
      intro w0 K
      have XK := HX.out.keep K
      have f0 := XK.cell (j := 0) rfl
      have f1 := XK.cell (j := 1) rfl
      have f2 := XK.cell (j := 2) rfl
      have f3 := XK.cell (j := 3) rfl
      have f4 := XK.cell (j := 4) rfl
      have f5 := XK.cell (j := 5) rfl
      rw [HSA.out] at f5
      have zf := XK.lt
      have s1k := cell_keep K s1w
      have zsk := cell_lt s1k
      (repeat (go_big_quiet_step (first | (go_at_call 44; refine Calls.grow_of (to_any _ _ _)) | (go_at_call 49; refine Calls.grow_of (LOTT.out _)))))
      exact wpQuiet_nil rfl
    case hr5 =>
      refine wpUp_one (i := 12) (by kernel_rfl) rfl rfl (fun wa a1 a2 Ka hKa => ?_)
      go_simp
      rw [← HSA.out]
      refine (UNT.out wa (HF.out.to (HB.trans (a2.mono HB.size)))).mono ?_
      rintro e w3 ⟨g, c, rfl, hFX, hb3⟩
      have HFX := Lib.hid hFX
      clear hFX
      refine hKa _ _ (gr_trans a2 hb3) ?_
      refine wpUp_one (i := 13) (by kernel_rfl) rfl rfl (fun wb b1 b2 Kb hKb => ?_)
      go_simp
      refine (C5.out (WF u g c) wb (HL.out.next (HB.trans (b2.mono HB.size))) (HFX.out.to b1)).mono ?_
      rintro e w4 ⟨B2, us2, rfl, hU2, hul2, hb4⟩
      obtain ⟨e1, e2⟩ := HBT.out g c
      rw [e1]
      rw [e2] at hul2
      clear hU2
      refine hKb _ _ (gr_trans b2 hb4) ?_
      have hcc := gr_trans b2 hb4
      refine' wpUp_more (fun a b h h' => gr_trans h h') [14, 15, 16, 17, 18] 0 124 (by kernel_rfl) (by kernel_rfl) (by kernel_rfl) rfl (by kernel_rfl) rfl ?hl6 hcc ?hq6 ?hr6
      case hl6 =>
        simp only [List.map_cons, List.map_nil, List.getD_cons_zero, List.getD_cons_succ]
        exact rfl
      case hq6 =>
        intro w0 hw0
        (repeat (go_big_quiet_step (fail)))
        exact wpQuiet_nil rfl
      case hr6 =>
        refine wpUp_done (by kernel_rfl) (fun W8 g1 g2 => NoPanic.normal ?_)
        have HB8 : Below w.heap.size w W8 := HB.trans (g2.mono HB.size)
        have HX8 := Lib.hid (HX.out.keep g2)
        have hup : ((p : Int) != (us.length : Int)) = false := by rw [HUL.out]; simp
        clear hKa hKb a1 a2 b1 b2 g1 g2 hb3 hb4 hcc HFX e1 e2 a0 a3 a4 a5 za s1w zsb HX HB hu1 hu2 LOTT UNT HBT TW SP SO
        have HB := HB8
        have HX := HX8
        clear HB8 HX8
        have a0 := HX.out.cell (j := 0) rfl
        have a1 := HX.out.cell (j := 1) rfl
        have a2 := HX.out.cell (j := 2) rfl
        have a3 := HX.out.cell (j := 3) rfl
        have a4 := HX.out.cell (j := 4) rfl
        have a5 := HX.out.cell (j := 5) rfl
        have za := HX.out.lt
        rcases hr0 : ((r : Int) == 0) with _ | _
        · have hr1 : 1 ≤ r := by have := beq_eq_false_iff_ne.1 hr0; omega
          have hw1 : wrap64 ((r : Int) - 1) = (r : Int) - 1 := IntWalk.wrap64_in _ ⟨by omega, by omega⟩
          have UNT := Lib.hid (C4.out ((r : Int) - 1) (by omega) (by omega))
          have HU1 := Lib.hid (HUN.out hr1)
          clear HUN C4 hle
          go_wp2_with fail
          refine (UNT.out _ (HF.out.to HB)).mono ?_
          rintro e W9 ⟨g, c, rfl, hFX, hb⟩
          have HFX := Lib.hid hFX
          clear hFX
          clear a0 a1 a2 a3 a4 a5 za
          (replace HB : Below w.heap.size w W9 := HB.trans (hb.mono HB.size); clear hb)
          go_wp2_with fail
          refine (C5.out (WF ((r : Int) - 1) g c) _ (HL.out.next HB) HFX.out).mono ?_
          rintro e WA ⟨B3, us3, rfl, hU3, hul3, hb⟩
          have HUL3 := Lib.hid hul3
          clear hU3 hul3
          (replace HB : Below w.heap.size w WA := HB.trans (hb.mono HB.size); clear hb)
          rcases HU1.out g c with e1 | ⟨e1, e2⟩
          · rw [e1]
            clear e1 HU1
            go_wp2_with fail
            refine (works_any _ (HL.out.next HB)).mono ?_
            rintro e W ⟨rfl, hb⟩
            (replace HB : Below w.heap.size w W := HB.trans (hb.mono HB.size); clear hb)
            go_wp2_with fail
            go_ret
            exact ⟨rfl, HB⟩
          · rw [e1]
            have hgt : decide ((us.length : Int) < us3.length) = true := by rw [HUL.out, HUL3.out]; simp; omega
            have hgt2 : us.length < us3.length := by rw [HUL.out, HUL3.out]; exact e2
            have hgt3 : decide (us.length < us3.length) = true := by simpa using hgt2
            clear e1 e2 HU1
            go_wp2_with fail
            refine (works_any _ (HL.out.next HB)).mono ?_
            rintro e W ⟨rfl, hb⟩
            (replace HB : Below w.heap.size w W := HB.trans (hb.mono HB.size); clear hb)
            go_wp2_with fail
            go_ret
            exact ⟨rfl, HB⟩
        · clear a0 a1 a2 a3 a4 a5 za
          go_wp2_with fail
          refine (works_any _ (HL.out.next HB)).mono ?_
          rintro e W ⟨rfl, hb⟩
          (replace HB : Below w.heap.size w W := HB.trans (hb.mono HB.size); clear hb)
          go_wp2_with fail
          go_ret
          exact ⟨rfl, HB⟩
theorem slipSpared_any (f : Floor) (n m : Int) (hn : -9223372036854775808 ≤ n ∧ n ≤ 9223372036854775807) (hm : -9223372036854775808 ≤ m ∧ m ≤ 9223372036854775807) (w : World) (hl : Lim w) (h : FloorAt w w.heap.size f) :
    Calls Tryd.prog 11 #[f.val, vi n, vi m] w fun e w' => e = .returned (.bool true) ∧ Below w.heap.size w w' := by
  cases hv : validB f with
  | false => exact slipSpared_none f n m (.inl hv) w hl h
  | true =>
    by_cases h0 : f.slips.length = 0
    · exact slipSpared_none f n m (.inr ⟨hv, h0⟩) w hl h
    · exact slipSpared_some f n m hv (by omega) hn hm w hl h
end Go.Proofs.YtomgnpfpaodpiaaDoor

