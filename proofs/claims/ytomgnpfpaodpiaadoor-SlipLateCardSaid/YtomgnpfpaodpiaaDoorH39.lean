/- Contract of the specification's Check. -/
import Derived.Test.YtomgnpfpaodpiaaDoorH38
set_option linter.unusedVariables false
set_option linter.unusedSimpArgs false
namespace Go.Proofs.YtomgnpfpaodpiaaDoor
open Go Go.RowKit
set_option maxHeartbeats 4000000
def lastR (f : Floor) (k : Nat) : Int := match k with | 0 => 0 | i + 1 => (f.far[i]?).getD 0
theorem shelf_ref {f : Floor} {k : Nat} {x : Int} {q : Int × Int} (h : f.far[k]? = some x) (h2 : f.picks[k]? = some q) (h0 : 0 ≤ lastR f k) : goodShelf f k = (hasB (lastR f k) 500 x && properB q.1 q.2 0 300) := by
  rw [goodShelf_of h h2, proper_within]
  congr 1
  unfold hasB climbsAt lastR
  cases k with
  | zero => simp
  | succ i =>
    have hi : i < f.far.length := by have := (List.getElem?_eq_some_iff.1 h).1; omega
    show (decide (0 ≤ x) && decide (x ≤ 500) && (match f.far[i]? with | some p => decide (p ≤ x) | none => true)) = (decide ((f.far[i]?).getD 0 ≤ x) && decide (x ≤ 500))
    change 0 ≤ (f.far[i]?).getD 0 at h0
    rw [List.getElem?_eq_getElem hi] at h0 ⊢
    simp only [Option.getD_some] at h0 ⊢
    by_cases a : f.far[i] ≤ x <;> by_cases b : x ≤ 500 <;> by_cases c : 0 ≤ x
    all_goals (first | (simp [a, b, c]; done) | (exfalso; omega))
theorem slip_ref {f : Floor} {k : Nat} {s : SSlip} (h : f.slips[k]? = some s) : goodSlip f k = (hasB 0 100000 s.till && (hasB 1 12 s.lines.length && linesR f.far.length s.lines)) := by
  rw [goodSlip_of h]; rfl
theorem rlines_is {f : Floor} {l : List SLine} {v : Bool} (hv : linesR f.far.length l = v) (A : Option Addr) (cap : Nat) (hf : f.far.length ≤ 35184372088832) (w : World) (h : SLinesAt w w.heap.size A l.length l) :
    Calls Tryd.prog 56 #[f.val, .slice A l.length cap] w fun e w' => e = .returned (.bool v) ∧ Below w.heap.size w w' := by
  subst hv
  exact rlines_any f A cap l hf w h
set_option maxRecDepth 100000 in
theorem rcheck_any (f : Floor) (w : World) (h : FloorAt w w.heap.size f) :
    Calls Tryd.prog 17 #[f.val] w fun e w' => e = .returned (vi (checkV f)) ∧ Below w.heap.size w w' := by
  rcases hh : headB f with _ | _
  · have : checkV f = 30 := by unfold checkV; rw [valid_head, hh]; rfl
    rw [this]
    exact rcheck_no f w h hh
  have HV : Hid (validB f = ((List.range f.far.length).all (goodShelf f) && (List.range f.slips.length).all (goodSlip f))) := by unfold Hid; rw [valid_head, hh, Bool.true_and]
  have h1l := h.far.lens
  have h2l := h.picks.lens
  have h3l := h.slips.lens
  have HF := Lib.hid h
  have GS : Hid (∀ (k : Nat) (x : Int) (q : Int × Int), f.far[k]? = some x → f.picks[k]? = some q → 0 ≤ lastR f k → goodShelf f k = (hasB (lastR f k) 500 x && properB q.1 q.2 0 300)) := fun k x q a b c => shelf_ref a b c
  have GL : Hid (∀ (k : Nat) (s : SSlip), f.slips[k]? = some s → goodSlip f k = (hasB 0 100000 s.till && (hasB 1 12 s.lines.length && linesR f.far.length s.lines))) := fun k s a => slip_ref a
  have LS : Hid (∀ (k : Nat) (x : Int), f.far[k]? = some x → lastR f (k + 1) = x) := fun k x a => by show (f.far[k]?).getD 0 = x; rw [a]; rfl
  have L0 : Hid (lastR f 0 = 0) := rfl
  have RL := Lib.hid (fun (l : List SLine) (v : Bool) (hv : linesR f.far.length l = v) (A : Option Addr) (cap : Nat) (W : World) hW => rlines_is hv A cap h1l.2 W hW)
  obtain ⟨S, hS⟩ : ∃ S, S = goodShelf f := ⟨_, rfl⟩
  obtain ⟨G, hG⟩ : ∃ G, G = goodSlip f := ⟨_, rfl⟩
  obtain ⟨T, hT⟩ : ∃ T, T = lastR f := ⟨_, rfl⟩
  obtain ⟨V, hV⟩ : ∃ V, V = validB f := ⟨_, rfl⟩
  obtain ⟨an, han⟩ : ∃ an, an = checkV f := ⟨_, rfl⟩
  have A1 : Hid (V = true → an = 0) := fun e => by rw [han]; unfold checkV; rw [← hV, e]; rfl
  have A0 : Hid (V = false → an = 30) := fun e => by rw [han]; unfold checkV; rw [← hV, e]; rfl
  rw [← hS, ← hG, ← hV] at HV
  rw [← hS, ← hT] at GS
  rw [← hG] at GL
  rw [← hT] at LS L0
  rw [← han]
  have FIN : Hid ((∀ k, k < f.far.length → S k = true) → (∀ k, k < f.slips.length → G k = true) → V = true) := fun a b => by
    have e1 : (List.range f.far.length).all S = true := by rw [List.all_eq_true]; exact fun k hk => a k (List.mem_range.1 hk)
    have e2 : (List.range f.slips.length).all G = true := by rw [List.all_eq_true]; exact fun k hk => b k (List.mem_range.1 hk)
    rw [HV.out, e1, e2]; rfl
  have BADS : Hid (∀ k, k < f.far.length → S k = false → V = false) := fun k hk hs => by
    have := all_no (b := true) hk hs
    rw [Bool.true_and] at this
    rw [HV.out, this]; rfl
  have BADG : Hid (∀ k, k < f.slips.length → G k = false → V = false) := fun k hk hs => by
    have := all_no (b := true) hk hs
    rw [Bool.true_and] at this
    rw [HV.out, this, Bool.and_false]
  clear hS hG hT hV han HV h
  unfold headB at hh
  simp only [Bool.and_eq_true, decide_eq_true_eq] at hh
  obtain ⟨fA, fC, ff, slo, shi, pA, pC, fp, fc, sA, sC, fs⟩ := f
  simp only at h1l h2l h3l GS GL LS FIN BADS BADG hh RL
  obtain ⟨h1, h2, h3, h4, h5⟩ := hh
  have H1 := Lib.hid h1
  have H3 := Lib.hid h3
  have H4 := Lib.hid h4
  have h2e : ((fp.length : Int) == (ff.length : Int)) = true := by simp [h2]
  have h5d : decide ((fs.length : Int) ≤ 9) = true := by simp; omega
  have H2 := Lib.hid h2
  show Calls Tryd.prog 17 #[.agg #[.slice fA ff.length fC, vi slo, vi shi, .slice pA fp.length pC, vi fc, .slice sA fs.length sC]] w _
  clear h1 h3 h4 h2
  go_enter Tryd.func17, Tryd.ntmps17
  go_wp2_with (first | (go_at_call_of 39 ff; refine (tween_is H1.out _).mono ?_; rintro e w1 ⟨rfl, rfl⟩) | (go_at_call 58; refine (proper_is H3.out _).mono ?_; rintro e w1 ⟨rfl, hb1⟩; obtain ⟨⟨hc1, hf1, hs1⟩, hz1⟩ := after hb1; (try simp only [World.size_alloc, World.size_setCell, World.size_drew] at hz1)) | (go_at_call_of 39 fc; refine (tween_is H4.out _).mono ?_; rintro e w1 ⟨rfl, rfl⟩))
  have HB0 : Below w.heap.size w w1 := by (repeat (first | exact Below.refl _ _ | refine Below.setCell ?_ (by first | omega | (simp; omega) | (simp; done)) _ | refine Below.alloc ?_ (by first | omega | (simp; omega) | (simp; done)) _ | refine Below.drew ?_ | refine below_drewN ?_ _ | refine Below.trans ?_ (Below.mono (by assumption) (by first | omega | (simp; omega) | (simp; done)))))
  have X0 : CellsBox w1 w.heap.size 28 [.slice fA ff.length fC, vi slo, vi shi, .slice pA fp.length pC, vi fc, .slice sA fs.length sC] := (CellsBox.new w _ _).keep hb1
  have HX := Lib.hid X0
  clear hb1 hc1 hf1 hs1 hz1 X0 h2e h5d
  obtain ⟨W, rfl⟩ : ∃ W, W = w1 := ⟨_, rfl⟩
  go_loopw [3, 4, 5] (fun ok la i wr => ∃ (k : Nat) (b : Bool) (nx : Int), k ≤ ff.length ∧ i = .int .i64 k ∧ ok = .bool b ∧ la = vi nx ∧ Below W.heap.size W wr ∧ Hid ((b = true → T k = nx ∧ 0 ≤ nx ∧ ∀ j, j < k → S j = true) ∧ (b = false → V = false))) (fun _ _ i _ => ff.length - (intOf i).toNat)
  case atStart => exact ⟨0, true, 0, Nat.zero_le _, rfl, rfl, rfl, Below.refl _ _, ⟨fun _ => ⟨L0.out, Int.le_refl _, fun j hj => absurd hj (by omega)⟩, fun h => by cases h⟩⟩
  obtain ⟨k, b, nx, hk, rfl, rfl, rfl, hB, hI⟩ := hrel
  have HBr : Below w.heap.size w wr := HB0.trans (hB.mono HB0.size)
  have XR := HX.out.keep hB
  have a0 := XR.cell (j := 0) rfl
  have a1 := XR.cell (j := 1) rfl
  have a2 := XR.cell (j := 2) rfl
  have a3 := XR.cell (j := 3) rfl
  have a4 := XR.cell (j := 4) rfl
  have a5 := XR.cell (j := 5) rfl
  have za := XR.lt
  have HXR := Lib.hid XR
  clear XR
  rcases b with _ | _
  · have E : Hid (an = 30) := A0.out (hI.out.2 rfl)
    clear hI
    go_wp2_with fail
    go_rounds 2
    go_ret
    exact ⟨retI E.out.symm, HBr⟩
  obtain ⟨hT, hn0, hall⟩ := hI.out.1 rfl
  have HT := Lib.hid hT
  have HALL := Lib.hid hall
  clear hI hT hall
  by_cases hlt : k < ff.length
  · obtain ⟨x, hx⟩ : ∃ x, ff[k]? = some x := ⟨_, List.getElem?_eq_getElem hlt⟩
    obtain ⟨q, hq⟩ : ∃ q, fp[k]? = some q := ⟨_, List.getElem?_eq_getElem (by have := H2.out; omega)⟩
    obtain ⟨bb, off, rfl, hbb, x0⟩ := ints_at (HF.out.far.to HBr) hx
    obtain ⟨pb, po, rfl, hpb, q0, q1⟩ := row2 (HF.out.picks.to HBr).row hq rfl
    have hg := GS.out k x q hx hq (by rw [HT.out]; exact hn0)
    rw [HT.out] at hg
    have HG := Lib.hid hg
    have HLS := Lib.hid (LS.out k x hx)
    have hkI : (k : Int) < ff.length := by omega
    have hkP : (k : Int) < fp.length := by have := H2.out; omega
    have h0k : (0 : Int) ≤ k := by omega
    have zbb : bb < wr.heap.size := hbb
    clear hx hq hg
    obtain ⟨qa, qb⟩ := q
    simp only at q0 q1 HG
    rcases t1 : hasB nx 500 x with _ | _
    · have HBAD : Hid (V = false) := BADS.out k hlt (by rw [HG.out, t1]; rfl)
      have T1 := Lib.hid t1
      clear t1
      go_wp2_with (go_at_call 39; refine (tween_is T1.out _).mono ?_; rintro e w1 ⟨rfl, rfl⟩)
      go_roundw
      case rel => exact ⟨k + 1, false, x, by omega, by go_num, rfl, rfl, gr_trans hB (by (repeat (first | exact Below.refl _ _ | refine Below.setCell ?_ (by first | omega | (simp; omega) | (simp; done)) _ | refine Below.alloc ?_ (by first | omega | (simp; omega) | (simp; done)) _ | refine Below.drew ?_ | refine below_drewN ?_ _ | refine Below.trans ?_ (Below.mono (by assumption) (by first | omega | (simp; omega) | (simp; done)))))), ⟨(fun h => absurd h (by decide)), fun _ => HBAD.out⟩⟩
      case measure => simp [intOf]; omega
    have hxr := hasB_iff.1 t1
    have T1 := Lib.hid t1
    have hx0 : 0 ≤ x := by omega
    rcases t2 : properB qa qb 0 300 with _ | _
    · have HBAD : Hid (V = false) := BADS.out k hlt (by rw [HG.out, t1, t2]; rfl)
      have T2 := Lib.hid t2
      clear t1 t2
      go_wp2_with (first | (go_at_call 39; refine (tween_is T1.out _).mono ?_; rintro e w1 ⟨rfl, rfl⟩) | (go_at_call 58; refine (proper_is T2.out _).mono ?_; rintro e w1 ⟨rfl, hb1⟩; obtain ⟨⟨hc1, hf1, hs1⟩, hz1⟩ := after hb1; (try simp only [World.size_alloc, World.size_setCell, World.size_drew] at hz1)))
      go_roundw
      case rel => exact ⟨k + 1, false, x, by omega, by go_num, rfl, rfl, gr_trans hB (by (repeat (first | exact Below.refl _ _ | refine Below.setCell ?_ (by first | omega | (simp; omega) | (simp; done)) _ | refine Below.alloc ?_ (by first | omega | (simp; omega) | (simp; done)) _ | refine Below.drew ?_ | refine below_drewN ?_ _ | refine Below.trans ?_ (Below.mono (by assumption) (by first | omega | (simp; omega) | (simp; done)))))), ⟨(fun h => absurd h (by decide)), fun _ => HBAD.out⟩⟩
      case measure => simp [intOf]; omega
    · have HOK : Hid (∀ j, j < k + 1 → S j = true) := upto_succ HALL.out (by rw [HG.out, t1, t2]; rfl)
      have T2 := Lib.hid t2
      clear t1 t2
      go_wp2_with (first | (go_at_call 39; refine (tween_is T1.out _).mono ?_; rintro e w1 ⟨rfl, rfl⟩) | (go_at_call 58; refine (proper_is T2.out _).mono ?_; rintro e w1 ⟨rfl, hb1⟩; obtain ⟨⟨hc1, hf1, hs1⟩, hz1⟩ := after hb1; (try simp only [World.size_alloc, World.size_setCell, World.size_drew] at hz1)))
      go_roundw
      case rel => exact ⟨k + 1, true, x, by omega, by go_num, rfl, rfl, gr_trans hB (by (repeat (first | exact Below.refl _ _ | refine Below.setCell ?_ (by first | omega | (simp; omega) | (simp; done)) _ | refine Below.alloc ?_ (by first | omega | (simp; omega) | (simp; done)) _ | refine Below.drew ?_ | refine below_drewN ?_ _ | refine Below.trans ?_ (Below.mono (by assumption) (by first | omega | (simp; omega) | (simp; done)))))), ⟨(fun _ => ⟨HLS.out, hx0, HOK.out⟩), fun h => absurd h (by decide)⟩⟩
      case measure => simp [intOf]; omega
  · obtain rfl : k = ff.length := by omega
    clear hlt
    go_wp2_with fail
    obtain ⟨wo, rfl⟩ : ∃ wo : World, wo = wr := ⟨_, rfl⟩
    have HSH := Lib.hid HALL.out
    have HBo := HBr
    have HXo := Lib.hid HXR.out
    clear hB HBr HXR HALL HT hn0 hk a0 a1 a2 a3 a4 a5 za
    go_loopw [3, 6] (fun ok i wr => ∃ (k : Nat) (b : Bool), k ≤ fs.length ∧ i = .int .i64 k ∧ ok = .bool b ∧ Below wo.heap.size wo wr ∧ Hid ((b = true → ∀ j, j < k → G j = true) ∧ (b = false → V = false))) (fun _ i _ => fs.length - (intOf i).toNat)
    case atStart => exact ⟨0, true, Nat.zero_le _, rfl, rfl, Below.refl _ _, ⟨fun _ j hj => absurd hj (by omega), fun h => by cases h⟩⟩
    obtain ⟨k, b, hk, rfl, rfl, hB, hI⟩ := hrel
    have HBr : Below w.heap.size w wr := HBo.trans (hB.mono HBo.size)
    have XR := HXo.out.keep hB
    have a0 := XR.cell (j := 0) rfl
    have a1 := XR.cell (j := 1) rfl
    have a2 := XR.cell (j := 2) rfl
    have a3 := XR.cell (j := 3) rfl
    have a4 := XR.cell (j := 4) rfl
    have a5 := XR.cell (j := 5) rfl
    have za := XR.lt
    have HXR := Lib.hid XR
    clear XR
    rcases b with _ | _
    · have E : Hid (an = 30) := A0.out (hI.out.2 rfl)
      clear hI
      go_wp2_with fail
      go_ret
      exact ⟨retI E.out.symm, HBr⟩
    have HALL := Lib.hid (hI.out.1 rfl)
    clear hI
    by_cases hlt : k < fs.length
    · obtain ⟨s, hs⟩ : ∃ s, fs[k]? = some s := ⟨_, List.getElem?_eq_getElem hlt⟩
      have HG := Lib.hid (GL.out k s hs)
      have hse := HF.out.each s (List.mem_of_getElem? hs)
      obtain ⟨bb, off, rfl, hbb, x0, x1⟩ := row2 (HF.out.slips.to HBr).row hs rfl
      have hkI : (k : Int) < fs.length := by omega
      have h0k : (0 : Int) ≤ k := by omega
      clear hs
      obtain ⟨sa, sc, sl, st⟩ := s
      simp only at x0 x1 HG hse
      have HSE : Hid (SLinesAt wr wr.heap.size sa sl.length sl) := (RowsAt.short hse).to HBr
      have hsl := hse.lens
      clear hse
      rcases t1 : hasB 0 100000 st with _ | _
      · have HBAD : Hid (V = false) := BADG.out k hlt (by rw [HG.out, t1]; rfl)
        have T1 := Lib.hid t1
        clear t1
        go_wp2_with (go_at_call 39; refine (tween_is T1.out _).mono ?_; rintro e w1 ⟨rfl, rfl⟩)
        go_roundw
        case rel => exact ⟨k + 1, false, by omega, by go_num, rfl, gr_trans hB (by (repeat (first | exact Below.refl _ _ | refine Below.setCell ?_ (by first | omega | (simp; omega) | (simp; done)) _ | refine Below.alloc ?_ (by first | omega | (simp; omega) | (simp; done)) _ | refine Below.drew ?_ | refine below_drewN ?_ _ | refine Below.trans ?_ (Below.mono (by assumption) (by first | omega | (simp; omega) | (simp; done)))))), ⟨(fun h => absurd h (by decide)), fun _ => HBAD.out⟩⟩
        case measure => simp [intOf]; omega
      have T1 := Lib.hid t1
      rcases t2 : hasB 1 12 sl.length with _ | _
      · have HBAD : Hid (V = false) := BADG.out k hlt (by rw [HG.out, t1, t2]; rfl)
        have T2 := Lib.hid t2
        clear t1 t2
        go_wp2_with (first | (go_at_call_of 39 st; refine (tween_is T1.out _).mono ?_; rintro e w1 ⟨rfl, rfl⟩) | (go_at_call_of 39 sl; refine (tween_is T2.out _).mono ?_; rintro e w1 ⟨rfl, rfl⟩))
        go_roundw
        case rel => exact ⟨k + 1, false, by omega, by go_num, rfl, gr_trans hB (by (repeat (first | exact Below.refl _ _ | refine Below.setCell ?_ (by first | omega | (simp; omega) | (simp; done)) _ | refine Below.alloc ?_ (by first | omega | (simp; omega) | (simp; done)) _ | refine Below.drew ?_ | refine below_drewN ?_ _ | refine Below.trans ?_ (Below.mono (by assumption) (by first | omega | (simp; omega) | (simp; done)))))), ⟨(fun h => absurd h (by decide)), fun _ => HBAD.out⟩⟩
        case measure => simp [intOf]; omega
      have T2 := Lib.hid t2
      obtain ⟨lb, hlb⟩ : ∃ lb, linesR ff.length sl = lb := ⟨_, rfl⟩
      rw [t1, t2, hlb] at HG
      have RLL := Lib.hid (RL.out sl lb hlb sa sc)
      clear t1 t2 hlb
      go_wp2_with (first | (go_at_call_of 39 st; refine (tween_is T1.out _).mono ?_; rintro e w1 ⟨rfl, rfl⟩) | (go_at_call_of 39 sl; refine (tween_is T2.out _).mono ?_; rintro e w1 ⟨rfl, rfl⟩))
      refine (RLL.out _ (HSE.out.to (by (repeat (first | exact Below.refl _ _ | refine Below.setCell ?_ (by first | omega | (simp; omega) | (simp; done)) _ | refine Below.alloc ?_ (by first | omega | (simp; omega) | (simp; done)) _ | refine Below.drew ?_ | refine below_drewN ?_ _ | refine Below.trans ?_ (Below.mono (by assumption) (by first | omega | (simp; omega) | (simp; done)))))))).mono ?_
      rintro e w9 ⟨rfl, hb9⟩
      have HB9 : Below wo.heap.size wo w9 := gr_trans hB (by (repeat (first | exact Below.refl _ _ | refine Below.setCell ?_ (by first | omega | (simp; omega) | (simp; done)) _ | refine Below.alloc ?_ (by first | omega | (simp; omega) | (simp; done)) _ | refine Below.drew ?_ | refine below_drewN ?_ _ | refine Below.trans ?_ (Below.mono (by assumption) (by first | omega | (simp; omega) | (simp; done))))))
      clear hb9
      rcases lb with _ | _
      · have HBAD : Hid (V = false) := BADG.out k hlt (by rw [HG.out]; rfl)
        go_wp2_with fail
        go_roundw
        case rel => exact ⟨k + 1, false, by omega, by go_num, rfl, HB9, ⟨(fun h => absurd h (by decide)), fun _ => HBAD.out⟩⟩
        case measure => simp [intOf]; omega
      · have HOK : Hid (∀ j, j < k + 1 → G j = true) := upto_succ HALL.out (by rw [HG.out]; rfl)
        go_wp2_with fail
        go_roundw
        case rel => exact ⟨k + 1, true, by omega, by go_num, rfl, HB9, ⟨(fun _ => HOK.out), fun h => absurd h (by decide)⟩⟩
        case measure => simp [intOf]; omega
    · obtain rfl : k = fs.length := by omega
      have E : Hid (an = 0) := A1.out (FIN.out HSH.out HALL.out)
      go_wp2_with fail
      go_ret
      exact ⟨retI E.out.symm, HBr⟩
end Go.Proofs.YtomgnpfpaodpiaaDoor

/- Contracts of the specification's isSlip and asked. -/
namespace Go.Proofs.YtomgnpfpaodpiaaDoor
open Go Go.RowKit
set_option maxHeartbeats 4000000
def askedV (f : Floor) (b : Bool) : Int := if checkV f = 0 then (if b then 0 else 31) else checkV f
theorem asked_slip (f : Floor) (n : Int) : askedV f (slipB f n) = checkSlipV f n := by
  unfold askedV checkV checkSlipV
  cases validB f <;> cases slipB f n <;> rfl
theorem rcheck_is {f : Floor} {e : Int} (hv : checkV f = e) (w : World) (h : FloorAt w w.heap.size f) :
    Calls Tryd.prog 17 #[f.val] w fun e' w' => e' = .returned (vi e) ∧ Below w.heap.size w w' := by
  subst hv
  exact rcheck_any f w h
theorem isSlip_any (f : Floor) (n : Int) (w : World) (hl : f.slips.length ≤ 35184372088832) :
    Calls Tryd.prog 55 #[f.val, vi n] w fun e w' => e = .returned (.bool (slipB f n)) ∧ Below w.heap.size w w' := by
  obtain ⟨v, hv⟩ : ∃ v, v = slipB f n := ⟨_, rfl⟩
  have hh : hasB 0 ((f.slips.length : Int) - 1) n = v := by
    rw [hv]
    unfold hasB slipB
    congr 1
    by_cases h : n < (f.slips.length : Int)
    · have : n ≤ (f.slips.length : Int) - 1 := by omega
      simp [h, this]
    · have : ¬ n ≤ (f.slips.length : Int) - 1 := by omega
      simp [h, this]
  rw [← hv]
  have hw : IntKind.wrap .i64 ((f.slips.length : Int) - 1) = (f.slips.length : Int) - 1 := wrapI (by omega) (by omega)
  have HH := Lib.hid hh
  clear hv hh
  obtain ⟨fA, fC, ff, slo, shi, pA, pC, fp, fc, sA, sC, fs⟩ := f
  simp only at hl hw HH
  show Calls Tryd.prog 55 #[.agg #[.slice fA ff.length fC, vi slo, vi shi, .slice pA fp.length pC, vi fc, .slice sA fs.length sC], vi n] w _
  go_enter Tryd.func55, Tryd.ntmps55
  go_wp2_with (go_at_call 39; refine (tween_is HH.out _).mono ?_; rintro e w1 ⟨rfl, rfl⟩)
  go_ret
  refine ⟨rfl, ?_⟩
  (repeat (first | exact Below.refl _ _ | refine Below.setCell ?_ (by first | omega | (simp; omega) | (simp; done)) _ | refine Below.alloc ?_ (by first | omega | (simp; omega) | (simp; done)) _ | refine Below.drew ?_ | refine below_drewN ?_ _ | refine Below.trans ?_ (Below.mono (by assumption) (by first | omega | (simp; omega) | (simp; done)))))
theorem isSlip_is {f : Floor} {n : Int} {v : Bool} (hv : slipB f n = v) (w : World) (hl : f.slips.length ≤ 35184372088832) :
    Calls Tryd.prog 55 #[f.val, vi n] w fun e w' => e = .returned (.bool v) ∧ Below w.heap.size w w' := by
  subst hv
  exact isSlip_any f n w hl
theorem asked_any (f : Floor) (b : Bool) (w : World) (h : FloorAt w w.heap.size f) :
    Calls Tryd.prog 54 #[f.val, .bool b] w fun e w' => e = .returned (vi (askedV f b)) ∧ Below w.heap.size w w' := by
  have HF := Lib.hid h
  have hb0 : Below w.heap.size w (w.alloc (.cells f.cells.toArray 28)) := (Below.refl _ _).alloc (Nat.le_refl _) _
  rcases check_two f with ⟨hc, hv⟩ | ⟨hc, hv⟩
  · have CH := Lib.hid (fun (W : World) hW => rcheck_is hc W hW)
    have E : Hid (askedV f b = 30) := by unfold Hid askedV; rw [if_neg (by omega), hc]
    obtain ⟨an, han⟩ : ∃ an, an = askedV f b := ⟨_, rfl⟩
    rw [← han] at E ⊢
    clear h hc hv han
    show Calls Tryd.prog 54 #[.agg #[.slice f.fA f.far.length f.fC, vi f.slo, vi f.shi, .slice f.pA f.picks.length f.pC, vi f.carry, .slice f.sA f.slips.length f.sC], .bool b] w _
    go_enter Tryd.func54, Tryd.ntmps54
    go_wp2_with fail
    refine (CH.out _ (HF.out.to (by (repeat (first | exact Below.refl _ _ | refine Below.setCell ?_ (by first | omega | (simp; omega) | (simp; done)) _ | refine Below.alloc ?_ (by first | omega | (simp; omega) | (simp; done)) _ | refine Below.drew ?_ | refine below_drewN ?_ _ | refine Below.trans ?_ (Below.mono (by assumption) (by first | omega | (simp; omega) | (simp; done)))))))).mono ?_
    rintro e W ⟨rfl, hb⟩
    have HB0 : Below w.heap.size w W := by (repeat (first | exact Below.refl _ _ | refine Below.setCell ?_ (by first | omega | (simp; omega) | (simp; done)) _ | refine Below.alloc ?_ (by first | omega | (simp; omega) | (simp; done)) _ | refine Below.drew ?_ | refine below_drewN ?_ _ | refine Below.trans ?_ (Below.mono (by assumption) (by first | omega | (simp; omega) | (simp; done)))))
    clear hb
    go_wp2_with fail
    go_ret
    exact ⟨retI E.out.symm, HB0⟩
  · have CH := Lib.hid (fun (W : World) hW => rcheck_is hc W hW)
    have E : Hid (askedV f b = if b then 0 else 31) := by unfold Hid askedV; rw [if_pos hc]
    obtain ⟨an, han⟩ : ∃ an, an = askedV f b := ⟨_, rfl⟩
    rw [← han] at E ⊢
    clear h hc hv han
    show Calls Tryd.prog 54 #[.agg #[.slice f.fA f.far.length f.fC, vi f.slo, vi f.shi, .slice f.pA f.picks.length f.pC, vi f.carry, .slice f.sA f.slips.length f.sC], .bool b] w _
    rcases b with _ | _
    · go_enter Tryd.func54, Tryd.ntmps54
      go_wp2_with fail
      refine (CH.out _ (HF.out.to (by (repeat (first | exact Below.refl _ _ | refine Below.setCell ?_ (by first | omega | (simp; omega) | (simp; done)) _ | refine Below.alloc ?_ (by first | omega | (simp; omega) | (simp; done)) _ | refine Below.drew ?_ | refine below_drewN ?_ _ | refine Below.trans ?_ (Below.mono (by assumption) (by first | omega | (simp; omega) | (simp; done)))))))).mono ?_
      rintro e W ⟨rfl, hb⟩
      have HB0 : Below w.heap.size w W := by (repeat (first | exact Below.refl _ _ | refine Below.setCell ?_ (by first | omega | (simp; omega) | (simp; done)) _ | refine Below.alloc ?_ (by first | omega | (simp; omega) | (simp; done)) _ | refine Below.drew ?_ | refine below_drewN ?_ _ | refine Below.trans ?_ (Below.mono (by assumption) (by first | omega | (simp; omega) | (simp; done)))))
      clear hb
      go_wp2_with fail
      go_ret
      exact ⟨retI E.out.symm, HB0⟩
    · go_enter Tryd.func54, Tryd.ntmps54
      go_wp2_with fail
      refine (CH.out _ (HF.out.to (by (repeat (first | exact Below.refl _ _ | refine Below.setCell ?_ (by first | omega | (simp; omega) | (simp; done)) _ | refine Below.alloc ?_ (by first | omega | (simp; omega) | (simp; done)) _ | refine Below.drew ?_ | refine below_drewN ?_ _ | refine Below.trans ?_ (Below.mono (by assumption) (by first | omega | (simp; omega) | (simp; done)))))))).mono ?_
      rintro e W ⟨rfl, hb⟩
      have HB0 : Below w.heap.size w W := by (repeat (first | exact Below.refl _ _ | refine Below.setCell ?_ (by first | omega | (simp; omega) | (simp; done)) _ | refine Below.alloc ?_ (by first | omega | (simp; omega) | (simp; done)) _ | refine Below.drew ?_ | refine below_drewN ?_ _ | refine Below.trans ?_ (Below.mono (by assumption) (by first | omega | (simp; omega) | (simp; done)))))
      clear hb
      go_wp2_with fail
      go_ret
      exact ⟨retI E.out.symm, HB0⟩
theorem asked_is {f : Floor} {b : Bool} {e : Int} (he : askedV f b = e) (w : World) (h : FloorAt w w.heap.size f) :
    Calls Tryd.prog 54 #[f.val, .bool b] w fun e' w' => e' = .returned (vi e) ∧ Below w.heap.size w w' := by
  subst he
  exact asked_any f b w h
end Go.Proofs.YtomgnpfpaodpiaaDoor

