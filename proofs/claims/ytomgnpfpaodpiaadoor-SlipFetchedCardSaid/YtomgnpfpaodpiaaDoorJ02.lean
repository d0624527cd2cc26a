/- Contracts of isValid, Check, checkSlip. -/
import Derived.Test.YtomgnpfpaodpiaaDoorJ01
import Derived.OwnWalk
import Derived.RangeFuncRecord
import Derived.Maps.AppendAt
import Derived.Laws.AppendOwn
import Derived.Deep.AppendLies
set_option linter.unusedVariables false
set_option linter.unusedSimpArgs false
namespace Go.Proofs.YtomgnpfpaodpiaaDoor
open Go Go.RowKit
set_option maxHeartbeats 4000000
theorem shelves_is {f : Floor} {v : Bool} (hv : shelvesB f = v) (w : World) (hl : Lim w) (h : FloorAt w w.heap.size f) :
    Calls Tryd.prog 89 #[f.val] w fun e w' => e = .returned (.bool v) ∧ Below w.heap.size w w' := by
  subst hv
  exact areShelves_any f w hl h
theorem lines_is {f : Floor} {l : List SLine} {v : Bool} (hv : linesB f.far.length l = v) (A : Option Addr) (cap : Nat) (hf : f.far.length ≤ 35184372088832) (w : World) (hl : Lim w) (h : SLinesAt w w.heap.size A l.length l) :
    Calls Tryd.prog 91 #[f.val, .slice A l.length cap] w fun e w' => e = .returned (.bool v) ∧ Below w.heap.size w w' := by
  subst hv
  exact areLines_any f A cap l hf w hl h
theorem RowsAt.short {w : World} {B sz cap : Nat} {A : Option Addr} {α : Type} {enc : α → List Value} {l : List α} (h : RowsAt w B sz A cap (l.map enc)) : RowsAt w B sz A l.length (l.map enc) :=
  ⟨by rw [List.length_map]; exact Nat.le_refl _, by have := h.lens; omega, h.few, h.row⟩
theorem goodSlip_of {f : Floor} {k : Nat} {s : SSlip} (h : f.slips[k]? = some s) : goodSlip f k = (hasB 0 100000 s.till && linesB f.far.length s.lines) := by
  unfold goodSlip
  rw [h]
set_option maxRecDepth 100000 in
theorem isValid_any (f : Floor) (w : World) (hl : Lim w) (h : FloorAt w w.heap.size f) :
    Calls Tryd.prog 57 #[f.val] w fun e w' => e = .returned (.bool (validB f)) ∧ Below w.heap.size w w' := by
  have h1l := h.far.lens
  have h3l := h.slips.lens
  have c1 := h.far.cap
  have c3 := h.slips.cap
  have HL := Lib.hid hl
  have HF := Lib.hid h
  have SH := Lib.hid (fun (v : Bool) (hv : shelvesB f = v) (W : World) hL hW => shelves_is hv W hL hW)
  have LI := Lib.hid (fun (l : List SLine) (v : Bool) (hv : linesB f.far.length l = v) (A : Option Addr) (cap : Nat) (W : World) hL hW => lines_is hv A cap h1l.2 W hL hW)
  have GS : Hid (∀ (k : Nat) (s : SSlip), f.slips[k]? = some s → goodSlip f k = (hasB 0 100000 s.till && linesB f.far.length s.lines)) := fun k s a => goodSlip_of a
  have HVB : Hid (validB f = ((((shelvesB f && withinB 1 10 f.slo f.shi) && hasB 1 20 f.carry) && hasB 0 9 f.slips.length) && (List.range f.slips.length).all (goodSlip f))) := rfl
  obtain ⟨gs, hgs⟩ : ∃ gs, gs = goodSlip f := ⟨_, rfl⟩
  obtain ⟨an, han⟩ : ∃ an, an = validB f := ⟨_, rfl⟩
  obtain ⟨sh, hsh⟩ : ∃ sh, shelvesB f = sh := ⟨_, rfl⟩
  rw [← hgs] at GS HVB
  rw [← han, hsh] at HVB
  rw [← han]
  have HSH := Lib.hid hsh
  clear h hgs han hsh
  obtain ⟨fA, fC, ff, slo, shi, pA, pC, fp, fc, sA, sC, fs⟩ := f
  simp only at h1l h3l c1 c3 GS HVB LI
  show Calls Tryd.prog 57 #[.agg #[.slice fA ff.length fC, vi slo, vi shi, .slice pA fp.length pC, vi fc, .slice sA fs.length sC]] w fun e w' => e = .returned (.bool an) ∧ Below w.heap.size w w'
  rcases sh with _ | _
  · have E : Hid (an = false) := by unfold Hid; rw [HVB.out]; rfl
    go_enter Tryd.func57, Tryd.ntmps57
    go_wp2_with fail
    refine (SH.out _ HSH.out _ (HL.out.next (by (repeat (first | exact Below.refl _ _ | refine Below.setCell ?_ (by first | omega | (simp; omega) | (simp; done)) _ | refine Below.alloc ?_ (by first | omega | (simp; omega) | (simp; done)) _ | refine Below.drew ?_ | refine below_drewN ?_ _ | refine Below.trans ?_ (Below.mono (by assumption) (by first | omega | (simp; omega) | (simp; done))))))) (HF.out.to (by (repeat (first | exact Below.refl _ _ | refine Below.setCell ?_ (by first | omega | (simp; omega) | (simp; done)) _ | refine Below.alloc ?_ (by first | omega | (simp; omega) | (simp; done)) _ | refine Below.drew ?_ | refine below_drewN ?_ _ | refine Below.trans ?_ (Below.mono (by assumption) (by first | omega | (simp; omega) | (simp; done)))))))).mono ?_
    rintro e W ⟨rfl, hb⟩
    have HB0 : Below w.heap.size w W := by (repeat (first | exact Below.refl _ _ | refine Below.setCell ?_ (by first | omega | (simp; omega) | (simp; done)) _ | refine Below.alloc ?_ (by first | omega | (simp; omega) | (simp; done)) _ | refine Below.drew ?_ | refine below_drewN ?_ _ | refine Below.trans ?_ (Below.mono (by assumption) (by first | omega | (simp; omega) | (simp; done)))))
    clear hb
    go_wp2_with fail
    go_ret
    exact ⟨retB E.out.symm, HB0⟩
  obtain ⟨st, hst⟩ : ∃ st, withinB 1 10 slo shi = st := ⟨_, rfl⟩
  have HST := Lib.hid hst
  rw [hst] at HVB
  clear hst
  go_enter Tryd.func57, Tryd.ntmps57
  go_wp2_with fail
  refine (SH.out _ HSH.out _ (HL.out.next (by (repeat (first | exact Below.refl _ _ | refine Below.setCell ?_ (by first | omega | (simp; omega) | (simp; done)) _ | refine Below.alloc ?_ (by first | omega | (simp; omega) | (simp; done)) _ | refine Below.drew ?_ | refine below_drewN ?_ _ | refine Below.trans ?_ (Below.mono (by assumption) (by first | omega | (simp; omega) | (simp; done))))))) (HF.out.to (by (repeat (first | exact Below.refl _ _ | refine Below.setCell ?_ (by first | omega | (simp; omega) | (simp; done)) _ | refine Below.alloc ?_ (by first | omega | (simp; omega) | (simp; done)) _ | refine Below.drew ?_ | refine below_drewN ?_ _ | refine Below.trans ?_ (Below.mono (by assumption) (by first | omega | (simp; omega) | (simp; done)))))))).mono ?_
  rintro e W ⟨rfl, hb⟩
  have HB0 : Below w.heap.size w W := by (repeat (first | exact Below.refl _ _ | refine Below.setCell ?_ (by first | omega | (simp; omega) | (simp; done)) _ | refine Below.alloc ?_ (by first | omega | (simp; omega) | (simp; done)) _ | refine Below.drew ?_ | refine below_drewN ?_ _ | refine Below.trans ?_ (Below.mono (by assumption) (by first | omega | (simp; omega) | (simp; done)))))
  have a0 : W.cell? ⟨w.heap.size, 0, none⟩ = some (.slice fA ff.length fC) := cell_keep hb (by simp [go_sem])
  have a1 : W.cell? ⟨w.heap.size, 1, none⟩ = some (vi slo) := cell_keep hb (by simp [go_sem])
  have a2 : W.cell? ⟨w.heap.size, 2, none⟩ = some (vi shi) := cell_keep hb (by simp [go_sem])
  have a3 : W.cell? ⟨w.heap.size, 3, none⟩ = some (.slice pA fp.length pC) := cell_keep hb (by simp [go_sem])
  have a4 : W.cell? ⟨w.heap.size, 4, none⟩ = some (vi fc) := cell_keep hb (by simp [go_sem])
  have a5 : W.cell? ⟨w.heap.size, 5, none⟩ = some (.slice sA fs.length sC) := cell_keep hb (by simp [go_sem])
  have za := cell_lt a0
  have hLW : Lim W := HL.out.next HB0
  obtain ⟨r0, r1⟩ := hLW.row 2 (by omega) (a := 1) (b := 10) (by decide) (by decide)
  have hp := hLW.pos
  clear hb hLW
  go_wp2_with fail
  refine (within_is HST.out _).mono ?_
  rintro e W1 ⟨rfl, hb1⟩
  have HB1 : Below w.heap.size w W1 := HB0.trans (hb1.mono HB0.size)
  rcases st with _ | _
  · have E : Hid (an = false) := by unfold Hid; rw [HVB.out]; simp
    clear hb1
    go_wp2_with fail
    go_ret
    exact ⟨retB E.out.symm, HB1⟩
  have a01 := cell_keep hb1 a0
  have a11 := cell_keep hb1 a1
  have a21 := cell_keep hb1 a2
  have a31 := cell_keep hb1 a3
  have a41 := cell_keep hb1 a4
  have a51 := cell_keep hb1 a5
  have za1 : w.heap.size < W1.heap.size := cell_lt a01
  have hLW1 : Lim W1 := HL.out.next HB1
  obtain ⟨s0, s1⟩ := hLW1.row 4 (by omega) (a := 1) (b := 20) (by decide) (by decide)
  have hp1 := hLW1.pos
  obtain ⟨ct, hct⟩ : ∃ ct, hasB 1 20 fc = ct := ⟨_, rfl⟩
  have HCT := Lib.hid hct
  rw [hct] at HVB
  clear hct hb1 a0 a1 a2 a3 a4 a5 r0 r1 hp za hLW1
  go_wp2_with fail
  refine (has_is HCT.out _).mono ?_
  rintro e W2 ⟨rfl, hb2⟩
  have HB2 : Below w.heap.size w W2 := HB1.trans (hb2.mono HB1.size)
  rcases ct with _ | _
  · have E : Hid (an = false) := by unfold Hid; rw [HVB.out]; simp
    clear hb2
    go_wp2_with fail
    go_ret
    exact ⟨retB E.out.symm, HB2⟩
  have a02 := cell_keep hb2 a01
  have a12 := cell_keep hb2 a11
  have a22 := cell_keep hb2 a21
  have a32 := cell_keep hb2 a31
  have a42 := cell_keep hb2 a41
  have a52 := cell_keep hb2 a51
  have za2 : w.heap.size < W2.heap.size := cell_lt a02
  have hLW2 : Lim W2 := HL.out.next HB2
  obtain ⟨t0, t1⟩ := hLW2.row 5 (by omega) (a := 0) (b := 9) (by decide) (by decide)
  have hp2 := hLW2.pos
  obtain ⟨nt, hnt⟩ : ∃ nt, hasB 0 9 (fs.length : Int) = nt := ⟨_, rfl⟩
  have HNT := Lib.hid hnt
  rw [hnt] at HVB
  clear hnt hb2 a01 a11 a21 a31 a41 a51 s0 s1 hp1 za1 hLW2
  go_wp2_with fail
  refine (has_is HNT.out _).mono ?_
  rintro e W3 ⟨rfl, hb3⟩
  have HB3 : Below w.heap.size w W3 := HB2.trans (hb3.mono HB2.size)
  rcases nt with _ | _
  · have E : Hid (an = false) := by unfold Hid; rw [HVB.out]; simp
    clear hb3
    go_wp2_with fail
    go_ret
    exact ⟨retB E.out.symm, HB3⟩
  have FIN : Hid ((∀ k, k < fs.length → gs k = true) → an = true) := fun ha => by rw [HVB.out]; exact all_yes (by simp) ha
  have BAD : Hid (∀ k, k < fs.length → gs k = false → an = false) := fun k hk hg => by rw [HVB.out]; exact all_no hk hg
  have a03 := cell_keep hb3 a02
  have a13 := cell_keep hb3 a12
  have a23 := cell_keep hb3 a22
  have a33 := cell_keep hb3 a32
  have a43 := cell_keep hb3 a42
  have a53 := cell_keep hb3 a52
  have za3 : w.heap.size < W3.heap.size := cell_lt a03
  clear hb3 a02 a12 a22 a32 a42 a52 t0 t1 hp2 za2 HVB
  go_wp2_with fail
  go_loopw [38] (fun i wr => ∃ k : Nat, k ≤ fs.length ∧ i = .int .i64 k ∧ Below W3.heap.size W3 wr ∧ Hid (∀ j, j < k → gs j = true)) (fun i _ => fs.length - (intOf i).toNat)
  case atStart => exact ⟨0, Nat.zero_le _, rfl, Below.refl _ _, fun j hj => absurd hj (by omega)⟩
  clear za3
  obtain ⟨k, hk, rfl, hB, HA⟩ := hrel
  have HBr : Below w.heap.size w wr := HB3.trans (hB.mono HB3.size)
  have hLr : Lim wr := HL.out.next HBr
  obtain ⟨r0, r1⟩ := hLr.row 6 (by omega) (a := 0) (b := 100000) (by decide) (by decide)
  have hp := hLr.pos
  by_cases hlt : k < fs.length
  · obtain ⟨s, hs⟩ : ∃ s, fs[k]? = some s := ⟨_, List.getElem?_eq_getElem hlt⟩
    have hFr := HF.out.to HBr
    obtain ⟨bb, off, rfl, hbb, x0, x1⟩ := row2 hFr.slips.row hs rfl
    have G := Lib.hid (GS.out k s hs)
    have hsl : SLinesAt wr wr.heap.size s.ad s.cap s.lines := hFr.each s (List.mem_of_getElem? hs)
    have hkI : (k : Int) < fs.length := by omega
    have h0k : (0 : Int) ≤ k := by omega
    have zbb : bb < wr.heap.size := cell_lt x0
    have a0r := cell_keep hB a03
    have a1r := cell_keep hB a13
    have a2r := cell_keep hB a23
    have a3r := cell_keep hB a33
    have a4r := cell_keep hB a43
    have a5r := cell_keep hB a53
    have za : w.heap.size < wr.heap.size := cell_lt a0r
    clear hs hFr
    obtain ⟨lA, lC, ll, till⟩ := s
    simp only at G hsl
    replace x0 : wr.cell? ⟨bb, off + k * 2, none⟩ = some (.slice lA ll.length lC) := x0
    replace x1 : wr.cell? ⟨bb, off + k * 2 + 1, none⟩ = some (vi till) := x1
    have HSL := Lib.hid hsl.short
    clear hsl
    rcases g1 : hasB 0 100000 till with _ | _
    · have E : Hid (an = false) := BAD.out k hlt (by rw [G.out, g1]; rfl)
      have G1 := Lib.hid g1
      clear g1
      go_wp2_with (go_at_call 73; refine (has_is G1.out _).mono ?_; rintro e w1 ⟨rfl, hb1⟩; obtain ⟨⟨hc1, hf1, hs1⟩, hz1⟩ := after hb1; (try simp only [World.size_alloc, World.size_setCell, World.size_drew] at hz1))
      go_ret
      refine ⟨retB E.out.symm, ?_⟩
      (repeat (first | exact Below.refl _ _ | refine Below.setCell ?_ (by first | omega | (simp; omega) | (simp; done)) _ | refine Below.alloc ?_ (by first | omega | (simp; omega) | (simp; done)) _ | refine Below.drew ?_ | refine below_drewN ?_ _ | refine Below.trans ?_ (Below.mono (by assumption) (by first | omega | (simp; omega) | (simp; done)))))
    · have G1 := Lib.hid g1
      obtain ⟨lv, hlv⟩ : ∃ lv, linesB ff.length ll = lv := ⟨_, rfl⟩
      have HLV := Lib.hid hlv
      have EV : Hid (gs k = lv) := by unfold Hid; rw [G.out, g1, hlv]; rfl
      clear g1 hlv
      go_wp2_with fail
      refine (has_is G1.out _).mono ?_
      rintro e W4 ⟨rfl, hb4⟩
      have HB4 : Below wr.heap.size wr W4 := by (repeat (first | exact Below.refl _ _ | refine Below.setCell ?_ (by first | omega | (simp; omega) | (simp; done)) _ | refine Below.alloc ?_ (by first | omega | (simp; omega) | (simp; done)) _ | refine Below.drew ?_ | refine below_drewN ?_ _ | refine Below.trans ?_ (Below.mono (by assumption) (by first | omega | (simp; omega) | (simp; done)))))
      have p0 : W4.cell? ⟨wr.heap.size, 0, none⟩ = some (.slice lA ll.length lC) := cell_keep hb4 (by simp [go_sem])
      have p1 : W4.cell? ⟨wr.heap.size, 1, none⟩ = some (vi till) := cell_keep hb4 (by simp [go_sem])
      have a04 := cell_keep HB4 a0r
      have a14 := cell_keep HB4 a1r
      have a24 := cell_keep HB4 a2r
      have a34 := cell_keep HB4 a3r
      have a44 := cell_keep HB4 a4r
      have a54 := cell_keep HB4 a5r
      have zp := cell_lt p0
      have za4 : w.heap.size < W4.heap.size := cell_lt a04
      have HBW4 : Below w.heap.size w W4 := HBr.trans (HB4.mono HBr.size)
      clear hb4 a0r a1r a2r a3r a4r a5r x0 x1 r0 r1 hp hLr
      go_wp2_with fail
      refine (LI.out _ _ HLV.out lA lC _ (HL.out.next HBW4) (HSL.out.to HB4)).mono ?_
      rintro e W5 ⟨rfl, hb5⟩
      rcases lv with _ | _
      · have E : Hid (an = false) := BAD.out k hlt EV.out
        go_wp2_with fail
        go_ret
        exact ⟨retB E.out.symm, HBW4.trans (hb5.mono HBW4.size)⟩
      · have HA2 : Hid (∀ j, j < k + 1 → gs j = true) := upto_succ HA.out EV.out
        go_wp2_with fail
        go_roundw
        case rel => exact ⟨k + 1, by omega, by go_num, gr_trans hB (gr_trans HB4 hb5), HA2.out⟩
        case measure => simp [intOf]; omega
  · obtain rfl : k = fs.length := by omega
    have E : Hid (an = true) := FIN.out HA.out
    go_wp2_with fail
    go_ret
    exact ⟨retB E.out.symm, HBr⟩
end Go.Proofs.YtomgnpfpaodpiaaDoor

/- Contracts of Check and checkSlip. -/
namespace Go.Proofs.YtomgnpfpaodpiaaDoor
open Go Go.RowKit
set_option maxHeartbeats 2000000
def checkV (f : Floor) : Int := if validB f then 0 else 30
def checkSlipV (f : Floor) (n : Int) : Int := if validB f then (if slipB f n then 0 else 31) else 30
theorem valid_is {f : Floor} {b : Bool} (hv : validB f = b) (w : World) (hl : Lim w) (h : FloorAt w w.heap.size f) :
    Calls Tryd.prog 57 #[f.val] w fun e w' => e = .returned (.bool b) ∧ Below w.heap.size w w' := by
  have := isValid_any f w hl h
  rwa [hv] at this
theorem slip_is {f : Floor} {n : Int} {b : Bool} (hv : slipB f n = b) (w : World) (hl : f.slips.length ≤ 35184372088832) :
    Calls Tryd.prog 85 #[f.val, vi n] w fun e w' => e = .returned (.bool b) ∧ Below w.heap.size w w' := by
  have := hasSlip_any f n w hl
  rwa [hv] at this
theorem Check_any (f : Floor) (w : World) (hl : Lim w) (h : FloorAt w w.heap.size f) :
    Calls Tryd.prog 16 #[f.val] w fun e w' => e = .returned (vi (checkV f)) ∧ Below w.heap.size w w' := by
  rcases hv : validB f with _ | _
  · have E : Hid (checkV f = 30) := by unfold Hid checkV; simp [hv]
    have VA := Lib.hid (fun (W : World) hL hW => valid_is hv W hL hW)
    have HL := Lib.hid hl
    have HF := Lib.hid h
    obtain ⟨an, han⟩ : ∃ an, an = checkV f := ⟨_, rfl⟩
    rw [← han] at E ⊢
    clear h hl hv han
    obtain ⟨fA, fC, ff, slo, shi, pA, pC, fp, fc, sA, sC, fs⟩ := f
    show Calls Tryd.prog 16 #[.agg #[.slice fA ff.length fC, vi slo, vi shi, .slice pA fp.length pC, vi fc, .slice sA fs.length sC]] w _
    go_enter Tryd.func16, Tryd.ntmps16
    go_wp2_with fail
    refine (VA.out _ (HL.out.next (by (repeat (first | exact Below.refl _ _ | refine Below.setCell ?_ (by first | omega | (simp; omega) | (simp; done)) _ | refine Below.alloc ?_ (by first | omega | (simp; omega) | (simp; done)) _ | refine Below.drew ?_ | refine below_drewN ?_ _ | refine Below.trans ?_ (Below.mono (by assumption) (by first | omega | (simp; omega) | (simp; done))))))) (HF.out.to (by (repeat (first | exact Below.refl _ _ | refine Below.setCell ?_ (by first | omega | (simp; omega) | (simp; done)) _ | refine Below.alloc ?_ (by first | omega | (simp; omega) | (simp; done)) _ | refine Below.drew ?_ | refine below_drewN ?_ _ | refine Below.trans ?_ (Below.mono (by assumption) (by first | omega | (simp; omega) | (simp; done)))))))).mono ?_
    rintro e W ⟨rfl, hb⟩
    have HB0 : Below w.heap.size w W := by (repeat (first | exact Below.refl _ _ | refine Below.setCell ?_ (by first | omega | (simp; omega) | (simp; done)) _ | refine Below.alloc ?_ (by first | omega | (simp; omega) | (simp; done)) _ | refine Below.drew ?_ | refine below_drewN ?_ _ | refine Below.trans ?_ (Below.mono (by assumption) (by first | omega | (simp; omega) | (simp; done)))))
    clear hb
    go_wp2_with fail
    go_ret
    exact ⟨by rw [E.out]; rfl, HB0⟩
  · have E : Hid (checkV f = 0) := by unfold Hid checkV; simp [hv]
    have VA := Lib.hid (fun (W : World) hL hW => valid_is hv W hL hW)
    have HL := Lib.hid hl
    have HF := Lib.hid h
    obtain ⟨an, han⟩ : ∃ an, an = checkV f := ⟨_, rfl⟩
    rw [← han] at E ⊢
    clear h hl hv han
    obtain ⟨fA, fC, ff, slo, shi, pA, pC, fp, fc, sA, sC, fs⟩ := f
    show Calls Tryd.prog 16 #[.agg #[.slice fA ff.length fC, vi slo, vi shi, .slice pA fp.length pC, vi fc, .slice sA fs.length sC]] w _
    go_enter Tryd.func16, Tryd.ntmps16
    go_wp2_with fail
    refine (VA.out _ (HL.out.next (by (repeat (first | exact Below.refl _ _ | refine Below.setCell ?_ (by first | omega | (simp; omega) | (simp; done)) _ | refine Below.alloc ?_ (by first | omega | (simp; omega) | (simp; done)) _ | refine Below.drew ?_ | refine below_drewN ?_ _ | refine Below.trans ?_ (Below.mono (by assumption) (by first | omega | (simp; omega) | (simp; done))))))) (HF.out.to (by (repeat (first | exact Below.refl _ _ | refine Below.setCell ?_ (by first | omega | (simp; omega) | (simp; done)) _ | refine Below.alloc ?_ (by first | omega | (simp; omega) | (simp; done)) _ | refine Below.drew ?_ | refine below_drewN ?_ _ | refine Below.trans ?_ (Below.mono (by assumption) (by first | omega | (simp; omega) | (simp; done)))))))).mono ?_
    rintro e W ⟨rfl, hb⟩
    have HB0 : Below w.heap.size w W := by (repeat (first | exact Below.refl _ _ | refine Below.setCell ?_ (by first | omega | (simp; omega) | (simp; done)) _ | refine Below.alloc ?_ (by first | omega | (simp; omega) | (simp; done)) _ | refine Below.drew ?_ | refine below_drewN ?_ _ | refine Below.trans ?_ (Below.mono (by assumption) (by first | omega | (simp; omega) | (simp; done)))))
    clear hb
    go_wp2_with fail
    go_ret
    exact ⟨by rw [E.out]; rfl, HB0⟩
theorem check_is {f : Floor} {e : Int} (hv : checkV f = e) (w : World) (hl : Lim w) (h : FloorAt w w.heap.size f) :
    Calls Tryd.prog 16 #[f.val] w fun e' w' => e' = .returned (vi e) ∧ Below w.heap.size w w' := by
  have := Check_any f w hl h
  rwa [hv] at this
theorem checkSlip_any (f : Floor) (n : Int) (w : World) (hl : Lim w) (h : FloorAt w w.heap.size f) :
    Calls Tryd.prog 52 #[f.val, vi n] w fun e w' => e = .returned (vi (checkSlipV f n)) ∧ Below w.heap.size w w' := by
  have h3l := h.slips.lens
  have HL := Lib.hid hl
  have HF := Lib.hid h
  rcases hv : validB f with _ | _
  · have E : Hid (checkSlipV f n = 30) := by unfold Hid checkSlipV; simp [hv]
    have VA := Lib.hid (fun (W : World) hL hW => check_is (f := f) (e := 30) (by unfold checkV; simp [hv]) W hL hW)
    obtain ⟨an, han⟩ : ∃ an, an = checkSlipV f n := ⟨_, rfl⟩
    rw [← han] at E ⊢
    clear h hl hv han
    obtain ⟨fA, fC, ff, slo, shi, pA, pC, fp, fc, sA, sC, fs⟩ := f
    show Calls Tryd.prog 52 #[.agg #[.slice fA ff.length fC, vi slo, vi shi, .slice pA fp.length pC, vi fc, .slice sA fs.length sC], vi n] w _
    go_enter Tryd.func52, Tryd.ntmps52
    go_wp2_with fail
    refine (VA.out _ (HL.out.next (by (repeat (first | exact Below.refl _ _ | refine Below.setCell ?_ (by first | omega | (simp; omega) | (simp; done)) _ | refine Below.alloc ?_ (by first | omega | (simp; omega) | (simp; done)) _ | refine Below.drew ?_ | refine below_drewN ?_ _ | refine Below.trans ?_ (Below.mono (by assumption) (by first | omega | (simp; omega) | (simp; done))))))) (HF.out.to (by (repeat (first | exact Below.refl _ _ | refine Below.setCell ?_ (by first | omega | (simp; omega) | (simp; done)) _ | refine Below.alloc ?_ (by first | omega | (simp; omega) | (simp; done)) _ | refine Below.drew ?_ | refine below_drewN ?_ _ | refine Below.trans ?_ (Below.mono (by assumption) (by first | omega | (simp; omega) | (simp; done)))))))).mono ?_
    rintro e W ⟨rfl, hb⟩
    have HB0 : Below w.heap.size w W := by (repeat (first | exact Below.refl _ _ | refine Below.setCell ?_ (by first | omega | (simp; omega) | (simp; done)) _ | refine Below.alloc ?_ (by first | omega | (simp; omega) | (simp; done)) _ | refine Below.drew ?_ | refine below_drewN ?_ _ | refine Below.trans ?_ (Below.mono (by assumption) (by first | omega | (simp; omega) | (simp; done)))))
    clear hb
    go_wp2_with fail
    go_ret
    exact ⟨by rw [E.out]; rfl, HB0⟩
  obtain ⟨sb, hsb⟩ : ∃ sb, slipB f n = sb := ⟨_, rfl⟩
  have E : Hid (checkSlipV f n = if sb then 0 else 31) := by unfold Hid checkSlipV; simp [hv, hsb]
  have VA := Lib.hid (fun (W : World) hL hW => check_is (f := f) (e := 0) (by unfold checkV; simp [hv]) W hL hW)
  have HS := Lib.hid (fun (W : World) => slip_is hsb W h3l.2)
  obtain ⟨an, han⟩ : ∃ an, an = checkSlipV f n := ⟨_, rfl⟩
  rw [← han] at E ⊢
  clear h hl hv han hsb
  obtain ⟨fA, fC, ff, slo, shi, pA, pC, fp, fc, sA, sC, fs⟩ := f
  simp only at h3l
  show Calls Tryd.prog 52 #[.agg #[.slice fA ff.length fC, vi slo, vi shi, .slice pA fp.length pC, vi fc, .slice sA fs.length sC], vi n] w _
  go_enter Tryd.func52, Tryd.ntmps52
  go_wp2_with fail
  refine (VA.out _ (HL.out.next (by (repeat (first | exact Below.refl _ _ | refine Below.setCell ?_ (by first | omega | (simp; omega) | (simp; done)) _ | refine Below.alloc ?_ (by first | omega | (simp; omega) | (simp; done)) _ | refine Below.drew ?_ | refine below_drewN ?_ _ | refine Below.trans ?_ (Below.mono (by assumption) (by first | omega | (simp; omega) | (simp; done))))))) (HF.out.to (by (repeat (first | exact Below.refl _ _ | refine Below.setCell ?_ (by first | omega | (simp; omega) | (simp; done)) _ | refine Below.alloc ?_ (by first | omega | (simp; omega) | (simp; done)) _ | refine Below.drew ?_ | refine below_drewN ?_ _ | refine Below.trans ?_ (Below.mono (by assumption) (by first | omega | (simp; omega) | (simp; done)))))))).mono ?_
  rintro e W ⟨rfl, hb⟩
  have HB0 : Below w.heap.size w W := by (repeat (first | exact Below.refl _ _ | refine Below.setCell ?_ (by first | omega | (simp; omega) | (simp; done)) _ | refine Below.alloc ?_ (by first | omega | (simp; omega) | (simp; done)) _ | refine Below.drew ?_ | refine below_drewN ?_ _ | refine Below.trans ?_ (Below.mono (by assumption) (by first | omega | (simp; omega) | (simp; done)))))
  have a0 : W.cell? ⟨w.heap.size, 0, none⟩ = some (.slice fA ff.length fC) := cell_keep hb (by simp [go_sem])
  have a1 : W.cell? ⟨w.heap.size, 1, none⟩ = some (vi slo) := cell_keep hb (by simp [go_sem])
  have a2 : W.cell? ⟨w.heap.size, 2, none⟩ = some (vi shi) := cell_keep hb (by simp [go_sem])
  have a3 : W.cell? ⟨w.heap.size, 3, none⟩ = some (.slice pA fp.length pC) := cell_keep hb (by simp [go_sem])
  have a4 : W.cell? ⟨w.heap.size, 4, none⟩ = some (vi fc) := cell_keep hb (by simp [go_sem])
  have a5 : W.cell? ⟨w.heap.size, 5, none⟩ = some (.slice sA fs.length sC) := cell_keep hb (by simp [go_sem])
  clear hb
  go_wp2_with fail
  refine (HS.out _).mono ?_
  rintro e W2 ⟨rfl, hb⟩
  have HB1 : Below w.heap.size w W2 := HB0.trans (hb.mono HB0.size)
  clear hb
  rcases sb with _ | _
  · go_wp2_with fail
    go_ret
    exact ⟨by rw [E.out]; rfl, HB1⟩
  · go_wp2_with fail
    go_ret
    exact ⟨by rw [E.out]; rfl, HB1⟩
theorem checkSlip_is {f : Floor} {n e : Int} (hv : checkSlipV f n = e) (w : World) (hl : Lim w) (h : FloorAt w w.heap.size f) :
    Calls Tryd.prog 52 #[f.val, vi n] w fun e' w' => e' = .returned (vi e) ∧ Below w.heap.size w w' := by
  have := checkSlip_any f n w hl h
  rwa [hv] at this
end Go.Proofs.YtomgnpfpaodpiaaDoor

/- Contracts of sets. -/
namespace Go.Proofs.YtomgnpfpaodpiaaDoor
open Go Go.RowKit
set_option maxHeartbeats 2000000
theorem has_fact : ∀ s : Fin 9, ∀ m : Fin 512, (bits BinOp.and IntKind.i64 ((m.val : Int) / 2 ^ s.val) 1 == 1) = m.val.testBit s.val := by decide +kernel
theorem with_fact : ∀ s : Fin 9, ∀ m : Fin 512, bits BinOp.or IntKind.i64 (m.val : Int) (wrap64 (2 ^ s.val)) = ((m.val ||| 2 ^ s.val : Nat) : Int) := by decide +kernel
theorem setHas_any (m s : Nat) (hm : m < 512) (hs : s < 9) (w : World) :
    Calls Tryd.prog 96 #[vi m, vi s] w fun e w' => e = .returned (.bool (m.testBit s)) ∧ Below w.heap.size w w' := by
  have h1 : (0 : Int) ≤ s := by omega
  have h2 : (s : Int) < 9 := by omega
  go_enter Tryd.func96, Tryd.ntmps96
  go_wp2_with fail
  go_ret
  exact ⟨retB (has_fact ⟨s, hs⟩ ⟨m, hm⟩), Below.refl _ _⟩
theorem setWith_any (m s : Nat) (hm : m < 512) (hs : s < 9) (w : World) :
    Calls Tryd.prog 97 #[vi m, vi s] w fun e w' => e = .returned (vi (m ||| 2 ^ s : Nat)) ∧ Below w.heap.size w w' := by
  have h1 : (0 : Int) ≤ s := by omega
  have h2 : (s : Int) < 9 := by omega
  go_enter Tryd.func97, Tryd.ntmps97
  go_wp2_with fail
  go_ret
  exact ⟨retI (with_fact ⟨s, hs⟩ ⟨m, hm⟩), Below.refl _ _⟩
end Go.Proofs.YtomgnpfpaodpiaaDoor

/- Contracts of floor.all and isInTime. -/
namespace Go.Proofs.YtomgnpfpaodpiaaDoor
open Go Go.RowKit
set_option maxHeartbeats 2000000
theorem all_fact : ∀ n : Fin 10, wrap64 (wrap64 (2 ^ n.val) - 1) = ((2 ^ n.val - 1 : Nat) : Int) := by decide +kernel
theorem all_any (f : Floor) (hs : f.slips.length ≤ 9) (w : World) :
    Calls Tryd.prog 71 #[f.val] w fun e w' => e = .returned (vi (2 ^ f.slips.length - 1 : Nat)) ∧ Below w.heap.size w w' := by
  obtain ⟨fA, fC, ff, slo, shi, pA, pC, fp, fc, sA, sC, fs⟩ := f
  simp only at hs
  show Calls Tryd.prog 71 #[.agg #[.slice fA ff.length fC, vi slo, vi shi, .slice pA fp.length pC, vi fc, .slice sA fs.length sC]] w _
  have h1 : (0 : Int) ≤ fs.length := by omega
  have h2 : (fs.length : Int) ≤ 9 := by omega
  go_enter Tryd.func71, Tryd.ntmps71
  go_wp2_with fail
  go_ret
  refine ⟨retI (all_fact ⟨fs.length, by omega⟩), ?_⟩
  (repeat (first | exact Below.refl _ _ | refine Below.setCell ?_ (by first | omega | (simp; omega) | (simp; done)) _ | refine Below.alloc ?_ (by first | omega | (simp; omega) | (simp; done)) _ | refine Below.drew ?_ | refine below_drewN ?_ _ | refine Below.trans ?_ (Below.mono (by assumption) (by first | omega | (simp; omega) | (simp; done)))))
theorem isInTime_any (f : Floor) (n : Nat) (x : Int) (s : SSlip) (hs : f.slips[n]? = some s) (w : World) (h : FloorAt w w.heap.size f) :
    Calls Tryd.prog 109 #[f.val, vi n, vi x] w fun e w' => e = .returned (.bool (decide (x ≤ s.till))) ∧ Below w.heap.size w w' := by
  have hsl := h.slips.lens
  obtain ⟨bs, os, hsA, hbs, s0, s1⟩ := row2 h.slips.row hs rfl
  have hnl : (n : Int) < f.slips.length := by have := (List.getElem?_eq_some_iff.1 hs).1; omega
  have h0n : (0 : Int) ≤ n := by omega
  have zbs : bs < w.heap.size := cell_lt s0
  clear hs h
  obtain ⟨sa, sc, sl, till⟩ := s
  replace s1 : w.cell? ⟨bs, os + n * 2 + 1, none⟩ = some (vi till) := s1
  obtain ⟨fA, fC, ff, slo, shi, pA, pC, fp, fc, sA, sC, fs⟩ := f
  simp only at hsl hnl hsA
  subst hsA
  show Calls Tryd.prog 109 #[.agg #[.slice fA ff.length fC, vi slo, vi shi, .slice pA fp.length pC, vi fc, .slice (some ⟨bs, os, none⟩) fs.length sC], vi n, vi x] w _
  obtain ⟨ans, hans⟩ : ∃ ans, ans = decide (x ≤ till) := ⟨_, rfl⟩
  go_enter Tryd.func109, Tryd.ntmps109
  go_wp2_with fail
  go_ret
  refine ⟨rfl, ?_⟩
  (repeat (first | exact Below.refl _ _ | refine Below.setCell ?_ (by first | omega | (simp; omega) | (simp; done)) _ | refine Below.alloc ?_ (by first | omega | (simp; omega) | (simp; done)) _ | refine Below.drew ?_ | refine below_drewN ?_ _ | refine Below.trans ?_ (Below.mono (by assumption) (by first | omega | (simp; omega) | (simp; done)))))
end Go.Proofs.YtomgnpfpaodpiaaDoor

/- Contract of setOf. -/
namespace Go.Proofs.YtomgnpfpaodpiaaDoor
open Go Go.RowKit
set_option maxHeartbeats 2000000
def setF (l : List Nat) : Nat := l.foldl (fun m s => m ||| 2 ^ s) 0
theorem setF_snoc (l : List Nat) (s : Nat) : setF (l ++ [s]) = setF l ||| 2 ^ s := by simp [setF]
theorem setF_lt : ∀ (l : List Nat), (∀ s ∈ l, s < 9) → setF l < 512 := by
  have key : ∀ (l : List Nat) (m : Nat), m < 512 → (∀ s ∈ l, s < 9) → l.foldl (fun m s => m ||| 2 ^ s) m < 512 := by
    intro l
    induction l with
    | nil => intro m hm _; exact hm
    | cons s l ih =>
      intro m hm h
      refine ih _ ?_ (fun x hx => h x (by simp [hx]))
      have hs := h s (by simp)
      have : (2 : Nat) ^ s < 2 ^ 9 := Nat.pow_lt_pow_right (by omega) hs
      exact Nat.or_lt_two_pow (n := 9) (by omega) this
  exact fun l h => key l 0 (by omega) h
theorem setOf_any (A : Option Addr) (cap : Nat) (l : List Nat) (hl : ∀ s ∈ l, s < 9) (w : World) (h : IntsAt w w.heap.size A l.length (l.map (fun s : Nat => (s : Int)))) :
    Calls Tryd.prog 77 #[.slice A l.length cap] w fun e w' => e = .returned (vi (setF l)) ∧ Below w.heap.size w w' := by
  have hll := h.few
  simp only [List.length_map] at hll
  have HX : Hid (∀ (k : Nat) (s : Nat), l[k]? = some s → s < 9 ∧ setF (l.take k) < 512 ∧ setF (l.take (k + 1)) = (setF (l.take k) ||| 2 ^ s)) := fun k s hs => by
    obtain ⟨hk, e⟩ := List.getElem?_eq_some_iff.1 hs
    refine ⟨hl s (List.mem_of_getElem? hs), setF_lt _ (fun x hx => hl x (List.mem_of_mem_take hx)), ?_⟩
    rw [List.take_succ_eq_append_getElem hk, setF_snoc, e]
  have HA : Hid (setF (l.take l.length) = setF l) := by unfold Hid; rw [List.take_length]
  have H0 : Hid (setF (l.take 0) = 0) := rfl
  have HH := Lib.hid h
  obtain ⟨R, hR⟩ : ∃ R, R = setF l := ⟨_, rfl⟩
  obtain ⟨S, hS⟩ : ∃ S, S = fun k => setF (l.take k) := ⟨_, rfl⟩
  have eS : ∀ k, setF (l.take k) = S k := fun k => by rw [hS]
  simp only [eS] at HX HA H0
  rw [← hR] at HA ⊢
  clear eS hS hR h hl
  go_enter Tryd.func77, Tryd.ntmps77
  go_wp2_with fail
  go_loopw [3, 5, 8] (fun x y i wr => ∃ k : Nat, k ≤ l.length ∧ i = .int .i64 k ∧ Below w.heap.size w wr ∧ x = vi (S k)) (fun _ _ i _ => l.length - (intOf i).toNat)
  case atStart => exact ⟨0, Nat.zero_le _, rfl, Below.refl _ _, by rw [H0.out]; rfl⟩
  obtain ⟨k, hk, rfl, hB, rfl⟩ := hrel
  have hz := hB.size
  by_cases hlt : k < l.length
  · obtain ⟨s, hs⟩ : ∃ s, l[k]? = some s := ⟨_, List.getElem?_eq_getElem hlt⟩
    obtain ⟨s9, sm, S1⟩ := HX.out k s hs
    obtain ⟨bb, off, rfl, hbb, x0⟩ := ints_at (HH.out.to hB) (k := k) (x := (s : Int)) (by rw [List.getElem?_map, hs]; rfl)
    have S1 := Lib.hid S1
    have hkI : (k : Int) < l.length := by omega
    have h0k : (0 : Int) ≤ k := by omega
    have WI := Lib.hid (setWith_any (S k) s sm s9)
    obtain ⟨sk, hsk⟩ : ∃ sk, sk = S k := ⟨_, rfl⟩
    rw [← hsk] at WI S1 sm ⊢
    clear hs hsk
    go_wp2_with fail
    refine (WI.out _).mono ?_
    rintro e W2 ⟨rfl, hb2⟩
    go_wp2_with fail
    go_roundw
    case rel => exact ⟨k + 1, by omega, by go_num, hB.trans (hb2.mono hz), by rw [S1.out]⟩
    case measure => simp [intOf]; omega
  · obtain rfl : k = l.length := by omega
    rw [HA.out]
    go_wp2_with fail
    go_ret
    exact ⟨rfl, hB⟩
end Go.Proofs.YtomgnpfpaodpiaaDoor

/- Contract of pieces.last. -/
namespace Go.Proofs.YtomgnpfpaodpiaaDoor
open Go Go.RowKit
set_option maxHeartbeats 2000000
theorem spread {p : List Int} (h : p.length = 12) : ∃ n0 n1 n2 n3 n4 n5 n6 n7 n8 n9 n10 n11, p = [n0, n1, n2, n3, n4, n5, n6, n7, n8, n9, n10, n11] := by
  match p, h with
  | [n0, n1, n2, n3, n4, n5, n6, n7, n8, n9, n10, n11], _ => exact ⟨n0, n1, n2, n3, n4, n5, n6, n7, n8, n9, n10, n11, rfl⟩
set_option maxRecDepth 100000 in
theorem idx12 {q : List Int} (h : q.length = 12) (k : Nat) (hk : k < 12) (w : World) : (Instr.index 102 (.agg (q.map vi).toArray) (.int .i64 k)).run Tryd.prog w = .ok (vi (q[k]?.getD 0)) w := by
  obtain ⟨n0, n1, n2, n3, n4, n5, n6, n7, n8, n9, n10, n11, rfl⟩ := spread h
  have hk : k = 0 ∨ k = 1 ∨ k = 2 ∨ k = 3 ∨ k = 4 ∨ k = 5 ∨ k = 6 ∨ k = 7 ∨ k = 8 ∨ k = 9 ∨ k = 10 ∨ k = 11 := by omega
  rcases hk with rfl | rfl | rfl | rfl | rfl | rfl | rfl | rfl | rfl | rfl | rfl | rfl <;> (show (_ : Result _) = _; kernel_rfl)
def lastI (o : Option Nat) : Int := match o with | some k => k | none => 0
theorem last_any (p : List Int) (hp : p.length = 12) (w : World) :
    Calls Tryd.prog 113 #[piecesV p] w fun e w' => e = .returned (.tuple #[vi (lastI (lastF p)), .bool (lastF p).isSome]) ∧ Below w.heap.size w w' := by
  have HS := Lib.hid (fun k => lastK_succ p k)
  have HA := Lib.hid (lastK_all hp)
  have HX : Hid (∀ k : Nat, k < 12 → ∃ n : Int, p[k]?.getD 0 = n ∧ ∀ w, (Instr.index 102 (.agg (p.map vi).toArray) (.int .i64 k)).run Tryd.prog w = .ok (vi n) w) := fun k hk => ⟨_, rfl, idx12 hp k hk⟩
  have E0 : Hid (lastK p 0 = none) := rfl
  obtain ⟨q, hq⟩ : ∃ q, q = p := ⟨_, rfl⟩
  obtain ⟨V, hV⟩ : ∃ V, V = (p.map vi).toArray := ⟨_, rfl⟩
  have HV := Lib.hid hV
  rw [← hV] at HX
  obtain ⟨n0, n1, n2, n3, n4, n5, n6, n7, n8, n9, n10, n11, rfl⟩ := spread hp
  rw [← hq] at HX HS HA E0 ⊢
  have HQ := Lib.hid hq
  clear hq hV
  show Calls Tryd.prog 113 #[piecesV q] w _
  rw [HQ.out]
  show Calls Tryd.prog 113 #[.agg #[vi n0, vi n1, vi n2, vi n3, vi n4, vi n5, vi n6, vi n7, vi n8, vi n9, vi n10, vi n11]] w _
  go_enter Tryd.func113, Tryd.ntmps113
  go_wp2_with fail
  have hfold : #[vi n0, vi n1, vi n2, vi n3, vi n4, vi n5, vi n6, vi n7, vi n8, vi n9, vi n10, vi n11] = V := by rw [HV.out]; rfl
  rw [hfold]
  clear hfold HV hp
  go_loopw [4, 5, 6, 7, 9] (fun a b x y i wr => ∃ k : Nat, k ≤ 12 ∧ i = .int .i64 k ∧ Below w.heap.size w wr ∧ (∃ o, a = vi (lastI o) ∧ b = .bool o.isSome ∧ Hid (lastK q k = o))) (fun _ _ _ _ i _ => 12 - (intOf i).toNat)
  case atStart => exact ⟨0, Nat.zero_le _, rfl, by (repeat (first | exact Below.refl _ _ | refine Below.setCell ?_ (by first | omega | (simp; omega) | (simp; done)) _ | refine Below.alloc ?_ (by first | omega | (simp; omega) | (simp; done)) _ | refine Below.drew ?_ | refine below_drewN ?_ _ | refine Below.trans ?_ (Below.mono (by assumption) (by first | omega | (simp; omega) | (simp; done))))), none, rfl, rfl, E0⟩
  obtain ⟨k, hk, rfl, hB, o, rfl, rfl, HO⟩ := hrel
  by_cases hlt : k < 12
  · obtain ⟨n, hn, hx⟩ := HX.out k hlt
    have hkI : (k : Int) < 12 := by omega
    have h0k : (0 : Int) ≤ k := by omega
    have S1 := HS.out k
    rw [hn, HO.out] at S1
    have S1 := Lib.hid S1
    clear hn
    go_wp2_with fail
    all_goals go_roundw
    case rel => exact ⟨k + 1, by omega, by go_num, hB, some k, rfl, rfl, by unfold Hid; rw [S1.out, if_pos (by omega)]⟩
    case measure => simp [intOf]; omega
    case rel => exact ⟨k + 1, by omega, by go_num, hB, o, rfl, rfl, by unfold Hid; rw [S1.out, if_neg (by omega)]⟩
    case measure => simp [intOf]; omega
  · obtain rfl : k = 12 := by omega
    have E : Hid (lastF q = o) := by unfold Hid; rw [← HA.out, HO.out]
    go_wp2_with fail
    go_ret2
    refine ⟨by rw [← HQ.out, E.out]; rfl, ?_⟩
    (repeat (first | exact Below.refl _ _ | refine Below.setCell ?_ (by first | omega | (simp; omega) | (simp; done)) _ | refine Below.alloc ?_ (by first | omega | (simp; omega) | (simp; done)) _ | refine Below.drew ?_ | refine below_drewN ?_ _ | refine Below.trans ?_ (Below.mono (by assumption) (by first | omega | (simp; omega) | (simp; done)))))
end Go.Proofs.YtomgnpfpaodpiaaDoor

/- Lists that a call makes. -/
namespace Go.Proofs.YtomgnpfpaodpiaaDoor
open Go Go.RowKit
theorem own_keep {w w' : World} {base : Nat} {e : TypeId} {sz n : Nat} {v : Value} {xs : List Value} (h : w.ownsRow base e sz v n xs) (hb : Below w.heap.size w w') : w'.ownsRow base e sz v n xs := by
  refine h.kept (row := none) ⟨hb.os, hb.tape, hb.output, hb.size, fun k hk _ => hb.block k hk⟩ ?_
  cases hv : v.ownBlock with
  | none => exact .inl rfl
  | some g => exact .inr (by simp)
theorem flat_at {sz : Nat} (rows : List (List Value)) : (∀ r ∈ rows, r.length = sz) → ∀ (i : Nat) (r : List Value), rows[i]? = some r → ∀ (j : Nat) (u : Value), j < sz → r[j]? = some u → rows.flatten[i * sz + j]? = some u := by
  induction rows with
  | nil => intro _ i r hr; simp at hr
  | cons a rows ih =>
    intro h i r hr j u hj hu
    have ha := h a (by simp)
    cases i with
    | zero =>
      simp only [List.getElem?_cons_zero, Option.some.injEq] at hr
      subst hr
      rw [List.flatten_cons, List.getElem?_append_left (by omega)]
      simpa using hu
    | succ i =>
      simp only [List.getElem?_cons_succ] at hr
      rw [List.flatten_cons, List.getElem?_append_right (by rw [ha, Nat.add_mul]; omega), ha]
      have := ih (fun r hr => h r (List.mem_cons_of_mem _ hr)) i r hr j u hj hu
      rwa [show (i + 1) * sz + j - sz = i * sz + j by rw [Nat.add_mul]; omega]
theorem row_of_own {w : World} {base : Nat} {e : TypeId} {sz : Nat} {m : List (List Value)} {g cap n : Nat} (hsz : ∀ r ∈ m, r.length = sz) (h : w.ownsRow base e sz (.slice (some ⟨g, 0, none⟩) n cap) n m.flatten) : RowAt w w.heap.size sz (some ⟨g, 0, none⟩) m := by
  refine fun _ => ⟨g, 0, rfl, (h.lt g rfl).2, fun i r hr j u hj hu => ?_⟩
  have hf := flat_at m hsz i r hr j u hj hu
  have hi := (List.getElem?_eq_some_iff.1 hf).1
  have h1 := h.1
  have := h.cellAt (i * sz + j) (by omega)
  rw [hf] at this
  simpa using this
theorem own_base {w : World} {base base' : Nat} {e : TypeId} {sz n : Nat} {v : Value} {xs : List Value} (h : w.ownsRow base e sz v n xs) (hb : base' ≤ base) : w.ownsRow base' e sz v n xs := by
  obtain ⟨h1, h2⟩ := h
  refine ⟨h1, h2.imp id ?_⟩
  rintro ⟨g, c, cur, e1, e2, e3⟩
  exact ⟨g, c, cur, e1, by omega, e3⟩
theorem own_form {w : World} {base : Nat} {e : TypeId} {sz n : Nat} {v : Value} {xs : List Value} (h : w.ownsRow base e sz v n xs) : ∃ A cap, v = .slice A n cap ∧ n ≤ cap ∧ cap ≤ maxLen := by
  rcases h.2 with ⟨rfl, rfl⟩ | ⟨g, cap, cur, rfl, _, _, h1, h2, _⟩
  · exact ⟨none, 0, rfl, by omega, by simp [maxLen]⟩
  · exact ⟨_, cap, rfl, h1, h2⟩
theorem cells_new (w : World) (xs : List Value) (t : TypeId) : ∀ j u, xs[j]? = some u → (w.alloc (.cells xs.toArray t)).cell? ((⟨w.heap.size, 0, none⟩ : Addr).add j) = some u := by
  intro j u hj
  have := World.alloc_heap_new w (.cells xs.toArray t)
  have e : (⟨w.heap.size, 0, none⟩ : Addr).add j = ⟨w.heap.size, j, none⟩ := by
    simp only [Addr.add]
    split <;> simp_all
  rw [e]
  unfold World.cell?
  dsimp only
  rw [this]
  simp [hj]
theorem flat_len {sz : Nat} : ∀ (m : List (List Value)), (∀ r ∈ m, r.length = sz) → m.flatten.length = m.length * sz
  | [], _ => by simp
  | r :: m, h => by
    rw [List.flatten_cons, List.length_append, h r (by simp), flat_len m (fun x hx => h x (List.mem_cons_of_mem _ hx)), List.length_cons, Nat.add_mul]
    omega
/-- a list that the call made itself, as it comes back: how it lies, and where -/
theorem own_rows {w : World} {base sz n : Nat} {e : TypeId} {v : Value} {m : List (List Value)} (hsz : ∀ r ∈ m, r.length = sz) (h : w.ownsRow base e sz v n m.flatten) (hn : m.length = n) (hf : n ≤ 35184372088832) :
    ∃ A c, v = .slice A n c ∧ n ≤ c ∧ c ≤ maxLen ∧ RowsAt w w.heap.size sz A n m := by
  obtain ⟨A, c, rfl, h1, h2⟩ := own_form h
  refine ⟨A, c, rfl, h1, h2, by omega, by omega, by omega, fun hl => ?_⟩
  rcases h.2 with ⟨e1, h0⟩ | ⟨g, cap, cur, e1, _⟩
  · omega
  · cases e1
    exact row_of_own hsz h hl
theorem info_line : (Tryd.prog.info? 64).map (fun i => (i.zero, i.size, i.bytes)) = some (some (.agg #[vi 0, vi 0]), 2, 16) := by kernel_rfl
theorem info_int : (Tryd.prog.info? 3).map (fun i => (i.zero, i.size, i.bytes)) = some (some (.int .i64 0), 1, 8) := by kernel_rfl
end Go.Proofs.YtomgnpfpaodpiaaDoor

/- Contract of set.members. -/
namespace Go.Proofs.YtomgnpfpaodpiaaDoor
open Go Go.RowKit
set_option maxHeartbeats 2000000
def membersK (m k : Nat) : List Nat := (List.range k).filter (fun s => m.testBit s)
def membersF (m : Nat) : List Nat := membersK m 9
abbrev natsC (l : List Nat) : List Int := l.map (fun s : Nat => (s : Int))
theorem membersK_succ (m k : Nat) : membersK m (k + 1) = membersK m k ++ (if m.testBit k then [k] else []) := by
  unfold membersK
  rw [List.range_succ, List.filter_append]
  by_cases h : m.testBit k <;> simp [h]
theorem membersK_le (m k : Nat) : (membersK m k).length ≤ k := by
  have := List.length_filter_le (fun s => m.testBit s) (List.range k)
  rw [List.length_range] at this
  exact this
theorem intC_one (l : List Int) : ∀ r ∈ l.map intC, r.length = 1 := fun r hr => by
  obtain ⟨p, _, rfl⟩ := List.mem_map.1 hr
  rfl
theorem intC_flat (l : List Int) : (l.map intC).flatten = l.map vi := by
  induction l with
  | nil => rfl
  | cons a l ih => simp [ih]
theorem setHas_is {m s : Nat} {b : Bool} (hb : m.testBit s = b) (hm : m < 512) (hs : s < 9) (w : World) :
    Calls Tryd.prog 96 #[vi m, vi s] w fun e w' => e = .returned (.bool b) ∧ Below w.heap.size w w' := by
  subst hb
  exact setHas_any m s hm hs w
theorem members_any (m : Nat) (hm : m < 512) (w : World) :
    Calls Tryd.prog 74 #[vi m] w fun e w' => ∃ A, e = .returned (.slice A (membersF m).length (membersF m).length) ∧ IntsAt w' w'.heap.size A (membersF m).length (natsC (membersF m)) ∧ (∀ b, A = some b → w.heap.size ≤ b.block ∧ b = ⟨b.block, 0, none⟩ ∧ ∃ cur, w'.heap[b.block]? = some (.cells cur 3 (0, 0)) ∧ cur.toList.take (membersF m).length = (natsC (membersF m)).map vi) ∧ Below w.heap.size w w' := by
  obtain ⟨i0, hi, hy0, hy1, hy2⟩ := info_parts info_int
  have HX : Hid (∀ k : Nat, k < 9 → ∃ b : Bool, m.testBit k = b ∧ membersK m (k + 1) = membersK m k ++ (if b then [k] else [])) := fun k hk => ⟨_, rfl, membersK_succ m k⟩
  have HL : Hid (∀ k, (membersK m k).length ≤ k) := membersK_le m
  have HA : Hid (membersK m 9 = membersF m) := rfl
  have E0 : Hid (membersK m 0 = []) := rfl
  obtain ⟨R, hR⟩ : ∃ R, R = membersF m := ⟨_, rfl⟩
  obtain ⟨S, hS⟩ : ∃ S, S = membersK m := ⟨_, rfl⟩
  rw [← hS] at HX HL HA E0
  rw [← hR] at HA ⊢
  clear hR hS
  go_enter Tryd.func74, Tryd.ntmps74
  go_wp2_with fail
  go_loopw [3, 4, 5] (fun v x i wr => ∃ k : Nat, k ≤ 9 ∧ i = .int .i64 k ∧ Below w.heap.size w wr ∧ wr.ownsRow w.heap.size 3 1 v (S k).length ((natsC (S k)).map vi)) (fun _ _ i _ => 9 - (intOf i).toNat)
  case atStart => exact ⟨0, Nat.zero_le _, rfl, Below.refl _ _, by rw [E0.out]; exact World.ownsRow_nil _ _ _ _⟩
  obtain ⟨k, hk, rfl, hB, hown⟩ := hrel
  have hlen := HL.out k
  have hz := hB.size
  by_cases hlt : k < 9
  · obtain ⟨b, hb, S1⟩ := HX.out k hlt
    have hkI : (k : Int) < 9 := by omega
    have h0k : (0 : Int) ≤ k := by omega
    have HI := Lib.hid (setHas_is hb hm hlt)
    have S1 := Lib.hid S1
    obtain ⟨L, hL⟩ : ∃ L, L = S k := ⟨_, rfl⟩
    rw [← hL] at hown hlen S1
    clear hL hb
    obtain ⟨A', c', rfl, h1, h2⟩ := own_form hown
    go_wp2_with fail
    refine (HI.out _).mono ?_
    rintro e W2 ⟨rfl, hb2⟩
    have HB2 : Below w.heap.size w W2 := hB.trans (hb2.mono hz)
    have hown2 := own_keep hown hb2
    have hz2 := HB2.size
    clear hb2 hown
    rcases b with _ | _
    · go_wp2_with fail
      go_roundw
      case rel =>
        refine ⟨k + 1, by omega, by go_num, HB2, ?_⟩
        rw [S1.out]
        simpa using hown2
      case measure => simp [intOf]; omega
    · go_wp2_with (at_builtin; go_loud (refine wpList_append_own _ rfl _ _ 22 rfl w.heap.size 3 i0 (.int .i64 0) 1 8 Tryd.underlying22 hi hy0 hy1 hy2 rfl (by decide) _ _ _ rfl (hown2.alloc _) ⟨W2.heap.size, 0, none⟩ 1 1 [vi k] rfl rfl (cell_one_new _ _ _) (by simp [Value.oneCell']) (by unfold maxLen; omega) (by omega) (by simp; omega) ?_; intro v5 w5 hown5 hgrow5 _))
      have HB5 : Below w.heap.size w w5 := Below.grown (HB2.alloc (by omega) _) hgrow5 (by simp; omega) (fun j e => (hown2.lt j e).1)
      obtain ⟨A5, c5, rfl, -, -⟩ := own_form hown5
      go_roundw
      case rel =>
        refine ⟨k + 1, by omega, by go_num, HB5, ?_⟩
        rw [S1.out]
        simpa using hown5
      case measure => simp [intOf]; omega
  · obtain rfl : k = 9 := by omega
    rw [HA.out] at hown hlen
    rw [← intC_flat] at hown
    obtain ⟨A', c', rfl, h1, h2, h3⟩ := own_rows (m := (natsC R).map intC) (intC_one _) hown (by simp) (by omega)
    go_wp2_with fail
    go_ret
    refine ⟨A', rfl, h3, fun b hb => ⟨(hown.lt b.block (by rw [hb]; rfl)).1, ?_⟩, hB⟩
    subst hb
    rcases hown.2 with ⟨e1, _⟩ | ⟨g, cap, cur, e1, _, e2, _, _, _, e3⟩
    · cases e1
    · cases e1
      refine ⟨rfl, cur, e2, ?_⟩
      rw [Nat.mul_one, intC_flat] at e3
      exact e3
end Go.Proofs.YtomgnpfpaodpiaaDoor

/- Contract of pieces.lines. -/
namespace Go.Proofs.YtomgnpfpaodpiaaDoor
open Go Go.RowKit
set_option maxHeartbeats 2000000
theorem linesFrom_snoc (n : Int) : ∀ (a : List Int) (j : Nat), linesFrom j (a ++ [n]) = linesFrom j a ++ (if 0 < n then [⟨((j + a.length : Nat) : Int), n⟩] else [])
  | [], j => by simp [linesFrom]
  | x :: a, j => by
    have ih := linesFrom_snoc n a (j + 1)
    simp only [List.cons_append, linesFrom]
    rw [ih, show j + 1 + a.length = j + (x :: a).length from by simp; omega]
    by_cases hx : 0 < x
    · simp [hx]
    · simp [hx]
def linesK (p : List Int) (k : Nat) : List SLine := linesOf (p.take k)
theorem linesK_succ {p : List Int} {k : Nat} (hk : k < p.length) : linesK p (k + 1) = linesK p k ++ (if 0 < p[k]?.getD 0 then [⟨(k : Int), p[k]?.getD 0⟩] else []) := by
  unfold linesK linesOf
  rw [List.take_succ_eq_append_getElem hk, linesFrom_snoc]
  simp [hk, Nat.min_eq_left (Nat.le_of_lt hk)]
theorem linesFrom_len : ∀ (a : List Int) (j : Nat), (linesFrom j a).length ≤ a.length
  | [], _ => by simp [linesFrom]
  | x :: a, j => by
    have := linesFrom_len a (j + 1)
    simp only [linesFrom]
    split <;> simp <;> omega
theorem linesK_le (p : List Int) (k : Nat) : (linesK p k).length ≤ k := by
  have := linesFrom_len (p.take k) 0
  rw [List.length_take] at this
  unfold linesK linesOf
  omega
theorem linesK_all {p : List Int} (h : p.length = 12) : linesK p 12 = linesOf p := by unfold linesK; rw [← h, List.take_length]
theorem cells_two (l : List SLine) : ∀ r ∈ l.map SLine.cells, r.length = 2 := fun r hr => by
  obtain ⟨p, _, rfl⟩ := List.mem_map.1 hr
  rfl
theorem pLines_any (p : List Int) (hp : p.length = 12) (w : World) :
    Calls Tryd.prog 64 #[piecesV p] w fun e w' => ∃ A, e = .returned (.slice A (linesOf p).length (linesOf p).length) ∧ RowsAt w' w'.heap.size 2 A (linesOf p).length ((linesOf p).map SLine.cells) ∧ (∀ b, A = some b → w.heap.size ≤ b.block ∧ ∃ cs, w'.heap[b.block]? = some (.cells cs 64 (0, 0))) ∧ Below w.heap.size w w' := by
  have HX : Hid (∀ k : Nat, k < 12 → ∃ n : Int, linesK p (k + 1) = linesK p k ++ (if 0 < n then [⟨(k : Int), n⟩] else []) ∧ ∀ w, (Instr.index 102 (.agg (p.map vi).toArray) (.int .i64 k)).run Tryd.prog w = .ok (vi n) w) := fun k hk => ⟨_, linesK_succ (by omega), idx12 hp k hk⟩
  have HA := Lib.hid (linesK_all hp)
  have E0 : Hid (linesK p 0 = []) := rfl
  have HL : Hid (∀ k, (linesK p k).length ≤ k) := linesK_le p
  obtain ⟨i0, hi, hy0, hy1, hy2⟩ := info_parts info_line
  obtain ⟨q, hq⟩ : ∃ q, q = p := ⟨_, rfl⟩
  obtain ⟨V, hV⟩ : ∃ V, V = (p.map vi).toArray := ⟨_, rfl⟩
  have HV := Lib.hid hV
  rw [← hV] at HX
  obtain ⟨n0, n1, n2, n3, n4, n5, n6, n7, n8, n9, n10, n11, rfl⟩ := spread hp
  rw [← hq] at HX HA E0 HL ⊢
  have HQ := Lib.hid hq
  obtain ⟨R, hR⟩ : ∃ R, R = linesOf q := ⟨_, rfl⟩
  rw [← hR] at HA ⊢
  clear hq hV hR
  show Calls Tryd.prog 64 #[piecesV q] w _
  rw [HQ.out]
  show Calls Tryd.prog 64 #[.agg #[vi n0, vi n1, vi n2, vi n3, vi n4, vi n5, vi n6, vi n7, vi n8, vi n9, vi n10, vi n11]] w _
  go_enter Tryd.func64, Tryd.ntmps64
  go_wp2_with fail
  have hfold : #[vi n0, vi n1, vi n2, vi n3, vi n4, vi n5, vi n6, vi n7, vi n8, vi n9, vi n10, vi n11] = V := by rw [HV.out]; rfl
  rw [hfold]
  clear hfold HV hp HQ
  go_loopw [3, 4, 5, 7] (fun v x y i wr => ∃ k : Nat, k ≤ 12 ∧ i = .int .i64 k ∧ Below w.heap.size w wr ∧ wr.ownsRow w.heap.size 64 2 v (linesK q k).length ((linesK q k).map SLine.cells).flatten) (fun _ _ _ i _ => 12 - (intOf i).toNat)
  case atStart => exact ⟨0, Nat.zero_le _, rfl, by (repeat (first | exact Below.refl _ _ | refine Below.setCell ?_ (by first | omega | (simp; omega) | (simp; done)) _ | refine Below.alloc ?_ (by first | omega | (simp; omega) | (simp; done)) _ | refine Below.drew ?_ | refine below_drewN ?_ _ | refine Below.trans ?_ (Below.mono (by assumption) (by first | omega | (simp; omega) | (simp; done))))), by rw [E0.out]; exact World.ownsRow_nil _ _ _ _⟩
  obtain ⟨k, hk, rfl, hB, hown⟩ := hrel
  have hlen := HL.out k
  by_cases hlt : k < 12
  · obtain ⟨n, S1, hx⟩ := HX.out k hlt
    have S1 := Lib.hid S1
    have hkI : (k : Int) < 12 := by omega
    have h0k : (0 : Int) ≤ k := by omega
    obtain ⟨L, hL⟩ : ∃ L, L = linesK q k := ⟨_, rfl⟩
    rw [← hL] at hown hlen S1
    have HLL := Lib.hid hL
    clear hL
    obtain ⟨A', c', rfl, h1, h2⟩ := own_form hown
    have hz := hB.size
    by_cases hn : 0 < n
    · go_wp2_with (at_builtin; go_loud (refine wpList_append_own _ rfl _ _ 50 rfl w.heap.size 64 i0 (.agg #[vi 0, vi 0]) 2 16 Tryd.underlying50 hi hy0 hy1 hy2 rfl (by decide) _ _ _ rfl (hown.alloc _) ⟨wr.heap.size, 0, none⟩ 1 1 [vi k, vi n] rfl rfl (cells_new _ _ _) (by simp [Value.oneCell']) (by unfold maxLen; omega) (by omega) (by simp; omega) ?_; intro v5 w5 hown5 hgrow5 _))
      have HB5 : Below w.heap.size w w5 := Below.grown (hB.alloc (by omega) _) hgrow5 (by simp; omega) (fun j e => (hown.lt j e).1)
      obtain ⟨A5, c5, rfl, -, -⟩ := own_form hown5
      go_roundw
      case rel =>
        refine ⟨k + 1, by omega, by go_num, HB5, ?_⟩
        rw [S1.out, if_pos hn]
        simpa [SLine.cells] using hown5
      case measure => simp [intOf]; omega
    · go_wp2_with fail
      go_roundw
      case rel =>
        refine ⟨k + 1, by omega, by go_num, hB, ?_⟩
        rw [S1.out, if_neg hn, List.append_nil]
        exact hown
      case measure => simp [intOf]; omega
  · obtain rfl : k = 12 := by omega
    rw [HA.out] at hown hlen
    obtain ⟨A', c', rfl, h1, h2, h3⟩ := own_rows (m := R.map SLine.cells) (cells_two _) hown (by simp) (by omega)
    go_wp2_with fail
    go_ret
    refine ⟨A', rfl, h3, fun b hb => ⟨(hown.lt b.block (by rw [hb]; rfl)).1, ?_⟩, hB⟩
    subst hb
    rcases hown.2 with ⟨e1, _⟩ | ⟨g, cap, cur, e1, _, e2, _⟩
    · cases e1
    · cases e1
      exact ⟨_, e2⟩
end Go.Proofs.YtomgnpfpaodpiaaDoor

/- Arrays of twelve numbers in memory; contract of pieces.without. -/
namespace Go.Proofs.YtomgnpfpaodpiaaDoor
open Go Go.RowKit
set_option maxHeartbeats 2000000
/-- an array of twelve numbers lies in a block, and can be written -/
structure ArrAt (w : World) (b : Nat) (p : List Int) : Prop where
  len : p.length = 12
  cell : ∀ j : Nat, j < 12 → w.cell? ⟨b, j, none⟩ = some (vi (p[j]?.getD 0))
  soft : ∀ j : Nat, j < 12 → w.frozen? ⟨b, j, none⟩ = false
theorem ArrAt.lt {w : World} {b : Nat} {p : List Int} (h : ArrAt w b p) : b < w.heap.size := cell_lt (h.cell 0 (by omega))
theorem ArrAt.keep {w w' : World} {b : Nat} {p : List Int} (h : ArrAt w b p) (hb : Below w.heap.size w w') : ArrAt w' b p :=
  ⟨h.len, fun j hj => cell_keep hb (h.cell j hj), fun j hj => soft_keep hb h.lt (h.soft j hj)⟩
theorem ArrAt.set {w : World} {b : Nat} {p : List Int} (h : ArrAt w b p) (k : Nat) (hk : k < 12) (n : Int) : ArrAt (w.setCell ⟨b, k, none⟩ (vi n)) b (p.set k n) := by
  refine ⟨by rw [List.length_set]; exact h.len, fun j hj => ?_, fun j hj => ?_⟩
  · have hl := h.len
    by_cases e : k = j
    · subst e
      have hc := h.cell k hk
      have hs := h.soft k hk
      simp [go_sem, hc, hs, hl, hk]
    · have hc := h.cell j hj
      simp [go_sem, hc, e, Ne.symm e]
  · have := h.soft j hj
    simp [go_sem, this]
theorem ArrAt.apart {w : World} {b b' k : Nat} {p : List Int} (h : ArrAt w b p) (hb : b' ≠ b) (v : Value) : ArrAt (w.setCell ⟨b', k, none⟩ v) b p := by
  refine ⟨h.len, fun j hj => ?_, fun j hj => ?_⟩
  · have hc := h.cell j hj
    simp [go_sem, hc, hb, Ne.symm hb]
  · have := h.soft j hj
    simp [go_sem, this]
theorem ArrAt.setAll {w : World} {b : Nat} {z : List Int} (h : ArrAt w b z) (r0 r1 r2 r3 r4 r5 r6 r7 r8 r9 r10 r11 : Int) : ArrAt ((((((((((((w.setCell ⟨b, 0, none⟩ (vi r0)).setCell ⟨b, 1, none⟩ (vi r1)).setCell ⟨b, 2, none⟩ (vi r2)).setCell ⟨b, 3, none⟩ (vi r3)).setCell ⟨b, 4, none⟩ (vi r4)).setCell ⟨b, 5, none⟩ (vi r5)).setCell ⟨b, 6, none⟩ (vi r6)).setCell ⟨b, 7, none⟩ (vi r7)).setCell ⟨b, 8, none⟩ (vi r8)).setCell ⟨b, 9, none⟩ (vi r9)).setCell ⟨b, 10, none⟩ (vi r10)).setCell ⟨b, 11, none⟩ (vi r11)) b [r0, r1, r2, r3, r4, r5, r6, r7, r8, r9, r10, r11] := by
  obtain ⟨z0, z1, z2, z3, z4, z5, z6, z7, z8, z9, z10, z11, rfl⟩ := spread h.len
  exact ((((((((((((h.set 0 (by omega) r0).set 1 (by omega) r1).set 2 (by omega) r2).set 3 (by omega) r3).set 4 (by omega) r4).set 5 (by omega) r5).set 6 (by omega) r6).set 7 (by omega) r7).set 8 (by omega) r8).set 9 (by omega) r9).set 10 (by omega) r10).set 11 (by omega) r11)
theorem ArrAt.setBoth {w a : World} {b B : Nat} {z : List Int} (h : ArrAt w b z) (hB : Below B a w) (hb : B ≤ b) (r0 r1 r2 r3 r4 r5 r6 r7 r8 r9 r10 r11 : Int) : ArrAt ((((((((((((w.setCell ⟨b, 0, none⟩ (vi r0)).setCell ⟨b, 1, none⟩ (vi r1)).setCell ⟨b, 2, none⟩ (vi r2)).setCell ⟨b, 3, none⟩ (vi r3)).setCell ⟨b, 4, none⟩ (vi r4)).setCell ⟨b, 5, none⟩ (vi r5)).setCell ⟨b, 6, none⟩ (vi r6)).setCell ⟨b, 7, none⟩ (vi r7)).setCell ⟨b, 8, none⟩ (vi r8)).setCell ⟨b, 9, none⟩ (vi r9)).setCell ⟨b, 10, none⟩ (vi r10)).setCell ⟨b, 11, none⟩ (vi r11)) b [r0, r1, r2, r3, r4, r5, r6, r7, r8, r9, r10, r11] ∧ Below B a ((((((((((((w.setCell ⟨b, 0, none⟩ (vi r0)).setCell ⟨b, 1, none⟩ (vi r1)).setCell ⟨b, 2, none⟩ (vi r2)).setCell ⟨b, 3, none⟩ (vi r3)).setCell ⟨b, 4, none⟩ (vi r4)).setCell ⟨b, 5, none⟩ (vi r5)).setCell ⟨b, 6, none⟩ (vi r6)).setCell ⟨b, 7, none⟩ (vi r7)).setCell ⟨b, 8, none⟩ (vi r8)).setCell ⟨b, 9, none⟩ (vi r9)).setCell ⟨b, 10, none⟩ (vi r10)).setCell ⟨b, 11, none⟩ (vi r11)) := ⟨h.setAll r0 r1 r2 r3 r4 r5 r6 r7 r8 r9 r10 r11, ((((((((((((hB.setCell hb _).setCell hb _).setCell hb _).setCell hb _).setCell hb _).setCell hb _).setCell hb _).setCell hb _).setCell hb _).setCell hb _).setCell hb _).setCell hb _)⟩
theorem ArrAt.cells {w : World} {b : Nat} {r0 r1 r2 r3 r4 r5 r6 r7 r8 r9 r10 r11 : Int} (h : ArrAt w b [r0, r1, r2, r3, r4, r5, r6, r7, r8, r9, r10, r11]) : w.cell? ⟨b, 0, none⟩ = some (vi r0) ∧ w.cell? ⟨b, 1, none⟩ = some (vi r1) ∧ w.cell? ⟨b, 2, none⟩ = some (vi r2) ∧ w.cell? ⟨b, 3, none⟩ = some (vi r3) ∧ w.cell? ⟨b, 4, none⟩ = some (vi r4) ∧ w.cell? ⟨b, 5, none⟩ = some (vi r5) ∧ w.cell? ⟨b, 6, none⟩ = some (vi r6) ∧ w.cell? ⟨b, 7, none⟩ = some (vi r7) ∧ w.cell? ⟨b, 8, none⟩ = some (vi r8) ∧ w.cell? ⟨b, 9, none⟩ = some (vi r9) ∧ w.cell? ⟨b, 10, none⟩ = some (vi r10) ∧ w.cell? ⟨b, 11, none⟩ = some (vi r11) := ⟨h.cell 0 (by omega), h.cell 1 (by omega), h.cell 2 (by omega), h.cell 3 (by omega), h.cell 4 (by omega), h.cell 5 (by omega), h.cell 6 (by omega), h.cell 7 (by omega), h.cell 8 (by omega), h.cell 9 (by omega), h.cell 10 (by omega), h.cell 11 (by omega)⟩
theorem ArrAt.softs {w : World} {b : Nat} {z : List Int} (h : ArrAt w b z) : w.frozen? ⟨b, 0, none⟩ = false ∧ w.frozen? ⟨b, 1, none⟩ = false ∧ w.frozen? ⟨b, 2, none⟩ = false ∧ w.frozen? ⟨b, 3, none⟩ = false ∧ w.frozen? ⟨b, 4, none⟩ = false ∧ w.frozen? ⟨b, 5, none⟩ = false ∧ w.frozen? ⟨b, 6, none⟩ = false ∧ w.frozen? ⟨b, 7, none⟩ = false ∧ w.frozen? ⟨b, 8, none⟩ = false ∧ w.frozen? ⟨b, 9, none⟩ = false ∧ w.frozen? ⟨b, 10, none⟩ = false ∧ w.frozen? ⟨b, 11, none⟩ = false := ⟨h.soft 0 (by omega), h.soft 1 (by omega), h.soft 2 (by omega), h.soft 3 (by omega), h.soft 4 (by omega), h.soft 5 (by omega), h.soft 6 (by omega), h.soft 7 (by omega), h.soft 8 (by omega), h.soft 9 (by omega), h.soft 10 (by omega), h.soft 11 (by omega)⟩
theorem arr_new {w : World} {b : Nat} {r0 r1 r2 r3 r4 r5 r6 r7 r8 r9 r10 r11 : Int} (h : w.cell? ⟨b, 0, none⟩ = some (vi r0) ∧ w.cell? ⟨b, 1, none⟩ = some (vi r1) ∧ w.cell? ⟨b, 2, none⟩ = some (vi r2) ∧ w.cell? ⟨b, 3, none⟩ = some (vi r3) ∧ w.cell? ⟨b, 4, none⟩ = some (vi r4) ∧ w.cell? ⟨b, 5, none⟩ = some (vi r5) ∧ w.cell? ⟨b, 6, none⟩ = some (vi r6) ∧ w.cell? ⟨b, 7, none⟩ = some (vi r7) ∧ w.cell? ⟨b, 8, none⟩ = some (vi r8) ∧ w.cell? ⟨b, 9, none⟩ = some (vi r9) ∧ w.cell? ⟨b, 10, none⟩ = some (vi r10) ∧ w.cell? ⟨b, 11, none⟩ = some (vi r11)) (s : w.frozen? ⟨b, 0, none⟩ = false ∧ w.frozen? ⟨b, 1, none⟩ = false ∧ w.frozen? ⟨b, 2, none⟩ = false ∧ w.frozen? ⟨b, 3, none⟩ = false ∧ w.frozen? ⟨b, 4, none⟩ = false ∧ w.frozen? ⟨b, 5, none⟩ = false ∧ w.frozen? ⟨b, 6, none⟩ = false ∧ w.frozen? ⟨b, 7, none⟩ = false ∧ w.frozen? ⟨b, 8, none⟩ = false ∧ w.frozen? ⟨b, 9, none⟩ = false ∧ w.frozen? ⟨b, 10, none⟩ = false ∧ w.frozen? ⟨b, 11, none⟩ = false) : ArrAt w b [r0, r1, r2, r3, r4, r5, r6, r7, r8, r9, r10, r11] := by
  refine ⟨rfl, fun j hj => ?_, fun j hj => ?_⟩
  all_goals
    have hk : j = 0 ∨ j = 1 ∨ j = 2 ∨ j = 3 ∨ j = 4 ∨ j = 5 ∨ j = 6 ∨ j = 7 ∨ j = 8 ∨ j = 9 ∨ j = 10 ∨ j = 11 := by omega
    rcases hk with rfl | rfl | rfl | rfl | rfl | rfl | rfl | rfl | rfl | rfl | rfl | rfl <;> simp [h, s]
end Go.Proofs.YtomgnpfpaodpiaaDoor

/- Contract of pieces.without. -/
namespace Go.Proofs.YtomgnpfpaodpiaaDoor
open Go Go.RowKit
set_option maxHeartbeats 2000000
def withoutK (p q : List Int) : Nat → List Int
  | 0 => p
  | k + 1 => (withoutK p q k).set k (p[k]?.getD 0 - q[k]?.getD 0)
theorem withoutK_len (p q : List Int) : ∀ k, (withoutK p q k).length = p.length
  | 0 => rfl
  | k + 1 => by rw [withoutK, List.length_set, withoutK_len p q k]
theorem withoutK_at (p q : List Int) : ∀ (k j : Nat), k ≤ j → (withoutK p q k)[j]? = p[j]?
  | 0, _, _ => rfl
  | k + 1, j, h => by rw [withoutK, List.getElem?_set_ne (by omega), withoutK_at p q k j (by omega)]
theorem withoutK_all {p q : List Int} (hp : p.length = 12) (hq : q.length = 12) : withoutK p q 12 = withoutF p q := by
  obtain ⟨n0, n1, n2, n3, n4, n5, n6, n7, n8, n9, n10, n11, rfl⟩ := spread hp
  obtain ⟨m0, m1, m2, m3, m4, m5, m6, m7, m8, m9, m10, m11, rfl⟩ := spread hq
  simp [withoutK, withoutF]
theorem without_any (p q : List Int) (hp : p.length = 12) (hq : q.length = 12) (hpb : ∀ n ∈ p, -1152921504606846976 ≤ n ∧ n ≤ 1152921504606846976) (hqb : ∀ n ∈ q, -1000000 ≤ n ∧ n ≤ 1000000) (w : World) :
    Calls Tryd.prog 88 #[piecesV p, piecesV q] w fun e w' => e = .returned (piecesV (withoutF p q)) ∧ Below w.heap.size w w' := by
  have HX : Hid (∀ k : Nat, k < 12 → ∃ m n : Int, (-1152921504606846976 ≤ m ∧ m ≤ 1152921504606846976) ∧ (-1000000 ≤ n ∧ n ≤ 1000000) ∧ withoutK p q (k + 1) = (withoutK p q k).set k (m - n) ∧ (withoutK p q k)[k]?.getD 0 = m ∧ ∀ w, (Instr.index 102 (.agg (q.map vi).toArray) (.int .i64 k)).run Tryd.prog w = .ok (vi n) w) := fun k hk => by
    have h1 : p[k]? = some p[k] := List.getElem?_eq_getElem (by omega)
    have h2 : q[k]? = some q[k] := List.getElem?_eq_getElem (by omega)
    refine ⟨p[k], q[k], hpb _ (List.getElem_mem _), hqb _ (List.getElem_mem _), by rw [withoutK, h1, h2]; rfl, by rw [withoutK_at p q k k (Nat.le_refl _), h1]; rfl, fun w => ?_⟩
    have := idx12 hq k hk w
    rwa [h2] at this
  have HA := Lib.hid (withoutK_all hp hq)
  have HP0 : Hid (withoutK p q 0 = p) := rfl
  obtain ⟨R, hR⟩ : ∃ R, R = withoutF p q := ⟨_, rfl⟩
  obtain ⟨S, hS⟩ : ∃ S, S = withoutK p q := ⟨_, rfl⟩
  obtain ⟨V, hV⟩ : ∃ V, V = (q.map vi).toArray := ⟨_, rfl⟩
  have HV := Lib.hid hV
  have HPL := Lib.hid hp
  rw [← hR] at HA ⊢
  rw [← hS] at HX HA HP0
  rw [← hV] at HX
  clear hR hS hV hpb hqb
  obtain ⟨m0, m1, m2, m3, m4, m5, m6, m7, m8, m9, m10, m11, rfl⟩ := spread hq
  obtain ⟨n0, n1, n2, n3, n4, n5, n6, n7, n8, n9, n10, n11, hpp⟩ := spread hp
  rw [hpp] at HPL HP0 ⊢
  clear hp hq hpp
  show Calls Tryd.prog 88 #[.agg #[vi n0, vi n1, vi n2, vi n3, vi n4, vi n5, vi n6, vi n7, vi n8, vi n9, vi n10, vi n11], .agg #[vi m0, vi m1, vi m2, vi m3, vi m4, vi m5, vi m6, vi m7, vi m8, vi m9, vi m10, vi m11]] w _
  go_enter Tryd.func88, Tryd.ntmps88
  go_wp2_with fail
  have hfold : #[vi m0, vi m1, vi m2, vi m3, vi m4, vi m5, vi m6, vi m7, vi m8, vi m9, vi m10, vi m11] = V := by rw [HV.out]; rfl
  rw [hfold]
  clear hfold HV
  go_loopw [5, 6, 8] (fun x y i wr => ∃ k : Nat, k ≤ 12 ∧ i = .int .i64 k ∧ Below w.heap.size w wr ∧ ArrAt wr w.heap.size (S k) ∧ ArrAt wr (w.heap.size + 2) [0, 0, 0, 0, 0, 0, 0, 0, 0, 0, 0, 0]) (fun _ _ i _ => 12 - (intOf i).toNat)
  case atStart =>
    refine ⟨0, Nat.zero_le _, rfl, by (repeat (first | exact Below.refl _ _ | refine Below.setCell ?_ (by first | omega | (simp; omega) | (simp; done)) _ | refine Below.alloc ?_ (by first | omega | (simp; omega) | (simp; done)) _ | refine Below.drew ?_ | refine below_drewN ?_ _ | refine Below.trans ?_ (Below.mono (by assumption) (by first | omega | (simp; omega) | (simp; done))))), ?_, ?_⟩
    · rw [HP0.out]
      refine ⟨rfl, fun j hj => ?_, fun j hj => ?_⟩
      all_goals
        have hk : j = 0 ∨ j = 1 ∨ j = 2 ∨ j = 3 ∨ j = 4 ∨ j = 5 ∨ j = 6 ∨ j = 7 ∨ j = 8 ∨ j = 9 ∨ j = 10 ∨ j = 11 := by omega
        rcases hk with rfl | rfl | rfl | rfl | rfl | rfl | rfl | rfl | rfl | rfl | rfl | rfl <;> simp [go_sem]
    · refine ⟨rfl, fun j hj => ?_, fun j hj => ?_⟩
      all_goals
        have hk : j = 0 ∨ j = 1 ∨ j = 2 ∨ j = 3 ∨ j = 4 ∨ j = 5 ∨ j = 6 ∨ j = 7 ∨ j = 8 ∨ j = 9 ∨ j = 10 ∨ j = 11 := by omega
        rcases hk with rfl | rfl | rfl | rfl | rfl | rfl | rfl | rfl | rfl | rfl | rfl | rfl <;> simp [go_sem]
  obtain ⟨k, hk, rfl, hB, hX, hY⟩ := hrel
  by_cases hlt : k < 12
  · obtain ⟨m, n, ⟨m1, m2⟩, ⟨n1, n2⟩, S1, S2, hx⟩ := HX.out k hlt
    have hkI : (k : Int) < 12 := by omega
    have h0k : (0 : Int) ≤ k := by omega
    have c0 := hX.cell k hlt
    rw [S2] at c0
    have f0 := hX.soft k hlt
    have S1 := Lib.hid S1
    have HXX := Lib.hid hX
    have HYY := Lib.hid hY
    have hz := hX.lt
    clear hX hY S2
    go_wp2_with fail
    go_roundw
    case rel =>
      refine ⟨k + 1, by omega, by go_num, by (repeat (first | exact Below.refl _ _ | refine Below.setCell ?_ (by first | omega | (simp; omega) | (simp; done)) _ | refine Below.alloc ?_ (by first | omega | (simp; omega) | (simp; done)) _ | refine Below.drew ?_ | refine below_drewN ?_ _ | refine Below.trans ?_ (Below.mono (by assumption) (by first | omega | (simp; omega) | (simp; done))))), ?_, HYY.out.apart (by omega) _⟩
      rw [S1.out]
      exact HXX.out.set k hlt _
    case measure => simp [intOf]; omega
  · obtain rfl : k = 12 := by omega
    rw [HA.out] at hX
    clear HX HA HP0 HPL
    obtain ⟨r0, r1, r2, r3, r4, r5, r6, r7, r8, r9, r10, r11, rfl⟩ := spread hX.len
    obtain ⟨c0, c1, c2, c3, c4, c5, c6, c7, c8, c9, c10, c11⟩ := hX.cells
    obtain ⟨d0, d1, d2, d3, d4, d5, d6, d7, d8, d9, d10, d11⟩ := hY.cells
    obtain ⟨e0, e1, e2, e3, e4, e5, e6, e7, e8, e9, e10, e11⟩ := hY.softs
    have HYY : Hid (ArrAt wr (w.heap.size + 1 + 1) [0, 0, 0, 0, 0, 0, 0, 0, 0, 0, 0, 0]) := hY
    clear hX hY
    go_wp2_with fail
    clear c0 c1 c2 c3 c4 c5 c6 c7 c8 c9 c10 c11 d0 d1 d2 d3 d4 d5 d6 d7 d8 d9 d10 d11 e0 e1 e2 e3 e4 e5 e6 e7 e8 e9 e10 e11
    refine (?key : ∀ W9 : World, ArrAt W9 (w.heap.size + 1 + 1) [r0, r1, r2, r3, r4, r5, r6, r7, r8, r9, r10, r11] ∧ Below w.heap.size w W9 → bodyPost _ _ _ _ _ W9) _ (HYY.out.setBoth hB (by omega) r0 r1 r2 r3 r4 r5 r6 r7 r8 r9 r10 r11)
    case key =>
      intro W9 ⟨Z, B9⟩
      obtain ⟨c0, c1, c2, c3, c4, c5, c6, c7, c8, c9, c10, c11⟩ := Z.cells
      refine bodyPost_ret (v := .agg #[vi r0, vi r1, vi r2, vi r3, vi r4, vi r5, vi r6, vi r7, vi r8, vi r9, vi r10, vi r11]) (by simp [results, Tryd.results88, go_sem, c0, c1, c2, c3, c4, c5, c6, c7, c8, c9, c10, c11]) rfl ⟨rfl, B9⟩
end Go.Proofs.YtomgnpfpaodpiaaDoor

/- Contract of piecesOf. -/
namespace Go.Proofs.YtomgnpfpaodpiaaDoor
open Go Go.RowKit
set_option maxHeartbeats 2000000
theorem ArrAt.drew {w : World} {b : Nat} {p : List Int} (h : ArrAt w b p) : ArrAt w.drew b p := ⟨h.len, fun j hj => by simpa [go_sem] using h.cell j hj, fun j hj => by simpa [go_sem] using h.soft j hj⟩
theorem ArrAt.alloc {w : World} {b : Nat} {p : List Int} (h : ArrAt w b p) (o : Obj) : ArrAt (w.alloc o) b p := h.keep ((Below.refl _ w).alloc (Nat.le_refl _) o)
/-- lines whose pieces can be counted -/
structure LinesOk (l : List SLine) : Prop where
  few : l.length ≤ 1000
  each : ∀ x ∈ l, 0 ≤ x.shelf ∧ x.shelf < 12 ∧ 0 ≤ x.many ∧ x.many ≤ 1000
def piecesK (l : List SLine) (k : Nat) : List Int := piecesF (l.take k)
theorem piecesK_succ {l : List SLine} {k : Nat} {x : SLine} (h : l[k]? = some x) : piecesK l (k + 1) = (piecesK l k).set x.shelf.toNat ((piecesK l k)[x.shelf.toNat]?.getD 0 + x.many) := by
  obtain ⟨hk, rfl⟩ := List.getElem?_eq_some_iff.1 h
  unfold piecesK piecesF
  rw [List.take_succ_eq_append_getElem hk, List.foldl_append]
  rfl
theorem piecesK_all (l : List SLine) : piecesK l l.length = piecesF l := by unfold piecesK; rw [List.take_length]
theorem piecesK_ok {l : List SLine} (h : LinesOk l) : ∀ k : Nat, k ≤ l.length → Twelve (1000 * (k : Int)) (piecesK l k)
  | 0, _ => by simpa [piecesK, piecesF] using twelve_zero
  | k + 1, hk => by
    have ih := piecesK_ok h k (by omega)
    have hx : l[k]? = some l[k] := List.getElem?_eq_getElem (by omega)
    obtain ⟨h1, h2, h3, h4⟩ := h.each _ (List.getElem_mem (by omega : k < l.length))
    obtain ⟨n, e, g1, g2⟩ := ih.at_ (k := l[k].shelf.toNat) (by omega)
    rw [piecesK_succ hx, e]
    refine (ih.wide (by omega)).set ?_ ?_ _
    · simp only [Option.getD_some]; omega
    · simp only [Option.getD_some]; omega
theorem piecesOf_any (A : Option Addr) (cap : Nat) (l : List SLine) (hok : LinesOk l) (w : World) (h : SLinesAt w w.heap.size A l.length l) :
    Calls Tryd.prog 86 #[.slice A l.length cap] w fun e w' => e = .returned (piecesV (piecesF l)) ∧ Below w.heap.size w w' := by
  have hll := h.lens
  have HH := Lib.hid h
  have HA := Lib.hid (piecesK_all l)
  have HP0 : Hid (piecesK l 0 = [0, 0, 0, 0, 0, 0, 0, 0, 0, 0, 0, 0]) := rfl
  have HX : Hid (∀ (k : Nat) (x : SLine), l[k]? = some x → ∃ (s : Nat) (n : Int), x.shelf = s ∧ s < 12 ∧ (piecesK l k)[s]?.getD 0 = n ∧ (0 ≤ n ∧ n ≤ 1000000) ∧ (0 ≤ x.many ∧ x.many ≤ 1000) ∧ piecesK l (k + 1) = (piecesK l k).set s (n + x.many)) := fun k x hx => by
    have hk := (List.getElem?_eq_some_iff.1 hx).1
    obtain ⟨h1, h2, h3, h4⟩ := hok.each x (List.mem_of_getElem? hx)
    have hf := hok.few
    have ih := piecesK_ok hok k (by omega)
    obtain ⟨n, e, g1, g2⟩ := ih.at_ (k := x.shelf.toNat) (by omega)
    have S := piecesK_succ hx
    rw [e] at S
    exact ⟨x.shelf.toNat, n, by omega, by omega, by rw [e]; rfl, ⟨g1, by omega⟩, ⟨h3, h4⟩, S⟩
  obtain ⟨R, hR⟩ : ∃ R, R = piecesF l := ⟨_, rfl⟩
  obtain ⟨S, hS⟩ : ∃ S, S = piecesK l := ⟨_, rfl⟩
  rw [← hR] at HA ⊢
  rw [← hS] at HX HA HP0
  clear hR hS h hok
  go_enter Tryd.func86, Tryd.ntmps86
  go_wp2_with fail
  go_loopw [5, 8] (fun x i wr => ∃ k : Nat, k ≤ l.length ∧ i = .int .i64 k ∧ Below w.heap.size w wr ∧ ArrAt wr (w.heap.size + 1) (S k) ∧ ArrAt wr w.heap.size [0, 0, 0, 0, 0, 0, 0, 0, 0, 0, 0, 0]) (fun _ i _ => l.length - (intOf i).toNat)
  case atStart =>
    refine ⟨0, Nat.zero_le _, rfl, by (repeat (first | exact Below.refl _ _ | refine Below.setCell ?_ (by first | omega | (simp; omega) | (simp; done)) _ | refine Below.alloc ?_ (by first | omega | (simp; omega) | (simp; done)) _ | refine Below.drew ?_ | refine below_drewN ?_ _ | refine Below.trans ?_ (Below.mono (by assumption) (by first | omega | (simp; omega) | (simp; done))))), ?_, ?_⟩
    · rw [HP0.out]
      exact arr_new (by simp [go_sem]) (by simp [go_sem])
    · exact arr_new (by simp [go_sem]) (by simp [go_sem])
  obtain ⟨k, hk, rfl, hB, hX, hY⟩ := hrel
  by_cases hlt : k < l.length
  · obtain ⟨x, hx⟩ : ∃ x, l[k]? = some x := ⟨_, List.getElem?_eq_getElem hlt⟩
    obtain ⟨s, n, hs, s12, hn, ⟨n1, n2⟩, ⟨m1, m2⟩, S1⟩ := HX.out k x hx
    obtain ⟨bb, off, rfl, hbb, x0, x1⟩ := row2 (HH.out.to hB).row hx rfl
    obtain ⟨xs, xm⟩ := x
    simp only at hs m1 m2 S1 x0 x1
    subst hs
    have hkI : (k : Int) < l.length := by omega
    have h0k : (0 : Int) ≤ k := by omega
    have hsI : (s : Int) < 12 := by omega
    have h0s : (0 : Int) ≤ s := by omega
    have c0 := hX.cell s s12
    rw [hn] at c0
    have f0 := hX.soft s s12
    have S1 := Lib.hid S1
    have HXX := Lib.hid hX
    have HYY := Lib.hid hY
    have hz := hX.lt
    have zbb : bb < wr.heap.size := cell_lt x0
    clear hX hY hn hx
    go_wp2_with fail
    have d1 : ¬ (wr.heap.size = w.heap.size + 1) := by omega
    have d2 : ¬ (w.heap.size + 1 = wr.heap.size) := by omega
    go_region_with fail
    all_goals go_wp2_with fail
    all_goals go_roundw
    all_goals first
      | (simp [intOf]; omega)
      | (refine ⟨k + 1, by omega, by go_num, by (repeat (first | exact Below.refl _ _ | refine Below.setCell ?_ (by first | omega | (simp; omega) | (simp; done)) _ | refine Below.alloc ?_ (by first | omega | (simp; omega) | (simp; done)) _ | refine Below.drew ?_ | refine below_drewN ?_ _ | refine Below.trans ?_ (Below.mono (by assumption) (by first | omega | (simp; omega) | (simp; done))))), ?_, ?_⟩
         · rw [S1.out]
           repeat (first | exact HXX.out.set s s12 _ | refine ArrAt.drew ?_ | refine ArrAt.alloc ?_ _)
         · repeat (first | exact HYY.out.apart (by omega) _ | refine ArrAt.drew ?_ | refine ArrAt.alloc ?_ _))
  · obtain rfl : k = l.length := by omega
    rw [HA.out] at hX
    clear HX HA HP0
    obtain ⟨r0, r1, r2, r3, r4, r5, r6, r7, r8, r9, r10, r11, rfl⟩ := spread hX.len
    obtain ⟨c0, c1, c2, c3, c4, c5, c6, c7, c8, c9, c10, c11⟩ := hX.cells
    obtain ⟨d0, d1, d2, d3, d4, d5, d6, d7, d8, d9, d10, d11⟩ := hY.cells
    obtain ⟨e0, e1, e2, e3, e4, e5, e6, e7, e8, e9, e10, e11⟩ := hY.softs
    have HYY := Lib.hid hY
    clear hX hY
    go_wp2_with fail
    clear c0 c1 c2 c3 c4 c5 c6 c7 c8 c9 c10 c11 d0 d1 d2 d3 d4 d5 d6 d7 d8 d9 d10 d11 e0 e1 e2 e3 e4 e5 e6 e7 e8 e9 e10 e11
    refine (?key : ∀ W9 : World, ArrAt W9 w.heap.size [r0, r1, r2, r3, r4, r5, r6, r7, r8, r9, r10, r11] ∧ Below w.heap.size w W9 → bodyPost _ _ _ _ _ W9) _ (HYY.out.setBoth hB (by omega) r0 r1 r2 r3 r4 r5 r6 r7 r8 r9 r10 r11)
    case key =>
      intro W9 ⟨Z, B9⟩
      obtain ⟨c0, c1, c2, c3, c4, c5, c6, c7, c8, c9, c10, c11⟩ := Z.cells
      refine bodyPost_ret (v := .agg #[vi r0, vi r1, vi r2, vi r3, vi r4, vi r5, vi r6, vi r7, vi r8, vi r9, vi r10, vi r11]) (by simp [results, Tryd.results86, go_sem, c0, c1, c2, c3, c4, c5, c6, c7, c8, c9, c10, c11]) rfl ⟨rfl, B9⟩
end Go.Proofs.YtomgnpfpaodpiaaDoor

/- Contract of floor.farthest. -/
namespace Go.Proofs.YtomgnpfpaodpiaaDoor
open Go Go.RowKit
set_option maxHeartbeats 2000000
theorem last_is {p : List Int} {o : Option Nat} (ho : lastF p = o) (hp : p.length = 12) (w : World) :
    Calls Tryd.prog 113 #[piecesV p] w fun e w' => e = .returned (.tuple #[vi (lastI o), .bool o.isSome]) ∧ Below w.heap.size w w' := by
  subst ho
  exact last_any p hp w
theorem move_cases {p : List Int} {m : Int} (hp : Twelve m p) (k : Nat) : lastF (movesF k p).1 = none ∨ ∃ (s : Nat) (n r : Int), lastF (movesF k p).1 = some s ∧ s < 12 ∧ (movesF k p).1[s]?.getD 0 = n ∧ (1 ≤ n ∧ n ≤ m) ∧ (movesF k p).2[s]?.getD 0 = r ∧ (0 ≤ r ∧ r ≤ k) ∧ (movesF (k + 1) p).1 = (movesF k p).1.set s (n - 1) ∧ (movesF (k + 1) p).2 = (movesF k p).2.set s (r + 1) := by
  obtain ⟨h1, h2, -⟩ := moves_ok hp k
  have h3 := lastF_is (movesF k p).1
  cases hl : lastF (movesF k p).1 with
  | none => exact .inl rfl
  | some s =>
    rw [hl] at h3
    obtain ⟨⟨n, e, hn⟩, -⟩ := h3
    have hs : s < 12 := by have := (List.getElem?_eq_some_iff.1 e).1; rw [h1.len] at this; exact this
    obtain ⟨n', e', g1, g2⟩ := h1.at_ hs
    obtain ⟨r, e2, g3, g4⟩ := h2.at_ hs
    rw [e] at e'
    cases e'
    refine .inr ⟨s, n, r, rfl, hs, by rw [e]; rfl, ⟨by omega, g2⟩, by rw [e2]; rfl, ⟨g3, g4⟩, ?_, ?_⟩
    · rw [movesF_succ]; unfold moveF; rw [hl]; simp [e]
    · rw [movesF_succ]; unfold moveF; rw [hl]; simp [e2]
theorem farthest_any (f : Floor) (c : Nat) (hc : f.carry = c) (hc1 : c ≤ 1000) (p : List Int) (hp : Twelve 1000000 p) (w : World) :
    Calls Tryd.prog 95 #[f.val, piecesV p] w fun e w' => e = .returned (piecesV (farthestF c p)) ∧ Below w.heap.size w w' := by
  have HX : Hid (∀ k, _) := fun k => move_cases hp k
  have HL : Hid (∀ k, ((movesF k p).1.length = 12)) := fun k => (moves_ok hp k).1.len
  have HEND : Hid (∀ k, k ≤ c → lastF (movesF k p).1 = none → (movesF k p).2 = farthestF c p) := fun k hk h => by
    have := moves_stop h (c - k)
    rw [show k + (c - k) = c by omega] at this
    rw [farthest_is, this]
  have HA : Hid ((movesF c p).2 = farthestF c p) := rfl
  have HP0 : Hid ((movesF 0 p).1 = p) := rfl
  have HQ0 : Hid ((movesF 0 p).2 = [0, 0, 0, 0, 0, 0, 0, 0, 0, 0, 0, 0]) := rfl
  have LAST := Lib.hid (fun (q : List Int) (o : Option Nat) (ho : lastF q = o) (hq : q.length = 12) (W : World) => last_is ho hq W)
  obtain ⟨R, hR⟩ : ∃ R, R = farthestF c p := ⟨_, rfl⟩
  obtain ⟨S, hS⟩ : ∃ S, S = fun k => (movesF k p).1 := ⟨_, rfl⟩
  obtain ⟨T, hT⟩ : ∃ T, T = fun k => (movesF k p).2 := ⟨_, rfl⟩
  have eS : ∀ k, (movesF k p).1 = S k := fun k => by rw [hS]
  have eT : ∀ k, (movesF k p).2 = T k := fun k => by rw [hT]
  simp only [eS, eT] at HX HL HEND HA HP0 HQ0
  rw [← hR] at HEND HA ⊢
  clear eS eT hS hT hR
  obtain ⟨n0, n1, n2, n3, n4, n5, n6, n7, n8, n9, n10, n11, hpp⟩ := spread hp.len
  rw [hpp] at HP0 ⊢
  clear hpp hp
  obtain ⟨fA, fC, ff, slo, shi, pA, pC, fp, fc, sA, sC, fs⟩ := f
  simp only at hc
  subst hc
  show Calls Tryd.prog 95 #[.agg #[.slice fA ff.length fC, vi slo, vi shi, .slice pA fp.length pC, vi c, .slice sA fs.length sC], .agg #[vi n0, vi n1, vi n2, vi n3, vi n4, vi n5, vi n6, vi n7, vi n8, vi n9, vi n10, vi n11]] w _
  go_enter Tryd.func95, Tryd.ntmps95
  go_wp2_with fail
  go_loopw [6, 7, 11] (fun x y i wr => ∃ k : Nat, k ≤ c ∧ i = .int .i64 k ∧ Below w.heap.size w wr ∧ ArrAt wr (w.heap.size + 1) (S k) ∧ ArrAt wr (w.heap.size + 3) (T k) ∧ ArrAt wr (w.heap.size + 2) [0, 0, 0, 0, 0, 0, 0, 0, 0, 0, 0, 0]) (fun _ _ i _ => c - (intOf i).toNat)
  case atStart =>
    refine ⟨0, Nat.zero_le _, rfl, by (repeat (first | exact Below.refl _ _ | refine Below.setCell ?_ (by first | omega | (simp; omega) | (simp; done)) _ | refine Below.alloc ?_ (by first | omega | (simp; omega) | (simp; done)) _ | refine Below.drew ?_ | refine below_drewN ?_ _ | refine Below.trans ?_ (Below.mono (by assumption) (by first | omega | (simp; omega) | (simp; done))))), ?_, ?_, ?_⟩
    · rw [HP0.out]
      exact arr_new (by simp [go_sem]) (by simp [go_sem])
    · rw [HQ0.out]
      exact arr_new (by simp [go_sem]) (by simp [go_sem])
    · exact arr_new (by simp [go_sem]) (by simp [go_sem])
  obtain ⟨k, hk, rfl, hB, hX, hY, hZ⟩ := hrel
  by_cases hlt : k < c
  · obtain ⟨m0, m1, m2, m3, m4, m5, m6, m7, m8, m9, m10, m11, hM⟩ := spread (HL.out k)
    have hX2 := hX
    rw [hM] at hX2
    obtain ⟨c0, c1, c2, c3, c4, c5, c6, c7, c8, c9, c10, c11⟩ := hX2.cells
    have hkI : (k : Int) < c := by omega
    have hz := hX.lt
    have HXX := Lib.hid hX
    have HYY := Lib.hid hY
    have HZZ := Lib.hid hZ
    rcases HX.out k with ho | ⟨s, n, r, ho, s12, hn, ⟨n1, n2⟩, hr, ⟨r1, r2⟩, S1, T1⟩
    · have hR := HEND.out k hk ho
      rw [hM] at ho
      have HO := Lib.hid ho
      have HRR := Lib.hid hR
      clear hX hY hZ hX2 hM ho hR
      go_wp2_with fail
      refine (LAST.out [m0, m1, m2, m3, m4, m5, m6, m7, m8, m9, m10, m11] _ HO.out rfl _).mono ?_
      rintro e W2 ⟨rfl, hb2⟩
      have HB2 : Below w.heap.size w W2 := hB.trans (hb2.mono hB.size)
      have hX := HXX.out.keep hb2
      have hY := HYY.out.keep hb2
      have hZ := HZZ.out.keep hb2
      rw [HRR.out] at hY
      clear hb2 c0 c1 c2 c3 c4 c5 c6 c7 c8 c9 c10 c11 HXX HYY HZZ HX HL HEND HA HP0 HQ0 HRR HO LAST
      obtain ⟨r0, r1, r2, r3, r4, r5, r6, r7, r8, r9, r10, r11, rfl⟩ := spread hY.len
      obtain ⟨c0, c1, c2, c3, c4, c5, c6, c7, c8, c9, c10, c11⟩ := hY.cells
      obtain ⟨d0, d1, d2, d3, d4, d5, d6, d7, d8, d9, d10, d11⟩ := hZ.cells
      obtain ⟨e0, e1, e2, e3, e4, e5, e6, e7, e8, e9, e10, e11⟩ := hZ.softs
      have HZZ : Hid (ArrAt W2 (w.heap.size + 1 + 1) [0, 0, 0, 0, 0, 0, 0, 0, 0, 0, 0, 0]) := hZ
      clear hX hY hZ
      go_wp2_with fail
      clear c0 c1 c2 c3 c4 c5 c6 c7 c8 c9 c10 c11 d0 d1 d2 d3 d4 d5 d6 d7 d8 d9 d10 d11 e0 e1 e2 e3 e4 e5 e6 e7 e8 e9 e10 e11
      refine (?key : ∀ W9 : World, ArrAt W9 (w.heap.size + 1 + 1) [r0, r1, r2, r3, r4, r5, r6, r7, r8, r9, r10, r11] ∧ Below w.heap.size w W9 → bodyPost _ _ _ _ _ W9) _ (HZZ.out.setBoth HB2 (by omega) r0 r1 r2 r3 r4 r5 r6 r7 r8 r9 r10 r11)
      case key =>
        intro W9 ⟨Z, B9⟩
        obtain ⟨c0, c1, c2, c3, c4, c5, c6, c7, c8, c9, c10, c11⟩ := Z.cells
        refine bodyPost_ret (v := .agg #[vi r0, vi r1, vi r2, vi r3, vi r4, vi r5, vi r6, vi r7, vi r8, vi r9, vi r10, vi r11]) (by simp [results, Tryd.results95, go_sem, c0, c1, c2, c3, c4, c5, c6, c7, c8, c9, c10, c11]) rfl ⟨rfl, B9⟩
    · rw [hM] at ho
      have HO := Lib.hid ho
      have S1 := Lib.hid S1
      have T1 := Lib.hid T1
      have hcS := hX.cell s s12
      have hcT := hY.cell s s12
      have hfS := hX.soft s s12
      have hfT := hY.soft s s12
      rw [hn] at hcS
      rw [hr] at hcT
      have hsI : (s : Int) < 12 := by omega
      have h0s : (0 : Int) ≤ s := by omega
      clear hX hY hZ hX2 hM ho hn hr HX HL HEND HA HP0 HQ0
      go_wp2_with fail
      refine (LAST.out [m0, m1, m2, m3, m4, m5, m6, m7, m8, m9, m10, m11] _ HO.out rfl _).mono ?_
      rintro e W2 ⟨rfl, hb2⟩
      have HB2 : Below w.heap.size w W2 := hB.trans (hb2.mono hB.size)
      have HXX2 := Lib.hid (HXX.out.keep hb2)
      have HYY2 := Lib.hid (HYY.out.keep hb2)
      have HZZ2 := Lib.hid (HZZ.out.keep hb2)
      have k1 := cell_keep hb2 hcS
      have k2 := cell_keep hb2 hcT
      have f1 := soft_keep hb2 (by omega) hfS
      have f2 := soft_keep hb2 (by have := HYY.out.lt; simpa using this) hfT
      have hz2 := HXX2.out.lt
      have hz3 := HYY2.out.lt
      clear hb2 c0 c1 c2 c3 c4 c5 c6 c7 c8 c9 c10 c11 hcS hcT hfS hfT HXX HYY HZZ LAST HO
      rw [show lastI (some s) = (s : Int) from rfl, show (some s).isSome = true from rfl]
      go_wp2_with fail
      go_roundw
      case rel =>
        refine ⟨k + 1, by omega, by go_num, by (repeat (first | exact Below.refl _ _ | refine Below.setCell ?_ (by first | omega | (simp; omega) | (simp; done)) _ | refine Below.alloc ?_ (by first | omega | (simp; omega) | (simp; done)) _ | refine Below.drew ?_ | refine below_drewN ?_ _ | refine Below.trans ?_ (Below.mono (by assumption) (by first | omega | (simp; omega) | (simp; done))))), ?_, ?_, (HZZ2.out.apart (by omega) _).apart (by omega) _⟩
        · rw [S1.out]
          exact (HXX2.out.set s s12 _).apart (by omega) _
        · rw [T1.out]
          exact (HYY2.out.apart (by omega) _).set s s12 _
      case measure => simp [intOf]; omega
  · obtain rfl : k = c := by omega
    rw [HA.out] at hY
    clear HX HL HEND HA HP0 HQ0 LAST
    obtain ⟨r0, r1, r2, r3, r4, r5, r6, r7, r8, r9, r10, r11, rfl⟩ := spread hY.len
    obtain ⟨c0, c1, c2, c3, c4, c5, c6, c7, c8, c9, c10, c11⟩ := hY.cells
    obtain ⟨d0, d1, d2, d3, d4, d5, d6, d7, d8, d9, d10, d11⟩ := hZ.cells
    obtain ⟨e0, e1, e2, e3, e4, e5, e6, e7, e8, e9, e10, e11⟩ := hZ.softs
    have HZZ : Hid (ArrAt wr (w.heap.size + 1 + 1) [0, 0, 0, 0, 0, 0, 0, 0, 0, 0, 0, 0]) := hZ
    clear hX hY hZ
    go_wp2_with fail
    clear c0 c1 c2 c3 c4 c5 c6 c7 c8 c9 c10 c11 d0 d1 d2 d3 d4 d5 d6 d7 d8 d9 d10 d11 e0 e1 e2 e3 e4 e5 e6 e7 e8 e9 e10 e11
    refine (?key : ∀ W9 : World, ArrAt W9 (w.heap.size + 1 + 1) [r0, r1, r2, r3, r4, r5, r6, r7, r8, r9, r10, r11] ∧ Below w.heap.size w W9 → bodyPost _ _ _ _ _ W9) _ (HZZ.out.setBoth hB (by omega) r0 r1 r2 r3 r4 r5 r6 r7 r8 r9 r10 r11)
    case key =>
      intro W9 ⟨Z, B9⟩
      obtain ⟨c0, c1, c2, c3, c4, c5, c6, c7, c8, c9, c10, c11⟩ := Z.cells
      refine bodyPost_ret (v := .agg #[vi r0, vi r1, vi r2, vi r3, vi r4, vi r5, vi r6, vi r7, vi r8, vi r9, vi r10, vi r11]) (by simp [results, Tryd.results95, go_sem, c0, c1, c2, c3, c4, c5, c6, c7, c8, c9, c10, c11]) rfl ⟨rfl, B9⟩
end Go.Proofs.YtomgnpfpaodpiaaDoor

/- Contract of floor.isTour. -/
namespace Go.Proofs.YtomgnpfpaodpiaaDoor
open Go Go.RowKit
set_option maxHeartbeats 2000000
theorem linesB_ok {n : Int} {l : List SLine} (h : linesB n l = true) : 1 ≤ l.length ∧ l.length ≤ 12 ∧ ∀ (k : Nat) (x : SLine), l[k]? = some x → 0 ≤ x.shelf ∧ x.shelf < n ∧ 1 ≤ x.many ∧ x.many ≤ 20 := by
  unfold linesB at h
  rw [Bool.and_eq_true, List.all_eq_true] at h
  obtain ⟨h1, h2⟩ := h
  simp only [hasB, Bool.and_eq_true, decide_eq_true_eq] at h1
  have good : ∀ (k : Nat) (x : SLine), l[k]? = some x → nextF l k ≤ x.shelf ∧ x.shelf < n ∧ 1 ≤ x.many ∧ x.many ≤ 20 := fun k x hx => by
    have hk := (List.getElem?_eq_some_iff.1 hx).1
    have := h2 k (List.mem_range.2 hk)
    rw [goodLine_of hx] at this
    simp only [hasB, Bool.and_eq_true, decide_eq_true_eq] at this
    omega
  have next : ∀ (k : Nat), k ≤ l.length → 0 ≤ nextF l k := by
    intro k
    induction k with
    | zero => intro _; simp [nextF]
    | succ k ih =>
      intro hk
      have hx : l[k]? = some l[k] := List.getElem?_eq_getElem (by omega)
      have := ih (by omega)
      have := (good k _ hx).1
      rw [nextF_succ hx]
      omega
  refine ⟨by omega, by omega, fun k x hx => ?_⟩
  have hk := (List.getElem?_eq_some_iff.1 hx).1
  have g := good k x hx
  have := next k (by omega)
  omega
def sumK (l : List SLine) (k : Nat) : Int := ((l.take k).map SLine.many).sum
theorem sumK_succ {l : List SLine} {k : Nat} {x : SLine} (h : l[k]? = some x) : sumK l (k + 1) = sumK l k + x.many := by
  obtain ⟨hk, rfl⟩ := List.getElem?_eq_some_iff.1 h
  unfold sumK
  rw [List.take_succ_eq_append_getElem hk, List.map_append, List.sum_append]
  simp
theorem sumK_range {l : List SLine} (h : ∀ (k : Nat) (x : SLine), l[k]? = some x → 1 ≤ x.many ∧ x.many ≤ 20) : ∀ k : Nat, k ≤ l.length → 0 ≤ sumK l k ∧ sumK l k ≤ 20 * k
  | 0, _ => by simp [sumK]
  | k + 1, hk => by
    have hx : l[k]? = some l[k] := List.getElem?_eq_getElem (by omega)
    have := sumK_range h k (by omega)
    have := h k _ hx
    rw [sumK_succ hx]
    omega
def togetherF (l : List SLine) : Int := (l.map SLine.many).sum
theorem sumK_all (l : List SLine) : sumK l l.length = togetherF l := by unfold sumK togetherF; rw [List.take_length]
def tourB (f : Floor) (l : List SLine) : Bool := linesB f.far.length l && decide (togetherF l ≤ f.carry)
theorem isTour_any (f : Floor) (A : Option Addr) (cap : Nat) (l : List SLine) (hf : f.far.length ≤ 35184372088832) (w : World) (hl : Lim w) (h : SLinesAt w w.heap.size A l.length l) :
    Calls Tryd.prog 87 #[f.val, .slice A l.length cap] w fun e w' => e = .returned (.bool (tourB f l)) ∧ Below w.heap.size w w' := by
  have hll := h.lens
  have HL := Lib.hid hl
  have HH := Lib.hid h
  obtain ⟨an, han⟩ : ∃ an, an = tourB f l := ⟨_, rfl⟩
  rcases hv : linesB f.far.length l with _ | _
  · have E : Hid (an = false) := by unfold Hid; rw [han]; simp [tourB, hv]
    have LI := Lib.hid (fun (W : World) hL hW => lines_is hv A cap hf W hL hW)
    rw [← han]
    clear han hv hl h
    obtain ⟨fA, fC, ff, slo, shi, pA, pC, fp, fc, sA, sC, fs⟩ := f
    show Calls Tryd.prog 87 #[.agg #[.slice fA ff.length fC, vi slo, vi shi, .slice pA fp.length pC, vi fc, .slice sA fs.length sC], .slice A l.length cap] w _
    go_enter Tryd.func87, Tryd.ntmps87
    go_wp2_with fail
    refine (LI.out _ (HL.out.next (by (repeat (first | exact Below.refl _ _ | refine Below.setCell ?_ (by first | omega | (simp; omega) | (simp; done)) _ | refine Below.alloc ?_ (by first | omega | (simp; omega) | (simp; done)) _ | refine Below.drew ?_ | refine below_drewN ?_ _ | refine Below.trans ?_ (Below.mono (by assumption) (by first | omega | (simp; omega) | (simp; done))))))) (HH.out.to (by (repeat (first | exact Below.refl _ _ | refine Below.setCell ?_ (by first | omega | (simp; omega) | (simp; done)) _ | refine Below.alloc ?_ (by first | omega | (simp; omega) | (simp; done)) _ | refine Below.drew ?_ | refine below_drewN ?_ _ | refine Below.trans ?_ (Below.mono (by assumption) (by first | omega | (simp; omega) | (simp; done)))))))).mono ?_
    rintro e W ⟨rfl, hb⟩
    have HB0 : Below w.heap.size w W := by (repeat (first | exact Below.refl _ _ | refine Below.setCell ?_ (by first | omega | (simp; omega) | (simp; done)) _ | refine Below.alloc ?_ (by first | omega | (simp; omega) | (simp; done)) _ | refine Below.drew ?_ | refine below_drewN ?_ _ | refine Below.trans ?_ (Below.mono (by assumption) (by first | omega | (simp; omega) | (simp; done)))))
    clear hb
    go_wp2_with fail
    go_ret
    exact ⟨retB E.out.symm, HB0⟩
  · have E : Hid (an = decide (togetherF l ≤ f.carry)) := by unfold Hid; rw [han]; simp [tourB, hv]
    have LI := Lib.hid (fun (W : World) hL hW => lines_is hv A cap hf W hL hW)
    obtain ⟨l1, l2, each⟩ := linesB_ok hv
    have HX : Hid (∀ (k : Nat) (x : SLine), l[k]? = some x → (1 ≤ x.many ∧ x.many ≤ 20) ∧ (0 ≤ sumK l k ∧ sumK l k ≤ 240) ∧ sumK l (k + 1) = sumK l k + x.many) := fun k x hx => by
      have hk := (List.getElem?_eq_some_iff.1 hx).1
      have := sumK_range (fun k x hx => (each k x hx).2.2) k (by omega)
      exact ⟨(each k x hx).2.2, by omega, sumK_succ hx⟩
    have HA := Lib.hid (sumK_all l)
    have H0 : Hid (sumK l 0 = 0) := by simp [sumK, Hid]
    obtain ⟨S, hS⟩ : ∃ S, S = sumK l := ⟨_, rfl⟩
    rw [← hS] at HX HA H0
    rw [← han]
    clear han hv hl h each hS
    obtain ⟨fA, fC, ff, slo, shi, pA, pC, fp, fc, sA, sC, fs⟩ := f
    simp only at E
    show Calls Tryd.prog 87 #[.agg #[.slice fA ff.length fC, vi slo, vi shi, .slice pA fp.length pC, vi fc, .slice sA fs.length sC], .slice A l.length cap] w _
    go_enter Tryd.func87, Tryd.ntmps87
    go_wp2_with fail
    refine (LI.out _ (HL.out.next (by (repeat (first | exact Below.refl _ _ | refine Below.setCell ?_ (by first | omega | (simp; omega) | (simp; done)) _ | refine Below.alloc ?_ (by first | omega | (simp; omega) | (simp; done)) _ | refine Below.drew ?_ | refine below_drewN ?_ _ | refine Below.trans ?_ (Below.mono (by assumption) (by first | omega | (simp; omega) | (simp; done))))))) (HH.out.to (by (repeat (first | exact Below.refl _ _ | refine Below.setCell ?_ (by first | omega | (simp; omega) | (simp; done)) _ | refine Below.alloc ?_ (by first | omega | (simp; omega) | (simp; done)) _ | refine Below.drew ?_ | refine below_drewN ?_ _ | refine Below.trans ?_ (Below.mono (by assumption) (by first | omega | (simp; omega) | (simp; done)))))))).mono ?_
    rintro e W ⟨rfl, hb⟩
    have HB0 : Below w.heap.size w W := by (repeat (first | exact Below.refl _ _ | refine Below.setCell ?_ (by first | omega | (simp; omega) | (simp; done)) _ | refine Below.alloc ?_ (by first | omega | (simp; omega) | (simp; done)) _ | refine Below.drew ?_ | refine below_drewN ?_ _ | refine Below.trans ?_ (Below.mono (by assumption) (by first | omega | (simp; omega) | (simp; done)))))
    have a4 : W.cell? ⟨w.heap.size, 4, none⟩ = some (vi fc) := cell_keep hb (by simp [go_sem])
    clear hb
    go_wp2_with fail
    go_loopw [5, 14] (fun x i wr => ∃ k : Nat, k ≤ l.length ∧ i = .int .i64 k ∧ Below W.heap.size W wr ∧ x = vi (S k)) (fun _ i _ => l.length - (intOf i).toNat)
    case atStart => exact ⟨0, Nat.zero_le _, rfl, Below.refl _ _, by rw [H0.out]⟩
    obtain ⟨k, hk, rfl, hB, rfl⟩ := hrel
    have HBr : Below w.heap.size w wr := HB0.trans (hB.mono HB0.size)
    have a4r := cell_keep hB a4
    have hz := hB.size
    by_cases hlt : k < l.length
    · obtain ⟨x, hx⟩ : ∃ x, l[k]? = some x := ⟨_, List.getElem?_eq_getElem hlt⟩
      obtain ⟨⟨m1, m2⟩, ⟨s1, s2⟩, S1⟩ := HX.out k x hx
      obtain ⟨bb, off, rfl, hbb, x0, x1⟩ := row2 (HH.out.to HBr).row hx rfl
      obtain ⟨xs, xm⟩ := x
      simp only at m1 m2 S1 x0 x1
      have S1 := Lib.hid S1
      have hkI : (k : Int) < l.length := by omega
      have h0k : (0 : Int) ≤ k := by omega
      obtain ⟨sk, hsk⟩ : ∃ sk, sk = S k := ⟨_, rfl⟩
      rw [← hsk] at s1 s2 S1 ⊢
      clear hx hsk
      go_wp2_with fail
      go_roundw
      case rel => exact ⟨k + 1, by omega, by go_num, hB.alloc hz _, by rw [S1.out]⟩
      case measure => simp [intOf]; omega
    · obtain rfl : k = l.length := by omega
      rw [HA.out] at *
      go_wp2_with fail
      go_ret
      exact ⟨retB E.out.symm, HBr⟩
end Go.Proofs.YtomgnpfpaodpiaaDoor

/- Contract of floor.areTours. -/
namespace Go.Proofs.YtomgnpfpaodpiaaDoor
open Go Go.RowKit
set_option maxHeartbeats 2000000
structure STour where
  ad : Option Addr
  cap : Nat
  lines : List SLine
abbrev STour.slice (t : STour) : Value := .slice t.ad t.lines.length t.cap
def STour.cells (t : STour) : List Value := [t.slice]
structure ToursAt (w : World) (B : Nat) (A : Option Addr) (cap : Nat) (ts : List STour) : Prop where
  rows : RowsAt w B 1 A cap (ts.map STour.cells)
  each : ∀ t ∈ ts, SLinesAt w B t.ad t.cap t.lines
theorem ToursAt.to {w w' : World} {A : Option Addr} {cap : Nat} {ts : List STour} (h : ToursAt w w.heap.size A cap ts) (hb : Below w.heap.size w w') : ToursAt w' w'.heap.size A cap ts := ⟨h.rows.to hb, fun t ht => (h.each t ht).to hb⟩
/-- the cell of the k-th element of a row of one -/
theorem row1 {w : World} {B : Nat} {A : Option Addr} {α : Type} {enc : α → List Value} {l : List α} (h : RowAt w B 1 A (l.map enc)) {k : Nat} {x : α} {c0 : Value} (hx : l[k]? = some x) (he : enc x = [c0]) :
    ∃ b off, A = some ⟨b, off, none⟩ ∧ b < B ∧ w.cell? ⟨b, off + k, none⟩ = some c0 := by
  have hk : k < l.length := (List.getElem?_eq_some_iff.1 hx).1
  obtain ⟨b, off, hA, hb, hc⟩ := h (by rw [List.length_map]; omega)
  have hr : (l.map enc)[k]? = some [c0] := by rw [List.getElem?_map, hx]; simp [he]
  exact ⟨b, off, hA, hb, by simpa using hc k _ hr 0 c0 (by omega) rfl⟩
def leftK (p : List Int) (ts : List STour) (k : Nat) : List Int := (ts.take k).foldl (fun p t => withoutF p (piecesF t.lines)) p
def toursB (f : Floor) (p : List Int) (ts : List STour) : Bool := ts.all (fun t => tourB f t.lines) && decide (leftK p ts ts.length = [0, 0, 0, 0, 0, 0, 0, 0, 0, 0, 0, 0])
theorem leftK_succ {p : List Int} {ts : List STour} {k : Nat} {t : STour} (h : ts[k]? = some t) : leftK p ts (k + 1) = withoutF (leftK p ts k) (piecesF t.lines) := by
  obtain ⟨hk, rfl⟩ := List.getElem?_eq_some_iff.1 h
  unfold leftK
  rw [List.take_succ_eq_append_getElem hk, List.foldl_append]
  rfl
theorem lines_good {n : Int} {l : List SLine} (hn : n ≤ 12) (h : linesB n l = true) : LinesOk l ∧ Twelve 12000 (piecesF l) := by
  obtain ⟨h1, h2, h3⟩ := linesB_ok h
  have ok : LinesOk l := ⟨by omega, fun x hx => by
    obtain ⟨k, hk, e⟩ := List.mem_iff_getElem.1 hx
    have := h3 k x (by rw [List.getElem?_eq_getElem hk, e])
    omega⟩
  have := piecesK_ok ok l.length (Nat.le_refl _)
  rw [piecesK_all] at this
  exact ⟨ok, this.wide (by omega)⟩
theorem withoutF_len {p q : List Int} (hp : p.length = 12) (hq : q.length = 12) : (withoutF p q).length = 12 := by
  unfold withoutF
  simp [hp, hq]
theorem withoutF_mem {p q : List Int} {n : Int} (h : n ∈ withoutF p q) : ∃ a ∈ p, ∃ b ∈ q, n = a - b := by
  unfold withoutF at h
  obtain ⟨⟨a, b⟩, h1, rfl⟩ := List.mem_map.1 h
  exact ⟨a, (List.of_mem_zip h1).1, b, (List.of_mem_zip h1).2, rfl⟩
theorem leftK_ok {p : List Int} {ts : List STour} (hp : Twelve 12000 p) : ∀ k : Nat, k ≤ ts.length → (∀ (j : Nat) (t : STour), j < k → ts[j]? = some t → Twelve 12000 (piecesF t.lines)) → (leftK p ts k).length = 12 ∧ ∀ n ∈ leftK p ts k, -(12000 * (k : Int)) ≤ n ∧ n ≤ 12000
  | 0, _, _ => ⟨hp.len, fun n hn => by have h1 := hp.pos n hn; have h2 := hp.top n hn; omega⟩
  | k + 1, hk, ht => by
    obtain ⟨i1, i2⟩ := leftK_ok hp k (by omega) (fun j t hj => ht j t (by omega))
    have hx : ts[k]? = some ts[k] := List.getElem?_eq_getElem (by omega)
    have hq := ht k _ (by omega) hx
    rw [leftK_succ hx]
    refine ⟨withoutF_len i1 hq.len, fun n hn => ?_⟩
    obtain ⟨a, ha, b, hb, rfl⟩ := withoutF_mem hn
    have h1 := i2 a ha
    have h2 := hq.pos b hb
    have h3 := hq.top b hb
    omega
theorem piecesOf_is {l : List SLine} {p : List Int} (hp : piecesF l = p) (hok : LinesOk l) (A : Option Addr) (cap : Nat) (w : World) (h : SLinesAt w w.heap.size A cap l) :
    Calls Tryd.prog 86 #[.slice A l.length cap] w fun e w' => e = .returned (piecesV p) ∧ Below w.heap.size w w' := by
  subst hp
  exact piecesOf_any A cap l hok w h.short
theorem tour_is {f : Floor} {l : List SLine} {b : Bool} (hb : tourB f l = b) (A : Option Addr) (cap : Nat) (hf : f.far.length ≤ 35184372088832) (w : World) (hl : Lim w) (h : SLinesAt w w.heap.size A cap l) :
    Calls Tryd.prog 87 #[f.val, .slice A l.length cap] w fun e w' => e = .returned (.bool b) ∧ Below w.heap.size w w' := by
  subst hb
  exact isTour_any f A cap l hf w hl h.short
theorem without_is {p q r : List Int} (hr : withoutF p q = r) (hp : p.length = 12) (hq : q.length = 12) (hpb : ∀ n ∈ p, -1152921504606846976 ≤ n ∧ n ≤ 1152921504606846976) (hqb : ∀ n ∈ q, -1000000 ≤ n ∧ n ≤ 1000000) (w : World) :
    Calls Tryd.prog 88 #[piecesV p, piecesV q] w fun e w' => e = .returned (piecesV r) ∧ Below w.heap.size w w' := by
  subst hr
  exact without_any p q hp hq hpb hqb w
end Go.Proofs.YtomgnpfpaodpiaaDoor

