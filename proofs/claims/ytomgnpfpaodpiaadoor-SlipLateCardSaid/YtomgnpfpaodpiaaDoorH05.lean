/- Contracts of isValid, Check, checkSlip. -/
import Derived.Test.YtomgnpfpaodpiaaDoorH04
set_option linter.unusedVariables false
set_option linter.unusedSimpArgs false
namespace Go.Proofs.YtomgnpfpaodpiaaDoor
open Go Go.RowKit
set_option maxHeartbeats 4000000
theorem shelves_is {f : Floor} {v : Bool} (hv : shelvesB f = v) (w : World) (hl : Lim w) (h : FloorAt w w.heap.size f) :
    Calls Tryd.prog 89 #[f.val] w fun e w' => e = .returned (.bool v) ∧ Below w.heap.size w w' := by
  subst hv
  exact areShelves_any f w hl h
theorem lines_is {f : Floor} {l : List SLine} {v : Bool} (hv : linesB f.far.length l = v) (A : Option Addr) (cap : Nat) (hf : f.far.length ≤ 35184372088832) (w : World) (hl : Lim w) (h : SLinesAt w w.heap.size A l.length l) :
    Calls Tryd.prog 91 #[f.val, .slice A l.length cap] w fun e w' => e = .returned (.bool v) ∧ Below w.heap.size w w' := by
  subst hv
  exact areLines_any f A cap l hf w hl h
theorem RowsAt.short {w : World} {B sz cap : Nat} {A : Option Addr} {α : Type} {enc : α → List Value} {l : List α} (h : RowsAt w B sz A cap (l.map enc)) : RowsAt w B sz A l.length (l.map enc) :=
  ⟨by rw [List.length_map]; exact Nat.le_refl _, by have := h.lens; omega, h.few, h.row⟩
theorem goodSlip_of {f : Floor} {k : Nat} {s : SSlip} (h : f.slips[k]? = some s) : goodSlip f k = (hasB 0 100000 s.till && linesB f.far.length s.lines) := by
  unfold goodSlip
  rw [h]
set_option maxRecDepth 100000 in
theorem isValid_any (f : Floor) (w : World) (hl : Lim w) (h : FloorAt w w.heap.size f) :
    Calls Tryd.prog 57 #[f.val] w fun e w' => e = .returned (.bool (validB f)) ∧ Below w.heap.size w w' := by
  have h1l := h.far.lens
  have h3l := h.slips.lens
  have c1 := h.far.cap
  have c3 := h.slips.cap
  have HL := Lib.hid hl
  have HF := Lib.hid h
  have SH := Lib.hid (fun (v : Bool) (hv : shelvesB f = v) (W : World) hL hW => shelves_is hv W hL hW)
  have LI := Lib.hid (fun (l : List SLine) (v : Bool) (hv : linesB f.far.length l = v) (A : Option Addr) (cap : Nat) (W : World) hL hW => lines_is hv A cap h1l.2 W hL hW)
  have GS : Hid (∀ (k : Nat) (s : SSlip), f.slips[k]? = some s → goodSlip f k = (hasB 0 100000 s.till && linesB f.far.length s.lines)) := fun k s a => goodSlip_of a
  have HVB : Hid (validB f = ((((shelvesB f && withinB 1 10 f.slo f.shi) && hasB 1 20 f.carry) && hasB 0 9 f.slips.length) && (List.range f.slips.length).all (goodSlip f))) := rfl
  obtain ⟨gs, hgs⟩ : ∃ gs, gs = goodSlip f := ⟨_, rfl⟩
  obtain ⟨an, han⟩ : ∃ an, an = validB f := ⟨_, rfl⟩
  obtain ⟨sh, hsh⟩ : ∃ sh, shelvesB f = sh := ⟨_, rfl⟩
  rw [← hgs] at GS HVB
  rw [← han, hsh] at HVB
  rw [← han]
  have HSH := Lib.hid hsh
  clear h hgs han hsh
  obtain ⟨fA, fC, ff, slo, shi, pA, pC, fp, fc, sA, sC, fs⟩ := f
  simp only at h1l h3l c1 c3 GS HVB LI
  show Calls Tryd.prog 57 #[.agg #[.slice fA ff.length fC, vi slo, vi shi, .slice pA fp.length pC, vi fc, .slice sA fs.length sC]] w fun e w' => e = .returned (.bool an) ∧ Below w.heap.size w w'
  rcases sh with _ | _
  · have E : Hid (an = false) := by unfold Hid; rw [HVB.out]; rfl
    go_enter Tryd.func57, Tryd.ntmps57
    go_wp2_with fail
    refine (SH.out _ HSH.out _ (HL.out.next (by (repeat (first | exact Below.refl _ _ | refine Below.setCell ?_ (by first | omega | (simp; omega) | (simp; done)) _ | refine Below.alloc ?_ (by first | omega | (simp; omega) | (simp; done)) _ | refine Below.drew ?_ | refine below_drewN ?_ _ | refine Below.trans ?_ (Below.mono (by assumption) (by first | omega | (simp; omega) | (simp; done))))))) (HF.out.to (by (repeat (first | exact Below.refl _ _ | refine Below.setCell ?_ (by first | omega | (simp; omega) | (simp; done)) _ | refine Below.alloc ?_ (by first | omega | (simp; omega) | (simp; done)) _ | refine Below.drew ?_ | refine below_drewN ?_ _ | refine Below.trans ?_ (Below.mono (by assumption) (by first | omega | (simp; omega) | (simp; done)))))))).mono ?_
    rintro e W ⟨rfl, hb⟩
    have HB0 : Below w.heap.size w W := by (repeat (first | exact Below.refl _ _ | refine Below.setCell ?_ (by first | omega | (simp; omega) | (simp; done)) _ | refine Below.alloc ?_ (by first | omega | (simp; omega) | (simp; done)) _ | refine Below.drew ?_ | refine below_drewN ?_ _ | refine Below.trans ?_ (Below.mono (by assumption) (by first | omega | (simp; omega) | (simp; done)))))
    clear hb
    go_wp2_with fail
    go_ret
    exact ⟨retB E.out.symm, HB0⟩
  obtain ⟨st, hst⟩ : ∃ st, withinB 1 10 slo shi = st := ⟨_, rfl⟩
  have HST := Lib.hid hst
  rw [hst] at HVB
  clear hst
  go_enter Tryd.func57, Tryd.ntmps57
  go_wp2_with fail
  refine (SH.out _ HSH.out _ (HL.out.next (by (repeat (first | exact Below.refl _ _ | refine Below.setCell ?_ (by first | omega | (simp; omega) | (simp; done)) _ | refine Below.alloc ?_ (by first | omega | (simp; omega) | (simp; done)) _ | refine Below.drew ?_ | refine below_drewN ?_ _ | refine Below.trans ?_ (Below.mono (by assumption) (by first | omega | (simp; omega) | (simp; done))))))) (HF.out.to (by (repeat (first | exact Below.refl _ _ | refine Below.setCell ?_ (by first | omega | (simp; omega) | (simp; done)) _ | refine Below.alloc ?_ (by first | omega | (simp; omega) | (simp; done)) _ | refine Below.drew ?_ | refine below_drewN ?_ _ | refine Below.trans ?_ (Below.mono (by assumption) (by first | omega | (simp; omega) | (simp; done)))))))).mono ?_
  rintro e W ⟨rfl, hb⟩
  have HB0 : Below w.heap.size w W := by (repeat (first | exact Below.refl _ _ | refine Below.setCell ?_ (by first | omega | (simp; omega) | (simp; done)) _ | refine Below.alloc ?_ (by first | omega | (simp; omega) | (simp; done)) _ | refine Below.drew ?_ | refine below_drewN ?_ _ | refine Below.trans ?_ (Below.mono (by assumption) (by first | omega | (simp; omega) | (simp; done)))))
  have a0 : W.cell? ⟨w.heap.size, 0, none⟩ = some (.slice fA ff.length fC) := cell_keep hb (by simp [go_sem])
  have a1 : W.cell? ⟨w.heap.size, 1, none⟩ = some (vi slo) := cell_keep hb (by simp [go_sem])
  have a2 : W.cell? ⟨w.heap.size, 2, none⟩ = some (vi shi) := cell_keep hb (by simp [go_sem])
  have a3 : W.cell? ⟨w.heap.size, 3, none⟩ = some (.slice pA fp.length pC) := cell_keep hb (by simp [go_sem])
  have a4 : W.cell? ⟨w.heap.size, 4, none⟩ = some (vi fc) := cell_keep hb (by simp [go_sem])
  have a5 : W.cell? ⟨w.heap.size, 5, none⟩ = some (.slice sA fs.length sC) := cell_keep hb (by simp [go_sem])
  have za := cell_lt a0
  have hLW : Lim W := HL.out.next HB0
  obtain ⟨r0, r1⟩ := hLW.row 2 (by omega) (a := 1) (b := 10) (by decide) (by decide)
  have hp := hLW.pos
  clear hb hLW
  go_wp2_with fail
  refine (within_is HST.out _).mono ?_
  rintro e W1 ⟨rfl, hb1⟩
  have HB1 : Below w.heap.size w W1 := HB0.trans (hb1.mono HB0.size)
  rcases st with _ | _
  · have E : Hid (an = false) := by unfold Hid; rw [HVB.out]; simp
    clear hb1
    go_wp2_with fail
    go_ret
    exact ⟨retB E.out.symm, HB1⟩
  have a01 := cell_keep hb1 a0
  have a11 := cell_keep hb1 a1
  have a21 := cell_keep hb1 a2
  have a31 := cell_keep hb1 a3
  have a41 := cell_keep hb1 a4
  have a51 := cell_keep hb1 a5
  have za1 : w.heap.size < W1.heap.size := cell_lt a01
  have hLW1 : Lim W1 := HL.out.next HB1
  obtain ⟨s0, s1⟩ := hLW1.row 4 (by omega) (a := 1) (b := 20) (by decide) (by decide)
  have hp1 := hLW1.pos
  obtain ⟨ct, hct⟩ : ∃ ct, hasB 1 20 fc = ct := ⟨_, rfl⟩
  have HCT := Lib.hid hct
  rw [hct] at HVB
  clear hct hb1 a0 a1 a2 a3 a4 a5 r0 r1 hp za hLW1
  go_wp2_with fail
  refine (has_is HCT.out _).mono ?_
  rintro e W2 ⟨rfl, hb2⟩
  have HB2 : Below w.heap.size w W2 := HB1.trans (hb2.mono HB1.size)
  rcases ct with _ | _
  · have E : Hid (an = false) := by unfold Hid; rw [HVB.out]; simp
    clear hb2
    go_wp2_with fail
    go_ret
    exact ⟨retB E.out.symm, HB2⟩
  have a02 := cell_keep hb2 a01
  have a12 := cell_keep hb2 a11
  have a22 := cell_keep hb2 a21
  have a32 := cell_keep hb2 a31
  have a42 := cell_keep hb2 a41
  have a52 := cell_keep hb2 a51
  have za2 : w.heap.size < W2.heap.size := cell_lt a02
  have hLW2 : Lim W2 := HL.out.next HB2
  obtain ⟨t0, t1⟩ := hLW2.row 5 (by omega) (a := 0) (b := 9) (by decide) (by decide)
  have hp2 := hLW2.pos
  obtain ⟨nt, hnt⟩ : ∃ nt, hasB 0 9 (fs.length : Int) = nt := ⟨_, rfl⟩
  have HNT := Lib.hid hnt
  rw [hnt] at HVB
  clear hnt hb2 a01 a11 a21 a31 a41 a51 s0 s1 hp1 za1 hLW2
  go_wp2_with fail
  refine (has_is HNT.out _).mono ?_
  rintro e W3 ⟨rfl, hb3⟩
  have HB3 : Below w.heap.size w W3 := HB2.trans (hb3.mono HB2.size)
  rcases nt with _ | _
  · have E : Hid (an = false) := by unfold Hid; rw [HVB.out]; simp
    clear hb3
    go_wp2_with fail
    go_ret
    exact ⟨retB E.out.symm, HB3⟩
  have FIN : Hid ((∀ k, k < fs.length → gs k = true) → an = true) := fun ha => by rw [HVB.out]; exact all_yes (by simp) ha
  have BAD : Hid (∀ k, k < fs.length → gs k = false → an = false) := fun k hk hg => by rw [HVB.out]; exact all_no hk hg
  have a03 := cell_keep hb3 a02
  have a13 := cell_keep hb3 a12
  have a23 := cell_keep hb3 a22
  have a33 := cell_keep hb3 a32
  have a43 := cell_keep hb3 a42
  have a53 := cell_keep hb3 a52
  have za3 : w.heap.size < W3.heap.size := cell_lt a03
  clear hb3 a02 a12 a22 a32 a42 a52 t0 t1 hp2 za2 HVB
  go_wp2_with fail
  go_loopw [38] (fun i wr => ∃ k : Nat, k ≤ fs.length ∧ i = .int .i64 k ∧ Below W3.heap.size W3 wr ∧ Hid (∀ j, j < k → gs j = true)) (fun i _ => fs.length - (intOf i).toNat)
  case atStart => exact ⟨0, Nat.zero_le _, rfl, Below.refl _ _, fun j hj => absurd hj (by omega)⟩
  clear za3
  obtain ⟨k, hk, rfl, hB, HA⟩ := hrel
  have HBr : Below w.heap.size w wr := HB3.trans (hB.mono HB3.size)
  have hLr : Lim wr := HL.out.next HBr
  obtain ⟨r0, r1⟩ := hLr.row 6 (by omega) (a := 0) (b := 100000) (by decide) (by decide)
  have hp := hLr.pos
  by_cases hlt : k < fs.length
  · obtain ⟨s, hs⟩ : ∃ s, fs[k]? = some s := ⟨_, List.getElem?_eq_getElem hlt⟩
    have hFr := HF.out.to HBr
    obtain ⟨bb, off, rfl, hbb, x0, x1⟩ := row2 hFr.slips.row hs rfl
    have G := Lib.hid (GS.out k s hs)
    have hsl : SLinesAt wr wr.heap.size s.ad s.cap s.lines := hFr.each s (List.mem_of_getElem? hs)
    have hkI : (k : Int) < fs.length := by omega
    have h0k : (0 : Int) ≤ k := by omega
    have zbb : bb < wr.heap.size := cell_lt x0
    have a0r := cell_keep hB a03
    have a1r := cell_keep hB a13
    have a2r := cell_keep hB a23
    have a3r := cell_keep hB a33
    have a4r := cell_keep hB a43
    have a5r := cell_keep hB a53
    have za : w.heap.size < wr.heap.size := cell_lt a0r
    clear hs hFr
    obtain ⟨lA, lC, ll, till⟩ := s
    simp only at G hsl
    replace x0 : wr.cell? ⟨bb, off + k * 2, none⟩ = some (.slice lA ll.length lC) := x0
    replace x1 : wr.cell? ⟨bb, off + k * 2 + 1, none⟩ = some (vi till) := x1
    have HSL := Lib.hid hsl.short
    clear hsl
    rcases g1 : hasB 0 100000 till with _ | _
    · have E : Hid (an = false) := BAD.out k hlt (by rw [G.out, g1]; rfl)
      have G1 := Lib.hid g1
      clear g1
      go_wp2_with (go_at_call 73; refine (has_is G1.out _).mono ?_; rintro e w1 ⟨rfl, hb1⟩; obtain ⟨⟨hc1, hf1, hs1⟩, hz1⟩ := after hb1; (try simp only [World.size_alloc, World.size_setCell, World.size_drew] at hz1))
      go_ret
      refine ⟨retB E.out.symm, ?_⟩
      (repeat (first | exact Below.refl _ _ | refine Below.setCell ?_ (by first | omega | (simp; omega) | (simp; done)) _ | refine Below.alloc ?_ (by first | omega | (simp; omega) | (simp; done)) _ | refine Below.drew ?_ | refine below_drewN ?_ _ | refine Below.trans ?_ (Below.mono (by assumption) (by first | omega | (simp; omega) | (simp; done)))))
    · have G1 := Lib.hid g1
      obtain ⟨lv, hlv⟩ : ∃ lv, linesB ff.length ll = lv := ⟨_, rfl⟩
      have HLV := Lib.hid hlv
      have EV : Hid (gs k = lv) := by unfold Hid; rw [G.out, g1, hlv]; rfl
      clear g1 hlv
      go_wp2_with fail
      refine (has_is G1.out _).mono ?_
      rintro e W4 ⟨rfl, hb4⟩
      have HB4 : Below wr.heap.size wr W4 := by (repeat (first | exact Below.refl _ _ | refine Below.setCell ?_ (by first | omega | (simp; omega) | (simp; done)) _ | refine Below.alloc ?_ (by first | omega | (simp; omega) | (simp; done)) _ | refine Below.drew ?_ | refine below_drewN ?_ _ | refine Below.trans ?_ (Below.mono (by assumption) (by first | omega | (simp; omega) | (simp; done)))))
      have p0 : W4.cell? ⟨wr.heap.size, 0, none⟩ = some (.slice lA ll.length lC) := cell_keep hb4 (by simp [go_sem])
      have p1 : W4.cell? ⟨wr.heap.size, 1, none⟩ = some (vi till) := cell_keep hb4 (by simp [go_sem])
      have a04 := cell_keep HB4 a0r
      have a14 := cell_keep HB4 a1r
      have a24 := cell_keep HB4 a2r
      have a34 := cell_keep HB4 a3r
      have a44 := cell_keep HB4 a4r
      have a54 := cell_keep HB4 a5r
      have zp := cell_lt p0
      have za4 : w.heap.size < W4.heap.size := cell_lt a04
      have HBW4 : Below w.heap.size w W4 := HBr.trans (HB4.mono HBr.size)
      clear hb4 a0r a1r a2r a3r a4r a5r x0 x1 r0 r1 hp hLr
      go_wp2_with fail
      refine (LI.out _ _ HLV.out lA lC _ (HL.out.next HBW4) (HSL.out.to HB4)).mono ?_
      rintro e W5 ⟨rfl, hb5⟩
      rcases lv with _ | _
      · have E : Hid (an = false) := BAD.out k hlt EV.out
        go_wp2_with fail
        go_ret
        exact ⟨retB E.out.symm, HBW4.trans (hb5.mono HBW4.size)⟩
      · have HA2 : Hid (∀ j, j < k + 1 → gs j = true) := upto_succ HA.out EV.out
        go_wp2_with fail
        go_roundw
        case rel => exact ⟨k + 1, by omega, by go_num, gr_trans hB (gr_trans HB4 hb5), HA2.out⟩
        case measure => simp [intOf]; omega
  · obtain rfl : k = fs.length := by omega
    have E : Hid (an = true) := FIN.out HA.out
    go_wp2_with fail
    go_ret
    exact ⟨retB E.out.symm, HBr⟩
end Go.Proofs.YtomgnpfpaodpiaaDoor

/- Contracts of Check and checkSlip. -/
namespace Go.Proofs.YtomgnpfpaodpiaaDoor
open Go Go.RowKit
set_option maxHeartbeats 2000000
def checkV (f : Floor) : Int := if validB f then 0 else 30
def checkSlipV (f : Floor) (n : Int) : Int := if validB f then (if slipB f n then 0 else 31) else 30
theorem valid_is {f : Floor} {b : Bool} (hv : validB f = b) (w : World) (hl : Lim w) (h : FloorAt w w.heap.size f) :
    Calls Tryd.prog 57 #[f.val] w fun e w' => e = .returned (.bool b) ∧ Below w.heap.size w w' := by
  have := isValid_any f w hl h
  rwa [hv] at this
theorem slip_is {f : Floor} {n : Int} {b : Bool} (hv : slipB f n = b) (w : World) (hl : f.slips.length ≤ 35184372088832) :
    Calls Tryd.prog 85 #[f.val, vi n] w fun e w' => e = .returned (.bool b) ∧ Below w.heap.size w w' := by
  have := hasSlip_any f n w hl
  rwa [hv] at this
theorem Check_any (f : Floor) (w : World) (hl : Lim w) (h : FloorAt w w.heap.size f) :
    Calls Tryd.prog 16 #[f.val] w fun e w' => e = .returned (vi (checkV f)) ∧ Below w.heap.size w w' := by
  rcases hv : validB f with _ | _
  · have E : Hid (checkV f = 30) := by unfold Hid checkV; simp [hv]
    have VA := Lib.hid (fun (W : World) hL hW => valid_is hv W hL hW)
    have HL := Lib.hid hl
    have HF := Lib.hid h
    obtain ⟨an, han⟩ : ∃ an, an = checkV f := ⟨_, rfl⟩
    rw [← han] at E ⊢
    clear h hl hv han
    obtain ⟨fA, fC, ff, slo, shi, pA, pC, fp, fc, sA, sC, fs⟩ := f
    show Calls Tryd.prog 16 #[.agg #[.slice fA ff.length fC, vi slo, vi shi, .slice pA fp.length pC, vi fc, .slice sA fs.length sC]] w _
    go_enter Tryd.func16, Tryd.ntmps16
    go_wp2_with fail
    refine (VA.out _ (HL.out.next (by (repeat (first | exact Below.refl _ _ | refine Below.setCell ?_ (by first | omega | (simp; omega) | (simp; done)) _ | refine Below.alloc ?_ (by first | omega | (simp; omega) | (simp; done)) _ | refine Below.drew ?_ | refine below_drewN ?_ _ | refine Below.trans ?_ (Below.mono (by assumption) (by first | omega | (simp; omega) | (simp; done))))))) (HF.out.to (by (repeat (first | exact Below.refl _ _ | refine Below.setCell ?_ (by first | omega | (simp; omega) | (simp; done)) _ | refine Below.alloc ?_ (by first | omega | (simp; omega) | (simp; done)) _ | refine Below.drew ?_ | refine below_drewN ?_ _ | refine Below.trans ?_ (Below.mono (by assumption) (by first | omega | (simp; omega) | (simp; done)))))))).mono ?_
    rintro e W ⟨rfl, hb⟩
    have HB0 : Below w.heap.size w W := by (repeat (first | exact Below.refl _ _ | refine Below.setCell ?_ (by first | omega | (simp; omega) | (simp; done)) _ | refine Below.alloc ?_ (by first | omega | (simp; omega) | (simp; done)) _ | refine Below.drew ?_ | refine below_drewN ?_ _ | refine Below.trans ?_ (Below.mono (by assumption) (by first | omega | (simp; omega) | (simp; done)))))
    clear hb
    go_wp2_with fail
    go_ret
    exact ⟨by rw [E.out]; rfl, HB0⟩
  · have E : Hid (checkV f = 0) := by unfold Hid checkV; simp [hv]
    have VA := Lib.hid (fun (W : World) hL hW => valid_is hv W hL hW)
    have HL := Lib.hid hl
    have HF := Lib.hid h
    obtain ⟨an, han⟩ : ∃ an, an = checkV f := ⟨_, rfl⟩
    rw [← han] at E ⊢
    clear h hl hv han
    obtain ⟨fA, fC, ff, slo, shi, pA, pC, fp, fc, sA, sC, fs⟩ := f
    show Calls Tryd.prog 16 #[.agg #[.slice fA ff.length fC, vi slo, vi shi, .slice pA fp.length pC, vi fc, .slice sA fs.length sC]] w _
    go_enter Tryd.func16, Tryd.ntmps16
    go_wp2_with fail
    refine (VA.out _ (HL.out.next (by (repeat (first | exact Below.refl _ _ | refine Below.setCell ?_ (by first | omega | (simp; omega) | (simp; done)) _ | refine Below.alloc ?_ (by first | omega | (simp; omega) | (simp; done)) _ | refine Below.drew ?_ | refine below_drewN ?_ _ | refine Below.trans ?_ (Below.mono (by assumption) (by first | omega | (simp; omega) | (simp; done))))))) (HF.out.to (by (repeat (first | exact Below.refl _ _ | refine Below.setCell ?_ (by first | omega | (simp; omega) | (simp; done)) _ | refine Below.alloc ?_ (by first | omega | (simp; omega) | (simp; done)) _ | refine Below.drew ?_ | refine below_drewN ?_ _ | refine Below.trans ?_ (Below.mono (by assumption) (by first | omega | (simp; omega) | (simp; done)))))))).mono ?_
    rintro e W ⟨rfl, hb⟩
    have HB0 : Below w.heap.size w W := by (repeat (first | exact Below.refl _ _ | refine Below.setCell ?_ (by first | omega | (simp; omega) | (simp; done)) _ | refine Below.alloc ?_ (by first | omega | (simp; omega) | (simp; done)) _ | refine Below.drew ?_ | refine below_drewN ?_ _ | refine Below.trans ?_ (Below.mono (by assumption) (by first | omega | (simp; omega) | (simp; done)))))
    clear hb
    go_wp2_with fail
    go_ret
    exact ⟨by rw [E.out]; rfl, HB0⟩
theorem check_is {f : Floor} {e : Int} (hv : checkV f = e) (w : World) (hl : Lim w) (h : FloorAt w w.heap.size f) :
    Calls Tryd.prog 16 #[f.val] w fun e' w' => e' = .returned (vi e) ∧ Below w.heap.size w w' := by
  have := Check_any f w hl h
  rwa [hv] at this
theorem checkSlip_any (f : Floor) (n : Int) (w : World) (hl : Lim w) (h : FloorAt w w.heap.size f) :
    Calls Tryd.prog 52 #[f.val, vi n] w fun e w' => e = .returned (vi (checkSlipV f n)) ∧ Below w.heap.size w w' := by
  have h3l := h.slips.lens
  have HL := Lib.hid hl
  have HF := Lib.hid h
  rcases hv : validB f with _ | _
  · have E : Hid (checkSlipV f n = 30) := by unfold Hid checkSlipV; simp [hv]
    have VA := Lib.hid (fun (W : World) hL hW => check_is (f := f) (e := 30) (by unfold checkV; simp [hv]) W hL hW)
    obtain ⟨an, han⟩ : ∃ an, an = checkSlipV f n := ⟨_, rfl⟩
    rw [← han] at E ⊢
    clear h hl hv han
    obtain ⟨fA, fC, ff, slo, shi, pA, pC, fp, fc, sA, sC, fs⟩ := f
    show Calls Tryd.prog 52 #[.agg #[.slice fA ff.length fC, vi slo, vi shi, .slice pA fp.length pC, vi fc, .slice sA fs.length sC], vi n] w _
    go_enter Tryd.func52, Tryd.ntmps52
    go_wp2_with fail
    refine (VA.out _ (HL.out.next (by (repeat (first | exact Below.refl _ _ | refine Below.setCell ?_ (by first | omega | (simp; omega) | (simp; done)) _ | refine Below.alloc ?_ (by first | omega | (simp; omega) | (simp; done)) _ | refine Below.drew ?_ | refine below_drewN ?_ _ | refine Below.trans ?_ (Below.mono (by assumption) (by first | omega | (simp; omega) | (simp; done))))))) (HF.out.to (by (repeat (first | exact Below.refl _ _ | refine Below.setCell ?_ (by first | omega | (simp; omega) | (simp; done)) _ | refine Below.alloc ?_ (by first | omega | (simp; omega) | (simp; done)) _ | refine Below.drew ?_ | refine below_drewN ?_ _ | refine Below.trans ?_ (Below.mono (by assumption) (by first | omega | (simp; omega) | (simp; done)))))))).mono ?_
    rintro e W ⟨rfl, hb⟩
    have HB0 : Below w.heap.size w W := by (repeat (first | exact Below.refl _ _ | refine Below.setCell ?_ (by first | omega | (simp; omega) | (simp; done)) _ | refine Below.alloc ?_ (by first | omega | (simp; omega) | (simp; done)) _ | refine Below.drew ?_ | refine below_drewN ?_ _ | refine Below.trans ?_ (Below.mono (by assumption) (by first | omega | (simp; omega) | (simp; done)))))
    clear hb
    go_wp2_with fail
    go_ret
    exact ⟨by rw [E.out]; rfl, HB0⟩
  obtain ⟨sb, hsb⟩ : ∃ sb, slipB f n = sb := ⟨_, rfl⟩
  have E : Hid (checkSlipV f n = if sb then 0 else 31) := by unfold Hid checkSlipV; simp [hv, hsb]
  have VA := Lib.hid (fun (W : World) hL hW => check_is (f := f) (e := 0) (by unfold checkV; simp [hv]) W hL hW)
  have HS := Lib.hid (fun (W : World) => slip_is hsb W h3l.2)
  obtain ⟨an, han⟩ : ∃ an, an = checkSlipV f n := ⟨_, rfl⟩
  rw [← han] at E ⊢
  clear h hl hv han hsb
  obtain ⟨fA, fC, ff, slo, shi, pA, pC, fp, fc, sA, sC, fs⟩ := f
  simp only at h3l
  show Calls Tryd.prog 52 #[.agg #[.slice fA ff.length fC, vi slo, vi shi, .slice pA fp.length pC, vi fc, .slice sA fs.length sC], vi n] w _
  go_enter Tryd.func52, Tryd.ntmps52
  go_wp2_with fail
  refine (VA.out _ (HL.out.next (by (repeat (first | exact Below.refl _ _ | refine Below.setCell ?_ (by first | omega | (simp; omega) | (simp; done)) _ | refine Below.alloc ?_ (by first | omega | (simp; omega) | (simp; done)) _ | refine Below.drew ?_ | refine below_drewN ?_ _ | refine Below.trans ?_ (Below.mono (by assumption) (by first | omega | (simp; omega) | (simp; done))))))) (HF.out.to (by (repeat (first | exact Below.refl _ _ | refine Below.setCell ?_ (by first | omega | (simp; omega) | (simp; done)) _ | refine Below.alloc ?_ (by first | omega | (simp; omega) | (simp; done)) _ | refine Below.drew ?_ | refine below_drewN ?_ _ | refine Below.trans ?_ (Below.mono (by assumption) (by first | omega | (simp; omega) | (simp; done)))))))).mono ?_
  rintro e W ⟨rfl, hb⟩
  have HB0 : Below w.heap.size w W := by (repeat (first | exact Below.refl _ _ | refine Below.setCell ?_ (by first | omega | (simp; omega) | (simp; done)) _ | refine Below.alloc ?_ (by first | omega | (simp; omega) | (simp; done)) _ | refine Below.drew ?_ | refine below_drewN ?_ _ | refine Below.trans ?_ (Below.mono (by assumption) (by first | omega | (simp; omega) | (simp; done)))))
  have a0 : W.cell? ⟨w.heap.size, 0, none⟩ = some (.slice fA ff.length fC) := cell_keep hb (by simp [go_sem])
  have a1 : W.cell? ⟨w.heap.size, 1, none⟩ = some (vi slo) := cell_keep hb (by simp [go_sem])
  have a2 : W.cell? ⟨w.heap.size, 2, none⟩ = some (vi shi) := cell_keep hb (by simp [go_sem])
  have a3 : W.cell? ⟨w.heap.size, 3, none⟩ = some (.slice pA fp.length pC) := cell_keep hb (by simp [go_sem])
  have a4 : W.cell? ⟨w.heap.size, 4, none⟩ = some (vi fc) := cell_keep hb (by simp [go_sem])
  have a5 : W.cell? ⟨w.heap.size, 5, none⟩ = some (.slice sA fs.length sC) := cell_keep hb (by simp [go_sem])
  clear hb
  go_wp2_with fail
  refine (HS.out _).mono ?_
  rintro e W2 ⟨rfl, hb⟩
  have HB1 : Below w.heap.size w W2 := HB0.trans (hb.mono HB0.size)
  clear hb
  rcases sb with _ | _
  · go_wp2_with fail
    go_ret
    exact ⟨by rw [E.out]; rfl, HB1⟩
  · go_wp2_with fail
    go_ret
    exact ⟨by rw [E.out]; rfl, HB1⟩
theorem checkSlip_is {f : Floor} {n e : Int} (hv : checkSlipV f n = e) (w : World) (hl : Lim w) (h : FloorAt w w.heap.size f) :
    Calls Tryd.prog 52 #[f.val, vi n] w fun e' w' => e' = .returned (vi e) ∧ Below w.heap.size w w' := by
  have := checkSlip_any f n w hl h
  rwa [hv] at this
end Go.Proofs.YtomgnpfpaodpiaaDoor

/- Contracts of sets. -/
namespace Go.Proofs.YtomgnpfpaodpiaaDoor
open Go Go.RowKit
set_option maxHeartbeats 2000000
theorem has_fact : ∀ s : Fin 9, ∀ m : Fin 512, (bits BinOp.and IntKind.i64 ((m.val : Int) / 2 ^ s.val) 1 == 1) = m.val.testBit s.val := by decide +kernel
theorem with_fact : ∀ s : Fin 9, ∀ m : Fin 512, bits BinOp.or IntKind.i64 (m.val : Int) (wrap64 (2 ^ s.val)) = ((m.val ||| 2 ^ s.val : Nat) : Int) := by decide +kernel
theorem setHas_any (m s : Nat) (hm : m < 512) (hs : s < 9) (w : World) :
    Calls Tryd.prog 96 #[vi m, vi s] w fun e w' => e = .returned (.bool (m.testBit s)) ∧ Below w.heap.size w w' := by
  have h1 : (0 : Int) ≤ s := by omega
  have h2 : (s : Int) < 9 := by omega
  go_enter Tryd.func96, Tryd.ntmps96
  go_wp2_with fail
  go_ret
  exact ⟨retB (has_fact ⟨s, hs⟩ ⟨m, hm⟩), Below.refl _ _⟩
theorem setWith_any (m s : Nat) (hm : m < 512) (hs : s < 9) (w : World) :
    Calls Tryd.prog 97 #[vi m, vi s] w fun e w' => e = .returned (vi (m ||| 2 ^ s : Nat)) ∧ Below w.heap.size w w' := by
  have h1 : (0 : Int) ≤ s := by omega
  have h2 : (s : Int) < 9 := by omega
  go_enter Tryd.func97, Tryd.ntmps97
  go_wp2_with fail
  go_ret
  exact ⟨retI (with_fact ⟨s, hs⟩ ⟨m, hm⟩), Below.refl _ _⟩
end Go.Proofs.YtomgnpfpaodpiaaDoor

