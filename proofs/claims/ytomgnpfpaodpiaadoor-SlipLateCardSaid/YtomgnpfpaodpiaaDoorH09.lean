/- Contract of floor.areTours: the walk. -/
import Derived.Test.YtomgnpfpaodpiaaDoorH08
set_option linter.unusedVariables false
set_option linter.unusedSimpArgs false
namespace Go.Proofs.YtomgnpfpaodpiaaDoor
open Go Go.RowKit
set_option maxHeartbeats 2000000
def goodTour (f : Floor) (ts : List STour) (k : Nat) : Bool := match ts[k]? with | some t => tourB f t.lines | none => true
theorem all_tours (f : Floor) (ts : List STour) : ts.all (fun t => tourB f t.lines) = (List.range ts.length).all (goodTour f ts) := by
  rw [Bool.eq_iff_iff, List.all_eq_true, List.all_eq_true]
  constructor
  · intro h k hk
    have hk := List.mem_range.1 hk
    unfold goodTour
    rw [List.getElem?_eq_getElem hk]
    exact h _ (List.getElem_mem hk)
  · intro h t ht
    obtain ⟨k, hk, rfl⟩ := List.mem_iff_getElem.1 ht
    have := h k (List.mem_range.2 hk)
    unfold goodTour at this
    rwa [List.getElem?_eq_getElem hk] at this
theorem areTours_any (f : Floor) (n : Nat) (s : SSlip) (hs : f.slips[n]? = some s) (hfar : f.far.length ≤ 12) (hsl : linesB f.far.length s.lines = true) (A : Option Addr) (cap : Nat) (ts : List STour) (w : World) (hl : Lim w) (h : FloorAt w w.heap.size f) (ht : ToursAt w w.heap.size A cap ts) :
    Calls Tryd.prog 53 #[f.val, vi n, .slice A ts.length cap] w fun e w' => e = .returned (.bool (toursB f (piecesF s.lines) ts)) ∧ Below w.heap.size w w' := by
  have htl := ht.rows.lens
  have hsll := h.slips.lens
  have HL := Lib.hid hl
  have HF := Lib.hid h
  have HT := Lib.hid ht
  obtain ⟨p, hp⟩ : ∃ p, piecesF s.lines = p := ⟨_, rfl⟩
  obtain ⟨hok, htw⟩ := lines_good (by omega) hsl
  rw [hp] at htw ⊢
  have PO := Lib.hid (fun (A : Option Addr) (cap : Nat) (W : World) hW => piecesOf_is hp hok A cap W hW)
  have HX : Hid (∀ (k : Nat) (t : STour), ts[k]? = some t → goodTour f ts k = true → (∀ j, j < k → goodTour f ts j = true) → ∃ q, piecesF t.lines = q ∧ LinesOk t.lines ∧ q.length = 12 ∧ (∀ x ∈ q, -1000000 ≤ x ∧ x ≤ 1000000) ∧ (leftK p ts k).length = 12 ∧ (∀ x ∈ leftK p ts k, -1152921504606846976 ≤ x ∧ x ≤ 1152921504606846976) ∧ (leftK p ts (k + 1)).length = 12 ∧ withoutF (leftK p ts k) q = leftK p ts (k + 1)) := fun k t hk hg hj => by
    have good : ∀ (j : Nat) (t : STour), goodTour f ts j = true → ts[j]? = some t → LinesOk t.lines ∧ Twelve 12000 (piecesF t.lines) := fun j t hg hj => by
      unfold goodTour at hg
      rw [hj] at hg
      simp only [tourB, Bool.and_eq_true] at hg
      exact lines_good (by omega) hg.1
    have hlt := (List.getElem?_eq_some_iff.1 hk).1
    obtain ⟨g1, g2⟩ := good k t hg hk
    obtain ⟨i1, i2⟩ := leftK_ok htw k (by omega) (fun j t hjk ht => (good j t (hj j hjk) ht).2)
    refine ⟨_, rfl, g1, g2.len, fun x hx => ?_, i1, fun x hx => ?_, ?_, (leftK_succ hk).symm⟩
    · have := g2.pos x hx; have := g2.top x hx; omega
    · have := i2 x hx; omega
    · rw [leftK_succ hk]; exact withoutF_len i1 g2.len
  have HG : Hid (∀ (k : Nat) (t : STour), ts[k]? = some t → goodTour f ts k = tourB f t.lines) := fun k t hk => by unfold goodTour; rw [hk]
  have TO := Lib.hid (fun (t : STour) (b : Bool) (hb : tourB f t.lines = b) (W : World) hL hW => tour_is hb t.ad t.cap (by omega : f.far.length ≤ 35184372088832) W hL hW)
  obtain ⟨an, han⟩ : ∃ an, an = toursB f p ts := ⟨_, rfl⟩
  have HVB : toursB f p ts = ((List.range ts.length).all (goodTour f ts) && decide (leftK p ts ts.length = [0, 0, 0, 0, 0, 0, 0, 0, 0, 0, 0, 0])) := by unfold toursB; rw [all_tours]
  have FIN : Hid ((∀ j, j < ts.length → goodTour f ts j = true) → an = decide (leftK p ts ts.length = [0, 0, 0, 0, 0, 0, 0, 0, 0, 0, 0, 0])) := fun hj => by
    rw [han, HVB, List.all_eq_true.2 (fun k hk => hj k (List.mem_range.1 hk)), Bool.true_and]
  have BAD : Hid (∀ k, k < ts.length → goodTour f ts k = false → an = false) := fun k hk hg => by
    have : (List.range ts.length).all (goodTour f ts) = false := by
      rw [Bool.eq_false_iff]
      intro ha
      have := List.all_eq_true.1 ha k (List.mem_range.2 hk)
      rw [hg] at this
      cases this
    rw [han, HVB, this, Bool.false_and]
  have HP0 : Hid (leftK p ts 0 = p) := rfl
  rw [← han]
  clear HVB han
  obtain ⟨S, hS⟩ : ∃ S, S = leftK p ts := ⟨_, rfl⟩
  obtain ⟨gs, hgs⟩ : ∃ gs, gs = goodTour f ts := ⟨_, rfl⟩
  rw [← hS] at HX HP0 FIN
  rw [← hgs] at HX HG FIN BAD
  clear hS hgs hl h ht hsl hok hp
  obtain ⟨n0, n1, n2, n3, n4, n5, n6, n7, n8, n9, n10, n11, hpp⟩ := spread htw.len
  rw [hpp] at HP0 PO
  clear hpp htw
  obtain ⟨bs, os, hsA, hbs, s0, s1⟩ := row2 HF.out.slips.row hs rfl
  have HSL := Lib.hid (HF.out.each s (List.mem_of_getElem? hs))
  have hnl : (n : Int) < f.slips.length := by have := (List.getElem?_eq_some_iff.1 hs).1; omega
  have h0n : (0 : Int) ≤ n := by omega
  have zbs : bs < w.heap.size := cell_lt s0
  clear hs
  obtain ⟨sa, sc, sl, till⟩ := s
  simp only at PO HSL
  replace s0 : w.cell? ⟨bs, os + n * 2, none⟩ = some (.slice sa sl.length sc) := s0
  obtain ⟨fA, fC, ff, slo, shi, pA, pC, fp, fc, sA, sC, fs⟩ := f
  simp only at hsll hnl hsA hfar
  subst hsA
  show Calls Tryd.prog 53 #[.agg #[.slice fA ff.length fC, vi slo, vi shi, .slice pA fp.length pC, vi fc, .slice (some ⟨bs, os, none⟩) fs.length sC], vi n, .slice A ts.length cap] w fun e w' => e = .returned (.bool an) ∧ Below w.heap.size w w'
  go_enter Tryd.func53, Tryd.ntmps53
  go_wp2_with fail
  refine (PO.out sa sc _ (HSL.out.to (by (repeat (first | exact Below.refl _ _ | refine Below.setCell ?_ (by first | omega | (simp; omega) | (simp; done)) _ | refine Below.alloc ?_ (by first | omega | (simp; omega) | (simp; done)) _ | refine Below.drew ?_ | refine below_drewN ?_ _ | refine Below.trans ?_ (Below.mono (by assumption) (by first | omega | (simp; omega) | (simp; done)))))))).mono ?_
  rintro e W ⟨rfl, hb⟩
  have HB0 : Below w.heap.size w W := by (repeat (first | exact Below.refl _ _ | refine Below.setCell ?_ (by first | omega | (simp; omega) | (simp; done)) _ | refine Below.alloc ?_ (by first | omega | (simp; omega) | (simp; done)) _ | refine Below.drew ?_ | refine below_drewN ?_ _ | refine Below.trans ?_ (Below.mono (by assumption) (by first | omega | (simp; omega) | (simp; done)))))
  have a0 : W.cell? ⟨w.heap.size, 0, none⟩ = some (.slice fA ff.length fC) := cell_keep hb (by simp [go_sem])
  have a1 : W.cell? ⟨w.heap.size, 1, none⟩ = some (vi slo) := cell_keep hb (by simp [go_sem])
  have a2 : W.cell? ⟨w.heap.size, 2, none⟩ = some (vi shi) := cell_keep hb (by simp [go_sem])
  have a3 : W.cell? ⟨w.heap.size, 3, none⟩ = some (.slice pA fp.length pC) := cell_keep hb (by simp [go_sem])
  have a4 : W.cell? ⟨w.heap.size, 4, none⟩ = some (vi fc) := cell_keep hb (by simp [go_sem])
  have a5 : W.cell? ⟨w.heap.size, 5, none⟩ = some (.slice (some ⟨bs, os, none⟩) fs.length sC) := cell_keep hb (by simp [go_sem])
  have za := cell_lt a0
  clear hb s0 s1
  go_wp2_with fail
  go_loopw [9, 20] (fun x i wr => ∃ k : Nat, k ≤ ts.length ∧ i = .int .i64 k ∧ Below W.heap.size W wr ∧ ArrAt wr W.heap.size (S k) ∧ Hid (∀ j, j < k → gs j = true)) (fun _ i _ => ts.length - (intOf i).toNat)
  case atStart =>
    refine ⟨0, Nat.zero_le _, rfl, by (repeat (first | exact Below.refl _ _ | refine Below.setCell ?_ (by first | omega | (simp; omega) | (simp; done)) _ | refine Below.alloc ?_ (by first | omega | (simp; omega) | (simp; done)) _ | refine Below.drew ?_ | refine below_drewN ?_ _ | refine Below.trans ?_ (Below.mono (by assumption) (by first | omega | (simp; omega) | (simp; done))))), ?_, fun j hj => absurd hj (by omega)⟩
    rw [HP0.out]
    exact arr_new (by simp [go_sem]) (by simp [go_sem])
  obtain ⟨k, hk, rfl, hB, hX, HJ⟩ := hrel
  have HBr : Below w.heap.size w wr := HB0.trans (hB.mono HB0.size)
  have hz := hX.lt
  by_cases hlt : k < ts.length
  · obtain ⟨t, ht⟩ : ∃ t, ts[k]? = some t := ⟨_, List.getElem?_eq_getElem hlt⟩
    have hTr := HT.out.to HBr
    obtain ⟨bb, off, rfl, hbb, x0⟩ := row1 hTr.rows.row ht rfl
    have HTL := Lib.hid (hTr.each t (List.mem_of_getElem? ht))
    have zbb : bb < wr.heap.size := cell_lt x0
    have a0r := cell_keep hB a0
    have a1r := cell_keep hB a1
    have a2r := cell_keep hB a2
    have a3r := cell_keep hB a3
    have a4r := cell_keep hB a4
    have a5r := cell_keep hB a5
    have zar := cell_lt a0r
    have hkI : (k : Int) < ts.length := by omega
    have h0k : (0 : Int) ≤ k := by omega
    have TO1 := Lib.hid (fun (b : Bool) hb => TO.out t b hb)
    have G1 := HG.out k t ht
    have HX1 := Lib.hid (HX.out k t ht)
    have HXX := Lib.hid hX
    clear ht hTr hX TO HG HX
    obtain ⟨tA, tC, tl⟩ := t
    simp only at TO1 G1 HX1 HTL
    replace x0 : wr.cell? ⟨bb, off + k, none⟩ = some (.slice tA tl.length tC) := x0
    rcases hg : gs k with _ | _
    · have E : Hid (an = false) := BAD.out k hlt hg
      have TO2 := Lib.hid (TO1.out false (by rw [← G1]; exact hg))
      clear G1 hg HX1 TO1
      go_wp2_with fail
      refine (TO2.out _ (HL.out.next (by (repeat (first | exact Below.refl _ _ | refine Below.setCell ?_ (by first | omega | (simp; omega) | (simp; done)) _ | refine Below.alloc ?_ (by first | omega | (simp; omega) | (simp; done)) _ | refine Below.drew ?_ | refine below_drewN ?_ _ | refine Below.trans ?_ (Below.mono (by assumption) (by first | omega | (simp; omega) | (simp; done))))))) (HTL.out.to (by (repeat (first | exact Below.refl _ _ | refine Below.setCell ?_ (by first | omega | (simp; omega) | (simp; done)) _ | refine Below.alloc ?_ (by first | omega | (simp; omega) | (simp; done)) _ | refine Below.drew ?_ | refine below_drewN ?_ _ | refine Below.trans ?_ (Below.mono (by assumption) (by first | omega | (simp; omega) | (simp; done)))))))).mono ?_
      rintro e W3 ⟨rfl, hb3⟩
      go_wp2_with fail
      go_ret
      exact ⟨retB E.out.symm, HBr.trans (hb3.mono HBr.size)⟩
    · have TO2 := Lib.hid (TO1.out true (by rw [← G1]; exact hg))
      obtain ⟨q, hq, qok, ql, qb, sl12, sb, sl13, hw⟩ := HX1.out hg HJ.out
      have HJ2 : Hid (∀ j, j < k + 1 → gs j = true) := upto_succ HJ.out hg
      have PQ := Lib.hid (fun (A : Option Addr) (cap : Nat) (W : World) hW => piecesOf_is hq qok A cap W hW)
      have WO := Lib.hid (fun (W : World) => without_is hw sl12 ql sb qb W)
      obtain ⟨m0, m1, m2, m3, m4, m5, m6, m7, m8, m9, m10, m11, rfl⟩ := spread ql
      obtain ⟨r0, r1, r2, r3, r4, r5, r6, r7, r8, r9, r10, r11, hr⟩ := spread sl12
      obtain ⟨d0, d1, d2, d3, d4, d5, d6, d7, d8, d9, d10, d11, hd⟩ := spread sl13
      have HD := Lib.hid hd
      have HXR : Hid (ArrAt wr W.heap.size [r0, r1, r2, r3, r4, r5, r6, r7, r8, r9, r10, r11]) := by unfold Hid; rw [← hr]; exact HXX.out
      rw [hr, hd] at WO
      clear G1 hg HX1 TO1 hq qok ql qb sl12 sb sl13 hw hr hd HXX
      go_wp2_with fail
      refine (TO2.out _ (HL.out.next (by (repeat (first | exact Below.refl _ _ | refine Below.setCell ?_ (by first | omega | (simp; omega) | (simp; done)) _ | refine Below.alloc ?_ (by first | omega | (simp; omega) | (simp; done)) _ | refine Below.drew ?_ | refine below_drewN ?_ _ | refine Below.trans ?_ (Below.mono (by assumption) (by first | omega | (simp; omega) | (simp; done))))))) (HTL.out.to (by (repeat (first | exact Below.refl _ _ | refine Below.setCell ?_ (by first | omega | (simp; omega) | (simp; done)) _ | refine Below.alloc ?_ (by first | omega | (simp; omega) | (simp; done)) _ | refine Below.drew ?_ | refine below_drewN ?_ _ | refine Below.trans ?_ (Below.mono (by assumption) (by first | omega | (simp; omega) | (simp; done)))))))).mono ?_
      rintro e W3 ⟨rfl, hb3⟩
      have HX3 := Lib.hid (HXR.out.keep hb3)
      have HTL3 := Lib.hid (HTL.out.to hb3)
      have HB3 : Below W.heap.size W W3 := hB.trans (hb3.mono (Nat.le_of_lt hz))
      have hz3 := HX3.out.lt
      clear hb3 x0 a0r a1r a2r a3r a4r a5r TO2
      obtain ⟨c0, c1, c2, c3, c4, c5, c6, c7, c8, c9, c10, c11⟩ := HX3.out.cells
      go_wp2_with fail
      go_region_with (first
        | (go_at_call 86; go_loud (refine (PQ.out tA tC _ (HTL3.out.to (by (repeat (first | exact Below.refl _ _ | refine Below.setCell ?_ (by first | omega | (simp; omega) | (simp; done)) _ | refine Below.alloc ?_ (by first | omega | (simp; omega) | (simp; done)) _ | refine Below.drew ?_ | refine below_drewN ?_ _ | refine Below.trans ?_ (Below.mono (by assumption) (by first | omega | (simp; omega) | (simp; done)))))))).mono ?_; rintro e wq ⟨rfl, hbq⟩; have HXq : Hid (ArrAt wq W.heap.size [r0, r1, r2, r3, r4, r5, r6, r7, r8, r9, r10, r11]) := (by unfold Hid; refine ArrAt.keep ?_ hbq; repeat (first | exact HX3.out | refine ArrAt.drew ?_ | refine ArrAt.alloc ?_ _)); have hzq := HXq.out.lt; have HBq : Below W3.heap.size W3 wq := (by (repeat (first | exact Below.refl _ _ | refine Below.setCell ?_ (by first | omega | (simp; omega) | (simp; done)) _ | refine Below.alloc ?_ (by first | omega | (simp; omega) | (simp; done)) _ | refine Below.drew ?_ | refine below_drewN ?_ _ | refine Below.trans ?_ (Below.mono (by assumption) (by first | omega | (simp; omega) | (simp; done)))))); obtain ⟨c0q, c1q, c2q, c3q, c4q, c5q, c6q, c7q, c8q, c9q, c10q, c11q⟩ := HXq.out.cells))
        | (go_at_call 88; go_loud (refine (WO.out _).mono ?_; rintro e wv ⟨rfl, hbv⟩; have HXv : Hid (ArrAt wv W.heap.size [r0, r1, r2, r3, r4, r5, r6, r7, r8, r9, r10, r11]) := (by unfold Hid; refine ArrAt.keep ?_ hbv; repeat (first | exact HXq.out | refine ArrAt.drew ?_ | refine ArrAt.alloc ?_ _)); have hzv := HXv.out.lt; have HBv : Below W3.heap.size W3 wv := gr_trans HBq (by (repeat (first | exact Below.refl _ _ | refine Below.setCell ?_ (by first | omega | (simp; omega) | (simp; done)) _ | refine Below.alloc ?_ (by first | omega | (simp; omega) | (simp; done)) _ | refine Below.drew ?_ | refine below_drewN ?_ _ | refine Below.trans ?_ (Below.mono (by assumption) (by first | omega | (simp; omega) | (simp; done)))))); obtain ⟨c0v, c1v, c2v, c3v, c4v, c5v, c6v, c7v, c8v, c9v, c10v, c11v⟩ := HXv.out.cells; obtain ⟨e0, e1, e2, e3, e4, e5, e6, e7, e8, e9, e10, e11⟩ := HXv.out.softs)))
      all_goals
        refine (?_ : ∀ W9 : World, ArrAt W9 W.heap.size [d0, d1, d2, d3, d4, d5, d6, d7, d8, d9, d10, d11] ∧ Below W.heap.size W W9 → Exit.inBlock _ _ _ _ W9) _ (HXv.out.setBoth (gr_trans HB3 HBv) (Nat.le_refl _) d0 d1 d2 d3 d4 d5 d6 d7 d8 d9 d10 d11)
      all_goals
        intro W9 ⟨Z9, B9⟩
        clear e0 e1 e2 e3 e4 e5 e6 e7 e8 e9 e10 e11 c0 c1 c2 c3 c4 c5 c6 c7 c8 c9 c10 c11
        clear c0q c1q c2q c3q c4q c5q c6q c7q c8q c9q c10q c11q c0v c1v c2v c3v c4v c5v c6v c7v c8v c9v c10v c11v
        go_wp2_with fail
        go_roundw
      all_goals first
        | exact ⟨k + 1, by omega, by go_num, B9, by rw [HD.out]; exact Z9, HJ2.out⟩
        | (simp [intOf]; omega)
  · obtain rfl : k = ts.length := by omega
    have E := FIN.out HJ.out
    have hXl := hX.len
    obtain ⟨r0, r1, r2, r3, r4, r5, r6, r7, r8, r9, r10, r11, hr⟩ := spread hXl
    rw [hr] at hX E
    have E := Lib.hid E
    obtain ⟨c0, c1, c2, c3, c4, c5, c6, c7, c8, c9, c10, c11⟩ := hX.cells
    clear hX hr hXl HX FIN BAD HP0 a0 a1 a2 a3 a4 a5
    have hgd : Tryd.prog.eqGuardType Tryd.prog.depth 102 = false := by kernel_rfl
    have heq : ∀ w : World, (binOp .eql 102 (.agg #[vi r0, vi r1, vi r2, vi r3, vi r4, vi r5, vi r6, vi r7, vi r8, vi r9, vi r10, vi r11]) (.agg #[vi 0, vi 0, vi 0, vi 0, vi 0, vi 0, vi 0, vi 0, vi 0, vi 0, vi 0, vi 0])).run Tryd.prog w = .ok (.bool (decide ([r0, r1, r2, r3, r4, r5, r6, r7, r8, r9, r10, r11] = [0, 0, 0, 0, 0, 0, 0, 0, 0, 0, 0, 0]))) w := fun w => by
      have := eq12 (x := [r0, r1, r2, r3, r4, r5, r6, r7, r8, r9, r10, r11]) (y := [0, 0, 0, 0, 0, 0, 0, 0, 0, 0, 0, 0]) rfl rfl 9998 w
      rw [run_eql_struct]
      change Result.andThen ((Op.equalIn (9998 + 2) 102 (.agg (List.map vi [r0, r1, r2, r3, r4, r5, r6, r7, r8, r9, r10, r11]).toArray) (.agg (List.map vi [0, 0, 0, 0, 0, 0, 0, 0, 0, 0, 0, 0]).toArray)).run Tryd.prog w) _ = _
      rw [this]
      rfl
    obtain ⟨eb, heb⟩ : ∃ eb, eb = decide ([r0, r1, r2, r3, r4, r5, r6, r7, r8, r9, r10, r11] = [0, 0, 0, 0, 0, 0, 0, 0, 0, 0, 0, 0]) := ⟨_, rfl⟩
    rw [← heb] at heq E
    go_wp2_with fail
    go_ret
    exact ⟨retB (by rw [E.out, heb]; simp [Bool.decide_and]), HBr⟩
end Go.Proofs.YtomgnpfpaodpiaaDoor

/- Contract of IsTours. -/
namespace Go.Proofs.YtomgnpfpaodpiaaDoor
open Go Go.RowKit
set_option maxHeartbeats 2000000
theorem valid_parts {f : Floor} (h : validB f = true) : 1 ≤ f.far.length ∧ f.far.length ≤ 12 ∧ f.picks.length = f.far.length ∧ (1 ≤ f.slo ∧ f.slo ≤ f.shi ∧ f.shi ≤ 10) ∧ (1 ≤ f.carry ∧ f.carry ≤ 20) ∧ f.slips.length ≤ 9 ∧ ∀ (k : Nat) (s : SSlip), f.slips[k]? = some s → (0 ≤ s.till ∧ s.till ≤ 100000) ∧ linesB f.far.length s.lines = true := by
  unfold validB shelvesB at h
  simp only [Bool.and_eq_true, List.all_eq_true, List.mem_range, hasB, withinB, decide_eq_true_eq] at h
  obtain ⟨⟨⟨⟨⟨⟨h1, h2⟩, -⟩, h3⟩, h4⟩, h5⟩, h6⟩ := h
  refine ⟨by omega, by omega, by omega, by omega, by omega, by omega, fun k s hk => ?_⟩
  have := h6 k (List.getElem?_eq_some_iff.1 hk).1
  rw [goodSlip_of hk] at this
  simp only [hasB, Bool.and_eq_true, decide_eq_true_eq] at this
  exact this
def isToursV (f : Floor) (n : Int) (ts : List STour) : Bool := if checkSlipV f n = 0 then (match f.slips[n.toNat]? with | some s => toursB f (piecesF s.lines) ts | none => false) else false
theorem check_cases (f : Floor) (n : Int) : (checkSlipV f n = 30 ∨ checkSlipV f n = 31) ∨ (checkSlipV f n = 0 ∧ validB f = true ∧ ∃ (k : Nat) (s : SSlip), n = k ∧ f.slips[k]? = some s) := by
  unfold checkSlipV
  cases hv : validB f with
  | false => exact .inl (.inl rfl)
  | true =>
    cases hs : slipB f n with
    | false => exact .inl (.inr rfl)
    | true =>
      unfold slipB at hs
      simp only [Bool.and_eq_true, decide_eq_true_eq] at hs
      have : n.toNat < f.slips.length := by omega
      exact .inr ⟨rfl, rfl, n.toNat, f.slips[n.toNat], by omega, List.getElem?_eq_getElem this⟩
theorem areTours_is {f : Floor} {n : Nat} {s : SSlip} {ts : List STour} {b : Bool} (hb : toursB f (piecesF s.lines) ts = b) (hs : f.slips[n]? = some s) (hfar : f.far.length ≤ 12) (hsl : linesB f.far.length s.lines = true) (A : Option Addr) (cap : Nat) (w : World) (hl : Lim w) (h : FloorAt w w.heap.size f) (ht : ToursAt w w.heap.size A cap ts) :
    Calls Tryd.prog 53 #[f.val, vi n, .slice A ts.length cap] w fun e w' => e = .returned (.bool b) ∧ Below w.heap.size w w' := by
  subst hb
  exact areTours_any f n s hs hfar hsl A cap ts w hl h ht
theorem IsTours_any (f : Floor) (n : Int) (A : Option Addr) (cap : Nat) (ts : List STour) (w : World) (hl : Lim w) (h : FloorAt w w.heap.size f) (ht : ToursAt w w.heap.size A cap ts) :
    Calls Tryd.prog 14 #[f.val, vi n, .slice A ts.length cap] w fun e w' => e = .returned (.tuple #[.bool (isToursV f n ts), vi (checkSlipV f n)]) ∧ Below w.heap.size w w' := by
  have HL := Lib.hid hl
  have HF := Lib.hid h
  have HT := Lib.hid ht
  rcases check_cases f n with hc | ⟨hc, hv, k, s, rfl, hs⟩
  · obtain ⟨ec, hec⟩ : ∃ ec, checkSlipV f n = ec := ⟨_, rfl⟩
    have hne : ec ≠ 0 := by omega
    have hned : decide (ec = 0) = false := by simpa using hne
    have E : Hid (isToursV f n ts = false) := by unfold Hid isToursV; rw [if_neg (by omega)]
    have CH := Lib.hid (fun (W : World) hL hW => checkSlip_is hec W hL hW)
    obtain ⟨an, han⟩ : ∃ an, an = isToursV f n ts := ⟨_, rfl⟩
    rw [← han] at E ⊢
    rw [hec]
    clear h hl ht hc han hec
    obtain ⟨fA, fC, ff, slo, shi, pA, pC, fp, fc, sA, sC, fs⟩ := f
    show Calls Tryd.prog 14 #[.agg #[.slice fA ff.length fC, vi slo, vi shi, .slice pA fp.length pC, vi fc, .slice sA fs.length sC], vi n, .slice A ts.length cap] w _
    go_enter Tryd.func14, Tryd.ntmps14
    go_wp2_with fail
    refine (CH.out _ (HL.out.next (by (repeat (first | exact Below.refl _ _ | refine Below.setCell ?_ (by first | omega | (simp; omega) | (simp; done)) _ | refine Below.alloc ?_ (by first | omega | (simp; omega) | (simp; done)) _ | refine Below.drew ?_ | refine below_drewN ?_ _ | refine Below.trans ?_ (Below.mono (by assumption) (by first | omega | (simp; omega) | (simp; done))))))) (HF.out.to (by (repeat (first | exact Below.refl _ _ | refine Below.setCell ?_ (by first | omega | (simp; omega) | (simp; done)) _ | refine Below.alloc ?_ (by first | omega | (simp; omega) | (simp; done)) _ | refine Below.drew ?_ | refine below_drewN ?_ _ | refine Below.trans ?_ (Below.mono (by assumption) (by first | omega | (simp; omega) | (simp; done)))))))).mono ?_
    rintro e W ⟨rfl, hb⟩
    have HB0 : Below w.heap.size w W := by (repeat (first | exact Below.refl _ _ | refine Below.setCell ?_ (by first | omega | (simp; omega) | (simp; done)) _ | refine Below.alloc ?_ (by first | omega | (simp; omega) | (simp; done)) _ | refine Below.drew ?_ | refine below_drewN ?_ _ | refine Below.trans ?_ (Below.mono (by assumption) (by first | omega | (simp; omega) | (simp; done)))))
    clear hb
    go_wp2_with fail
    go_ret2
    exact ⟨by rw [E.out]; rfl, HB0⟩
  · obtain ⟨p1, p2, -, -, -, -, p7⟩ := valid_parts hv
    have hsl := (p7 k s hs).2
    have E : Hid (isToursV f k ts = toursB f (piecesF s.lines) ts) := by unfold Hid isToursV; rw [if_pos hc]; simp [hs]
    have CH := Lib.hid (fun (W : World) hL hW => checkSlip_is hc W hL hW)
    obtain ⟨an, han⟩ : ∃ an, an = toursB f (piecesF s.lines) ts := ⟨_, rfl⟩
    have AT := Lib.hid (fun (W : World) hL hW hT => areTours_is han.symm hs p2 hsl A cap W hL hW hT)
    rw [hc, E.out, ← han]
    clear h hl ht hc han hs hsl p7 E hv
    obtain ⟨fA, fC, ff, slo, shi, pA, pC, fp, fc, sA, sC, fs⟩ := f
    show Calls Tryd.prog 14 #[.agg #[.slice fA ff.length fC, vi slo, vi shi, .slice pA fp.length pC, vi fc, .slice sA fs.length sC], vi k, .slice A ts.length cap] w _
    go_enter Tryd.func14, Tryd.ntmps14
    go_wp2_with fail
    refine (CH.out _ (HL.out.next (by (repeat (first | exact Below.refl _ _ | refine Below.setCell ?_ (by first | omega | (simp; omega) | (simp; done)) _ | refine Below.alloc ?_ (by first | omega | (simp; omega) | (simp; done)) _ | refine Below.drew ?_ | refine below_drewN ?_ _ | refine Below.trans ?_ (Below.mono (by assumption) (by first | omega | (simp; omega) | (simp; done))))))) (HF.out.to (by (repeat (first | exact Below.refl _ _ | refine Below.setCell ?_ (by first | omega | (simp; omega) | (simp; done)) _ | refine Below.alloc ?_ (by first | omega | (simp; omega) | (simp; done)) _ | refine Below.drew ?_ | refine below_drewN ?_ _ | refine Below.trans ?_ (Below.mono (by assumption) (by first | omega | (simp; omega) | (simp; done)))))))).mono ?_
    rintro e W ⟨rfl, hb⟩
    have HB0 : Below w.heap.size w W := by (repeat (first | exact Below.refl _ _ | refine Below.setCell ?_ (by first | omega | (simp; omega) | (simp; done)) _ | refine Below.alloc ?_ (by first | omega | (simp; omega) | (simp; done)) _ | refine Below.drew ?_ | refine below_drewN ?_ _ | refine Below.trans ?_ (Below.mono (by assumption) (by first | omega | (simp; omega) | (simp; done)))))
    have a0 : W.cell? ⟨w.heap.size, 0, none⟩ = some (.slice fA ff.length fC) := cell_keep hb (by simp [go_sem])
    have a1 : W.cell? ⟨w.heap.size, 1, none⟩ = some (vi slo) := cell_keep hb (by simp [go_sem])
    have a2 : W.cell? ⟨w.heap.size, 2, none⟩ = some (vi shi) := cell_keep hb (by simp [go_sem])
    have a3 : W.cell? ⟨w.heap.size, 3, none⟩ = some (.slice pA fp.length pC) := cell_keep hb (by simp [go_sem])
    have a4 : W.cell? ⟨w.heap.size, 4, none⟩ = some (vi fc) := cell_keep hb (by simp [go_sem])
    have a5 : W.cell? ⟨w.heap.size, 5, none⟩ = some (.slice sA fs.length sC) := cell_keep hb (by simp [go_sem])
    clear hb
    go_wp2_with fail
    refine (AT.out _ (HL.out.next HB0) (HF.out.to HB0) (HT.out.to HB0)).mono ?_
    rintro e W2 ⟨rfl, hb2⟩
    go_wp2_with fail
    go_ret2
    exact ⟨rfl, gr_trans HB0 hb2⟩
end Go.Proofs.YtomgnpfpaodpiaaDoor

