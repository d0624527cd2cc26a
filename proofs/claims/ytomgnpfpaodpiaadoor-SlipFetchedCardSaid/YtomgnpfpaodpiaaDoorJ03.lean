/- Two arrays of twelve numbers compared. -/
import Derived.Test.YtomgnpfpaodpiaaDoorJ02
import Derived.Test.YtomgnpfpaodpiaaDoorJ01
import Derived.OpenShut
import Derived.Test.YtomgnpfpaodpiaaDoorCards
import Derived.Test.YtomgnpfpaodpiaaDoorTie
import Derived.WalkKit
import Derived.ProofKit
import Derived.ReadAgain
import Derived.Deep.DeepHandedRow
import Derived.Lib.LaidTab
import Derived.RangeFuncNested
import Derived.RangeFuncBound
import Derived.RangeFuncCalls
import Derived.RangeFuncLeaves
import Derived.Sort.BigQuietIn
import Derived.RangeFuncBox
import Derived.RangeFuncFrom
import Derived.Shelf.Abstract
import Derived.Shelf.RegionOpen
import Derived.WalkMore
import Derived.OwnWalkIn
import Derived.TacticsInMore
import Derived.LoopNIn
import Derived.LoopIn
import Derived.Maps.AppendAt
import Derived.Laws.Rows
set_option linter.unusedVariables false
set_option linter.unusedSimpArgs false
namespace Go.Proofs.YtomgnpfpaodpiaaDoor
open Go Go.RowKit
set_option maxHeartbeats 2000000
set_option maxRecDepth 100000 in
theorem part12 {q : List Int} (h : q.length = 12) (k : Nat) (hk : k < 12) (w : World) : (part 3 (q.map vi).toArray (k * 1)).run Tryd.prog w = .ok (vi (q[k]?.getD 0)) w := by
  obtain ⟨n0, n1, n2, n3, n4, n5, n6, n7, n8, n9, n10, n11, rfl⟩ := spread h
  have hk : k = 0 ∨ k = 1 ∨ k = 2 ∨ k = 3 ∨ k = 4 ∨ k = 5 ∨ k = 6 ∨ k = 7 ∨ k = 8 ∨ k = 9 ∨ k = 10 ∨ k = 11 := by omega
  rcases hk with rfl | rfl | rfl | rfl | rfl | rfl | rfl | rfl | rfl | rfl | rfl | rfl <;> (show (_ : Result _) = _; kernel_rfl)
theorem size_int (w : World) : (sizeOf 3).run Tryd.prog w = .ok 1 w := by
  show (_ : Result _) = _
  kernel_rfl
theorem eq12 {x y : List Int} (hx : x.length = 12) (hy : y.length = 12) (d : Nat) (w : World) : (Op.equalIn (d + 2) 102 (.agg (x.map vi).toArray) (.agg (y.map vi).toArray)).run Tryd.prog w = .ok (decide (x = y)) w := by
  unfold Op.equalIn
  simp only [Sem.run_bind, run_underlying Tryd.underlying102, Result.andThen_ok, size_int]
  simp only [Std.Legacy.Range.forIn_eq_forIn_range', Std.Legacy.Range.size, Nat.sub_zero, Nat.add_one_sub_one, Nat.div_one]
  have key : ∀ (is : List Nat) (w : World), (∀ i ∈ is, i < 12) → ((forIn is ((none : Option Bool), ()) fun i __s => do
            let a ← part 3 (List.map vi x).toArray (i * 1)
            let b ← part 3 (List.map vi y).toArray (i * 1)
            let c ← Op.equalIn (d + 1) 3 a b
            if (!c) = true then pure (ForInStep.done (some false, ())) else pure (ForInStep.yield ((none : Option Bool), ())) : Sem (Option Bool × Unit)).run Tryd.prog w) = .ok (if is.all (fun i => x[i]?.getD 0 == y[i]?.getD 0) then (none, ()) else (some false, ())) w := by
    intro is
    induction is with
    | nil => intro w _; simp
    | cons i is ih =>
      intro w hi
      have h1 := hi i (by simp)
      simp only [List.forIn_cons, Sem.run_bind, part12 hx i h1, part12 hy i h1, Result.andThen_ok, run_equalIn_int _ _ _ _ _ _ _ Tryd.underlying3]
      by_cases e : x[i]?.getD 0 = y[i]?.getD 0
      · have := ih w (fun j hj => hi j (by simp [hj]))
        simpa [e] using this
      · simp [e]
  rw [key _ w (fun i hi => by simp [List.mem_range'] at hi; omega)]
  have hall : ((List.range' 0 12).all (fun i => x[i]?.getD 0 == y[i]?.getD 0)) = decide (x = y) := by
    rw [Bool.eq_iff_iff, List.all_eq_true, decide_eq_true_iff]
    constructor
    · intro h
      apply List.ext_getElem (by omega)
      intro i h1 h2
      have := h i (by simp [List.mem_range']; omega)
      simpa [h1, h2] using this
    · rintro rfl i _
      simp
  rw [hall]
  by_cases e : x = y
  · simp [e]
  · simp [e]
end Go.Proofs.YtomgnpfpaodpiaaDoor

/- Contract of floor.areTours: the walk. -/
namespace Go.Proofs.YtomgnpfpaodpiaaDoor
open Go Go.RowKit
set_option maxHeartbeats 2000000
def goodTour (f : Floor) (ts : List STour) (k : Nat) : Bool := match ts[k]? with | some t => tourB f t.lines | none => true
theorem all_tours (f : Floor) (ts : List STour) : ts.all (fun t => tourB f t.lines) = (List.range ts.length).all (goodTour f ts) := by
  rw [Bool.eq_iff_iff, List.all_eq_true, List.all_eq_true]
  constructor
  · intro h k hk
    have hk := List.mem_range.1 hk
    unfold goodTour
    rw [List.getElem?_eq_getElem hk]
    exact h _ (List.getElem_mem hk)
  · intro h t ht
    obtain ⟨k, hk, rfl⟩ := List.mem_iff_getElem.1 ht
    have := h k (List.mem_range.2 hk)
    unfold goodTour at this
    rwa [List.getElem?_eq_getElem hk] at this
theorem areTours_any (f : Floor) (n : Nat) (s : SSlip) (hs : f.slips[n]? = some s) (hfar : f.far.length ≤ 12) (hsl : linesB f.far.length s.lines = true) (A : Option Addr) (cap : Nat) (ts : List STour) (w : World) (hl : Lim w) (h : FloorAt w w.heap.size f) (ht : ToursAt w w.heap.size A cap ts) :
    Calls Tryd.prog 53 #[f.val, vi n, .slice A ts.length cap] w fun e w' => e = .returned (.bool (toursB f (piecesF s.lines) ts)) ∧ Below w.heap.size w w' := by
  have htl := ht.rows.lens
  have hsll := h.slips.lens
  have HL := Lib.hid hl
  have HF := Lib.hid h
  have HT := Lib.hid ht
  obtain ⟨p, hp⟩ : ∃ p, piecesF s.lines = p := ⟨_, rfl⟩
  obtain ⟨hok, htw⟩ := lines_good (by omega) hsl
  rw [hp] at htw ⊢
  have PO := Lib.hid (fun (A : Option Addr) (cap : Nat) (W : World) hW => piecesOf_is hp hok A cap W hW)
  have HX : Hid (∀ (k : Nat) (t : STour), ts[k]? = some t → goodTour f ts k = true → (∀ j, j < k → goodTour f ts j = true) → ∃ q, piecesF t.lines = q ∧ LinesOk t.lines ∧ q.length = 12 ∧ (∀ x ∈ q, -1000000 ≤ x ∧ x ≤ 1000000) ∧ (leftK p ts k).length = 12 ∧ (∀ x ∈ leftK p ts k, -1152921504606846976 ≤ x ∧ x ≤ 1152921504606846976) ∧ (leftK p ts (k + 1)).length = 12 ∧ withoutF (leftK p ts k) q = leftK p ts (k + 1)) := fun k t hk hg hj => by
    have good : ∀ (j : Nat) (t : STour), goodTour f ts j = true → ts[j]? = some t → LinesOk t.lines ∧ Twelve 12000 (piecesF t.lines) := fun j t hg hj => by
      unfold goodTour at hg
      rw [hj] at hg
      simp only [tourB, Bool.and_eq_true] at hg
      exact lines_good (by omega) hg.1
    have hlt := (List.getElem?_eq_some_iff.1 hk).1
    obtain ⟨g1, g2⟩ := good k t hg hk
    obtain ⟨i1, i2⟩ := leftK_ok htw k (by omega) (fun j t hjk ht => (good j t (hj j hjk) ht).2)
    refine ⟨_, rfl, g1, g2.len, fun x hx => ?_, i1, fun x hx => ?_, ?_, (leftK_succ hk).symm⟩
    · have := g2.pos x hx; have := g2.top x hx; omega
    · have := i2 x hx; omega
    · rw [leftK_succ hk]; exact withoutF_len i1 g2.len
  have HG : Hid (∀ (k : Nat) (t : STour), ts[k]? = some t → goodTour f ts k = tourB f t.lines) := fun k t hk => by unfold goodTour; rw [hk]
  have TO := Lib.hid (fun (t : STour) (b : Bool) (hb : tourB f t.lines = b) (W : World) hL hW => tour_is hb t.ad t.cap (by omega : f.far.length ≤ 35184372088832) W hL hW)
  obtain ⟨an, han⟩ : ∃ an, an = toursB f p ts := ⟨_, rfl⟩
  have HVB : toursB f p ts = ((List.range ts.length).all (goodTour f ts) && decide (leftK p ts ts.length = [0, 0, 0, 0, 0, 0, 0, 0, 0, 0, 0, 0])) := by unfold toursB; rw [all_tours]
  have FIN : Hid ((∀ j, j < ts.length → goodTour f ts j = true) → an = decide (leftK p ts ts.length = [0, 0, 0, 0, 0, 0, 0, 0, 0, 0, 0, 0])) := fun hj => by
    rw [han, HVB, List.all_eq_true.2 (fun k hk => hj k (List.mem_range.1 hk)), Bool.true_and]
  have BAD : Hid (∀ k, k < ts.length → goodTour f ts k = false → an = false) := fun k hk hg => by
    have : (List.range ts.length).all (goodTour f ts) = false := by
      rw [Bool.eq_false_iff]
      intro ha
      have := List.all_eq_true.1 ha k (List.mem_range.2 hk)
      rw [hg] at this
      cases this
    rw [han, HVB, this, Bool.false_and]
  have HP0 : Hid (leftK p ts 0 = p) := rfl
  rw [← han]
  clear HVB han
  obtain ⟨S, hS⟩ : ∃ S, S = leftK p ts := ⟨_, rfl⟩
  obtain ⟨gs, hgs⟩ : ∃ gs, gs = goodTour f ts := ⟨_, rfl⟩
  rw [← hS] at HX HP0 FIN
  rw [← hgs] at HX HG FIN BAD
  clear hS hgs hl h ht hsl hok hp
  obtain ⟨n0, n1, n2, n3, n4, n5, n6, n7, n8, n9, n10, n11, hpp⟩ := spread htw.len
  rw [hpp] at HP0 PO
  clear hpp htw
  obtain ⟨bs, os, hsA, hbs, s0, s1⟩ := row2 HF.out.slips.row hs rfl
  have HSL := Lib.hid (HF.out.each s (List.mem_of_getElem? hs))
  have hnl : (n : Int) < f.slips.length := by have := (List.getElem?_eq_some_iff.1 hs).1; omega
  have h0n : (0 : Int) ≤ n := by omega
  have zbs : bs < w.heap.size := cell_lt s0
  clear hs
  obtain ⟨sa, sc, sl, till⟩ := s
  simp only at PO HSL
  replace s0 : w.cell? ⟨bs, os + n * 2, none⟩ = some (.slice sa sl.length sc) := s0
  obtain ⟨fA, fC, ff, slo, shi, pA, pC, fp, fc, sA, sC, fs⟩ := f
  simp only at hsll hnl hsA hfar
  subst hsA
  show Calls Tryd.prog 53 #[.agg #[.slice fA ff.length fC, vi slo, vi shi, .slice pA fp.length pC, vi fc, .slice (some ⟨bs, os, none⟩) fs.length sC], vi n, .slice A ts.length cap] w fun e w' => e = .returned (.bool an) ∧ Below w.heap.size w w'
  go_enter Tryd.func53, Tryd.ntmps53
  go_wp2_with fail
  refine (PO.out sa sc _ (HSL.out.to (by (repeat (first | exact Below.refl _ _ | refine Below.setCell ?_ (by first | omega | (simp; omega) | (simp; done)) _ | refine Below.alloc ?_ (by first | omega | (simp; omega) | (simp; done)) _ | refine Below.drew ?_ | refine below_drewN ?_ _ | refine Below.trans ?_ (Below.mono (by assumption) (by first | omega | (simp; omega) | (simp; done)))))))).mono ?_
  rintro e W ⟨rfl, hb⟩
  have HB0 : Below w.heap.size w W := by (repeat (first | exact Below.refl _ _ | refine Below.setCell ?_ (by first | omega | (simp; omega) | (simp; done)) _ | refine Below.alloc ?_ (by first | omega | (simp; omega) | (simp; done)) _ | refine Below.drew ?_ | refine below_drewN ?_ _ | refine Below.trans ?_ (Below.mono (by assumption) (by first | omega | (simp; omega) | (simp; done)))))
  have a0 : W.cell? ⟨w.heap.size, 0, none⟩ = some (.slice fA ff.length fC) := cell_keep hb (by simp [go_sem])
  have a1 : W.cell? ⟨w.heap.size, 1, none⟩ = some (vi slo) := cell_keep hb (by simp [go_sem])
  have a2 : W.cell? ⟨w.heap.size, 2, none⟩ = some (vi shi) := cell_keep hb (by simp [go_sem])
  have a3 : W.cell? ⟨w.heap.size, 3, none⟩ = some (.slice pA fp.length pC) := cell_keep hb (by simp [go_sem])
  have a4 : W.cell? ⟨w.heap.size, 4, none⟩ = some (vi fc) := cell_keep hb (by simp [go_sem])
  have a5 : W.cell? ⟨w.heap.size, 5, none⟩ = some (.slice (some ⟨bs, os, none⟩) fs.length sC) := cell_keep hb (by simp [go_sem])
  have za := cell_lt a0
  clear hb s0 s1
  go_wp2_with fail
  go_loopw [9, 20] (fun x i wr => ∃ k : Nat, k ≤ ts.length ∧ i = .int .i64 k ∧ Below W.heap.size W wr ∧ ArrAt wr W.heap.size (S k) ∧ Hid (∀ j, j < k → gs j = true)) (fun _ i _ => ts.length - (intOf i).toNat)
  case atStart =>
    refine ⟨0, Nat.zero_le _, rfl, by (repeat (first | exact Below.refl _ _ | refine Below.setCell ?_ (by first | omega | (simp; omega) | (simp; done)) _ | refine Below.alloc ?_ (by first | omega | (simp; omega) | (simp; done)) _ | refine Below.drew ?_ | refine below_drewN ?_ _ | refine Below.trans ?_ (Below.mono (by assumption) (by first | omega | (simp; omega) | (simp; done))))), ?_, fun j hj => absurd hj (by omega)⟩
    rw [HP0.out]
    exact arr_new (by simp [go_sem]) (by simp [go_sem])
  obtain ⟨k, hk, rfl, hB, hX, HJ⟩ := hrel
  have HBr : Below w.heap.size w wr := HB0.trans (hB.mono HB0.size)
  have hz := hX.lt
  by_cases hlt : k < ts.length
  · obtain ⟨t, ht⟩ : ∃ t, ts[k]? = some t := ⟨_, List.getElem?_eq_getElem hlt⟩
    have hTr := HT.out.to HBr
    obtain ⟨bb, off, rfl, hbb, x0⟩ := row1 hTr.rows.row ht rfl
    have HTL := Lib.hid (hTr.each t (List.mem_of_getElem? ht))
    have zbb : bb < wr.heap.size := cell_lt x0
    have a0r := cell_keep hB a0
    have a1r := cell_keep hB a1
    have a2r := cell_keep hB a2
    have a3r := cell_keep hB a3
    have a4r := cell_keep hB a4
    have a5r := cell_keep hB a5
    have zar := cell_lt a0r
    have hkI : (k : Int) < ts.length := by omega
    have h0k : (0 : Int) ≤ k := by omega
    have TO1 := Lib.hid (fun (b : Bool) hb => TO.out t b hb)
    have G1 := HG.out k t ht
    have HX1 := Lib.hid (HX.out k t ht)
    have HXX := Lib.hid hX
    clear ht hTr hX TO HG HX
    obtain ⟨tA, tC, tl⟩ := t
    simp only at TO1 G1 HX1 HTL
    replace x0 : wr.cell? ⟨bb, off + k, none⟩ = some (.slice tA tl.length tC) := x0
    rcases hg : gs k with _ | _
    · have E : Hid (an = false) := BAD.out k hlt hg
      have TO2 := Lib.hid (TO1.out false (by rw [← G1]; exact hg))
      clear G1 hg HX1 TO1
      go_wp2_with fail
      refine (TO2.out _ (HL.out.next (by (repeat (first | exact Below.refl _ _ | refine Below.setCell ?_ (by first | omega | (simp; omega) | (simp; done)) _ | refine Below.alloc ?_ (by first | omega | (simp; omega) | (simp; done)) _ | refine Below.drew ?_ | refine below_drewN ?_ _ | refine Below.trans ?_ (Below.mono (by assumption) (by first | omega | (simp; omega) | (simp; done))))))) (HTL.out.to (by (repeat (first | exact Below.refl _ _ | refine Below.setCell ?_ (by first | omega | (simp; omega) | (simp; done)) _ | refine Below.alloc ?_ (by first | omega | (simp; omega) | (simp; done)) _ | refine Below.drew ?_ | refine below_drewN ?_ _ | refine Below.trans ?_ (Below.mono (by assumption) (by first | omega | (simp; omega) | (simp; done)))))))).mono ?_
      rintro e W3 ⟨rfl, hb3⟩
      go_wp2_with fail
      go_ret
      exact ⟨retB E.out.symm, HBr.trans (hb3.mono HBr.size)⟩
    · have TO2 := Lib.hid (TO1.out true (by rw [← G1]; exact hg))
      obtain ⟨q, hq, qok, ql, qb, sl12, sb, sl13, hw⟩ := HX1.out hg HJ.out
      have HJ2 : Hid (∀ j, j < k + 1 → gs j = true) := upto_succ HJ.out hg
      have PQ := Lib.hid (fun (A : Option Addr) (cap : Nat) (W : World) hW => piecesOf_is hq qok A cap W hW)
      have WO := Lib.hid (fun (W : World) => without_is hw sl12 ql sb qb W)
      obtain ⟨m0, m1, m2, m3, m4, m5, m6, m7, m8, m9, m10, m11, rfl⟩ := spread ql
      obtain ⟨r0, r1, r2, r3, r4, r5, r6, r7, r8, r9, r10, r11, hr⟩ := spread sl12
      obtain ⟨d0, d1, d2, d3, d4, d5, d6, d7, d8, d9, d10, d11, hd⟩ := spread sl13
      have HD := Lib.hid hd
      have HXR : Hid (ArrAt wr W.heap.size [r0, r1, r2, r3, r4, r5, r6, r7, r8, r9, r10, r11]) := by unfold Hid; rw [← hr]; exact HXX.out
      rw [hr, hd] at WO
      clear G1 hg HX1 TO1 hq qok ql qb sl12 sb sl13 hw hr hd HXX
      go_wp2_with fail
      refine (TO2.out _ (HL.out.next (by (repeat (first | exact Below.refl _ _ | refine Below.setCell ?_ (by first | omega | (simp; omega) | (simp; done)) _ | refine Below.alloc ?_ (by first | omega | (simp; omega) | (simp; done)) _ | refine Below.drew ?_ | refine below_drewN ?_ _ | refine Below.trans ?_ (Below.mono (by assumption) (by first | omega | (simp; omega) | (simp; done))))))) (HTL.out.to (by (repeat (first | exact Below.refl _ _ | refine Below.setCell ?_ (by first | omega | (simp; omega) | (simp; done)) _ | refine Below.alloc ?_ (by first | omega | (simp; omega) | (simp; done)) _ | refine Below.drew ?_ | refine below_drewN ?_ _ | refine Below.trans ?_ (Below.mono (by assumption) (by first | omega | (simp; omega) | (simp; done)))))))).mono ?_
      rintro e W3 ⟨rfl, hb3⟩
      have HX3 := Lib.hid (HXR.out.keep hb3)
      have HTL3 := Lib.hid (HTL.out.to hb3)
      have HB3 : Below W.heap.size W W3 := hB.trans (hb3.mono (Nat.le_of_lt hz))
      have hz3 := HX3.out.lt
      clear hb3 x0 a0r a1r a2r a3r a4r a5r TO2
      obtain ⟨c0, c1, c2, c3, c4, c5, c6, c7, c8, c9, c10, c11⟩ := HX3.out.cells
      go_wp2_with fail
      go_region_with (first
        | (go_at_call 86; go_loud (refine (PQ.out tA tC _ (HTL3.out.to (by (repeat (first | exact Below.refl _ _ | refine Below.setCell ?_ (by first | omega | (simp; omega) | (simp; done)) _ | refine Below.alloc ?_ (by first | omega | (simp; omega) | (simp; done)) _ | refine Below.drew ?_ | refine below_drewN ?_ _ | refine Below.trans ?_ (Below.mono (by assumption) (by first | omega | (simp; omega) | (simp; done)))))))).mono ?_; rintro e wq ⟨rfl, hbq⟩; have HXq : Hid (ArrAt wq W.heap.size [r0, r1, r2, r3, r4, r5, r6, r7, r8, r9, r10, r11]) := (by unfold Hid; refine ArrAt.keep ?_ hbq; repeat (first | exact HX3.out | refine ArrAt.drew ?_ | refine ArrAt.alloc ?_ _)); have hzq := HXq.out.lt; have HBq : Below W3.heap.size W3 wq := (by (repeat (first | exact Below.refl _ _ | refine Below.setCell ?_ (by first | omega | (simp; omega) | (simp; done)) _ | refine Below.alloc ?_ (by first | omega | (simp; omega) | (simp; done)) _ | refine Below.drew ?_ | refine below_drewN ?_ _ | refine Below.trans ?_ (Below.mono (by assumption) (by first | omega | (simp; omega) | (simp; done)))))); obtain ⟨c0q, c1q, c2q, c3q, c4q, c5q, c6q, c7q, c8q, c9q, c10q, c11q⟩ := HXq.out.cells))
        | (go_at_call 88; go_loud (refine (WO.out _).mono ?_; rintro e wv ⟨rfl, hbv⟩; have HXv : Hid (ArrAt wv W.heap.size [r0, r1, r2, r3, r4, r5, r6, r7, r8, r9, r10, r11]) := (by unfold Hid; refine ArrAt.keep ?_ hbv; repeat (first | exact HXq.out | refine ArrAt.drew ?_ | refine ArrAt.alloc ?_ _)); have hzv := HXv.out.lt; have HBv : Below W3.heap.size W3 wv := gr_trans HBq (by (repeat (first | exact Below.refl _ _ | refine Below.setCell ?_ (by first | omega | (simp; omega) | (simp; done)) _ | refine Below.alloc ?_ (by first | omega | (simp; omega) | (simp; done)) _ | refine Below.drew ?_ | refine below_drewN ?_ _ | refine Below.trans ?_ (Below.mono (by assumption) (by first | omega | (simp; omega) | (simp; done)))))); obtain ⟨c0v, c1v, c2v, c3v, c4v, c5v, c6v, c7v, c8v, c9v, c10v, c11v⟩ := HXv.out.cells; obtain ⟨e0, e1, e2, e3, e4, e5, e6, e7, e8, e9, e10, e11⟩ := HXv.out.softs)))
      all_goals
        refine (?_ : ∀ W9 : World, ArrAt W9 W.heap.size [d0, d1, d2, d3, d4, d5, d6, d7, d8, d9, d10, d11] ∧ Below W.heap.size W W9 → Exit.inBlock _ _ _ _ W9) _ (HXv.out.setBoth (gr_trans HB3 HBv) (Nat.le_refl _) d0 d1 d2 d3 d4 d5 d6 d7 d8 d9 d10 d11)
      all_goals
        intro W9 ⟨Z9, B9⟩
        clear e0 e1 e2 e3 e4 e5 e6 e7 e8 e9 e10 e11 c0 c1 c2 c3 c4 c5 c6 c7 c8 c9 c10 c11
        clear c0q c1q c2q c3q c4q c5q c6q c7q c8q c9q c10q c11q c0v c1v c2v c3v c4v c5v c6v c7v c8v c9v c10v c11v
        go_wp2_with fail
        go_roundw
      all_goals first
        | exact ⟨k + 1, by omega, by go_num, B9, by rw [HD.out]; exact Z9, HJ2.out⟩
        | (simp [intOf]; omega)
  · obtain rfl : k = ts.length := by omega
    have E := FIN.out HJ.out
    have hXl := hX.len
    obtain ⟨r0, r1, r2, r3, r4, r5, r6, r7, r8, r9, r10, r11, hr⟩ := spread hXl
    rw [hr] at hX E
    have E := Lib.hid E
    obtain ⟨c0, c1, c2, c3, c4, c5, c6, c7, c8, c9, c10, c11⟩ := hX.cells
    clear hX hr hXl HX FIN BAD HP0 a0 a1 a2 a3 a4 a5
    have hgd : Tryd.prog.eqGuardType Tryd.prog.depth 102 = false := by kernel_rfl
    have heq : ∀ w : World, (binOp .eql 102 (.agg #[vi r0, vi r1, vi r2, vi r3, vi r4, vi r5, vi r6, vi r7, vi r8, vi r9, vi r10, vi r11]) (.agg #[vi 0, vi 0, vi 0, vi 0, vi 0, vi 0, vi 0, vi 0, vi 0, vi 0, vi 0, vi 0])).run Tryd.prog w = .ok (.bool (decide ([r0, r1, r2, r3, r4, r5, r6, r7, r8, r9, r10, r11] = [0, 0, 0, 0, 0, 0, 0, 0, 0, 0, 0, 0]))) w := fun w => by
      have := eq12 (x := [r0, r1, r2, r3, r4, r5, r6, r7, r8, r9, r10, r11]) (y := [0, 0, 0, 0, 0, 0, 0, 0, 0, 0, 0, 0]) rfl rfl 9998 w
      rw [run_eql_struct]
      change Result.andThen ((Op.equalIn (9998 + 2) 102 (.agg (List.map vi [r0, r1, r2, r3, r4, r5, r6, r7, r8, r9, r10, r11]).toArray) (.agg (List.map vi [0, 0, 0, 0, 0, 0, 0, 0, 0, 0, 0, 0]).toArray)).run Tryd.prog w) _ = _
      rw [this]
      rfl
    obtain ⟨eb, heb⟩ : ∃ eb, eb = decide ([r0, r1, r2, r3, r4, r5, r6, r7, r8, r9, r10, r11] = [0, 0, 0, 0, 0, 0, 0, 0, 0, 0, 0, 0]) := ⟨_, rfl⟩
    rw [← heb] at heq E
    go_wp2_with fail
    go_ret
    exact ⟨retB (by rw [E.out, heb]; simp [Bool.decide_and]), HBr⟩
end Go.Proofs.YtomgnpfpaodpiaaDoor

/- Contract of IsTours. -/
namespace Go.Proofs.YtomgnpfpaodpiaaDoor
open Go Go.RowKit
set_option maxHeartbeats 2000000
theorem valid_parts {f : Floor} (h : validB f = true) : 1 ≤ f.far.length ∧ f.far.length ≤ 12 ∧ f.picks.length = f.far.length ∧ (1 ≤ f.slo ∧ f.slo ≤ f.shi ∧ f.shi ≤ 10) ∧ (1 ≤ f.carry ∧ f.carry ≤ 20) ∧ f.slips.length ≤ 9 ∧ ∀ (k : Nat) (s : SSlip), f.slips[k]? = some s → (0 ≤ s.till ∧ s.till ≤ 100000) ∧ linesB f.far.length s.lines = true := by
  unfold validB shelvesB at h
  simp only [Bool.and_eq_true, List.all_eq_true, List.mem_range, hasB, withinB, decide_eq_true_eq] at h
  obtain ⟨⟨⟨⟨⟨⟨h1, h2⟩, -⟩, h3⟩, h4⟩, h5⟩, h6⟩ := h
  refine ⟨by omega, by omega, by omega, by omega, by omega, by omega, fun k s hk => ?_⟩
  have := h6 k (List.getElem?_eq_some_iff.1 hk).1
  rw [goodSlip_of hk] at this
  simp only [hasB, Bool.and_eq_true, decide_eq_true_eq] at this
  exact this
def isToursV (f : Floor) (n : Int) (ts : List STour) : Bool := if checkSlipV f n = 0 then (match f.slips[n.toNat]? with | some s => toursB f (piecesF s.lines) ts | none => false) else false
theorem check_cases (f : Floor) (n : Int) : (checkSlipV f n = 30 ∨ checkSlipV f n = 31) ∨ (checkSlipV f n = 0 ∧ validB f = true ∧ ∃ (k : Nat) (s : SSlip), n = k ∧ f.slips[k]? = some s) := by
  unfold checkSlipV
  cases hv : validB f with
  | false => exact .inl (.inl rfl)
  | true =>
    cases hs : slipB f n with
    | false => exact .inl (.inr rfl)
    | true =>
      unfold slipB at hs
      simp only [Bool.and_eq_true, decide_eq_true_eq] at hs
      have : n.toNat < f.slips.length := by omega
      exact .inr ⟨rfl, rfl, n.toNat, f.slips[n.toNat], by omega, List.getElem?_eq_getElem this⟩
theorem areTours_is {f : Floor} {n : Nat} {s : SSlip} {ts : List STour} {b : Bool} (hb : toursB f (piecesF s.lines) ts = b) (hs : f.slips[n]? = some s) (hfar : f.far.length ≤ 12) (hsl : linesB f.far.length s.lines = true) (A : Option Addr) (cap : Nat) (w : World) (hl : Lim w) (h : FloorAt w w.heap.size f) (ht : ToursAt w w.heap.size A cap ts) :
    Calls Tryd.prog 53 #[f.val, vi n, .slice A ts.length cap] w fun e w' => e = .returned (.bool b) ∧ Below w.heap.size w w' := by
  subst hb
  exact areTours_any f n s hs hfar hsl A cap ts w hl h ht
theorem IsTours_any (f : Floor) (n : Int) (A : Option Addr) (cap : Nat) (ts : List STour) (w : World) (hl : Lim w) (h : FloorAt w w.heap.size f) (ht : ToursAt w w.heap.size A cap ts) :
    Calls Tryd.prog 14 #[f.val, vi n, .slice A ts.length cap] w fun e w' => e = .returned (.tuple #[.bool (isToursV f n ts), vi (checkSlipV f n)]) ∧ Below w.heap.size w w' := by
  have HL := Lib.hid hl
  have HF := Lib.hid h
  have HT := Lib.hid ht
  rcases check_cases f n with hc | ⟨hc, hv, k, s, rfl, hs⟩
  · obtain ⟨ec, hec⟩ : ∃ ec, checkSlipV f n = ec := ⟨_, rfl⟩
    have hne : ec ≠ 0 := by omega
    have hned : decide (ec = 0) = false := by simpa using hne
    have E : Hid (isToursV f n ts = false) := by unfold Hid isToursV; rw [if_neg (by omega)]
    have CH := Lib.hid (fun (W : World) hL hW => checkSlip_is hec W hL hW)
    obtain ⟨an, han⟩ : ∃ an, an = isToursV f n ts := ⟨_, rfl⟩
    rw [← han] at E ⊢
    rw [hec]
    clear h hl ht hc han hec
    obtain ⟨fA, fC, ff, slo, shi, pA, pC, fp, fc, sA, sC, fs⟩ := f
    show Calls Tryd.prog 14 #[.agg #[.slice fA ff.length fC, vi slo, vi shi, .slice pA fp.length pC, vi fc, .slice sA fs.length sC], vi n, .slice A ts.length cap] w _
    go_enter Tryd.func14, Tryd.ntmps14
    go_wp2_with fail
    refine (CH.out _ (HL.out.next (by (repeat (first | exact Below.refl _ _ | refine Below.setCell ?_ (by first | omega | (simp; omega) | (simp; done)) _ | refine Below.alloc ?_ (by first | omega | (simp; omega) | (simp; done)) _ | refine Below.drew ?_ | refine below_drewN ?_ _ | refine Below.trans ?_ (Below.mono (by assumption) (by first | omega | (simp; omega) | (simp; done))))))) (HF.out.to (by (repeat (first | exact Below.refl _ _ | refine Below.setCell ?_ (by first | omega | (simp; omega) | (simp; done)) _ | refine Below.alloc ?_ (by first | omega | (simp; omega) | (simp; done)) _ | refine Below.drew ?_ | refine below_drewN ?_ _ | refine Below.trans ?_ (Below.mono (by assumption) (by first | omega | (simp; omega) | (simp; done)))))))).mono ?_
    rintro e W ⟨rfl, hb⟩
    have HB0 : Below w.heap.size w W := by (repeat (first | exact Below.refl _ _ | refine Below.setCell ?_ (by first | omega | (simp; omega) | (simp; done)) _ | refine Below.alloc ?_ (by first | omega | (simp; omega) | (simp; done)) _ | refine Below.drew ?_ | refine below_drewN ?_ _ | refine Below.trans ?_ (Below.mono (by assumption) (by first | omega | (simp; omega) | (simp; done)))))
    clear hb
    go_wp2_with fail
    go_ret2
    exact ⟨by rw [E.out]; rfl, HB0⟩
  · obtain ⟨p1, p2, -, -, -, -, p7⟩ := valid_parts hv
    have hsl := (p7 k s hs).2
    have E : Hid (isToursV f k ts = toursB f (piecesF s.lines) ts) := by unfold Hid isToursV; rw [if_pos hc]; simp [hs]
    have CH := Lib.hid (fun (W : World) hL hW => checkSlip_is hc W hL hW)
    obtain ⟨an, han⟩ : ∃ an, an = toursB f (piecesF s.lines) ts := ⟨_, rfl⟩
    have AT := Lib.hid (fun (W : World) hL hW hT => areTours_is han.symm hs p2 hsl A cap W hL hW hT)
    rw [hc, E.out, ← han]
    clear h hl ht hc han hs hsl p7 E hv
    obtain ⟨fA, fC, ff, slo, shi, pA, pC, fp, fc, sA, sC, fs⟩ := f
    show Calls Tryd.prog 14 #[.agg #[.slice fA ff.length fC, vi slo, vi shi, .slice pA fp.length pC, vi fc, .slice sA fs.length sC], vi k, .slice A ts.length cap] w _
    go_enter Tryd.func14, Tryd.ntmps14
    go_wp2_with fail
    refine (CH.out _ (HL.out.next (by (repeat (first | exact Below.refl _ _ | refine Below.setCell ?_ (by first | omega | (simp; omega) | (simp; done)) _ | refine Below.alloc ?_ (by first | omega | (simp; omega) | (simp; done)) _ | refine Below.drew ?_ | refine below_drewN ?_ _ | refine Below.trans ?_ (Below.mono (by assumption) (by first | omega | (simp; omega) | (simp; done))))))) (HF.out.to (by (repeat (first | exact Below.refl _ _ | refine Below.setCell ?_ (by first | omega | (simp; omega) | (simp; done)) _ | refine Below.alloc ?_ (by first | omega | (simp; omega) | (simp; done)) _ | refine Below.drew ?_ | refine below_drewN ?_ _ | refine Below.trans ?_ (Below.mono (by assumption) (by first | omega | (simp; omega) | (simp; done)))))))).mono ?_
    rintro e W ⟨rfl, hb⟩
    have HB0 : Below w.heap.size w W := by (repeat (first | exact Below.refl _ _ | refine Below.setCell ?_ (by first | omega | (simp; omega) | (simp; done)) _ | refine Below.alloc ?_ (by first | omega | (simp; omega) | (simp; done)) _ | refine Below.drew ?_ | refine below_drewN ?_ _ | refine Below.trans ?_ (Below.mono (by assumption) (by first | omega | (simp; omega) | (simp; done)))))
    have a0 : W.cell? ⟨w.heap.size, 0, none⟩ = some (.slice fA ff.length fC) := cell_keep hb (by simp [go_sem])
    have a1 : W.cell? ⟨w.heap.size, 1, none⟩ = some (vi slo) := cell_keep hb (by simp [go_sem])
    have a2 : W.cell? ⟨w.heap.size, 2, none⟩ = some (vi shi) := cell_keep hb (by simp [go_sem])
    have a3 : W.cell? ⟨w.heap.size, 3, none⟩ = some (.slice pA fp.length pC) := cell_keep hb (by simp [go_sem])
    have a4 : W.cell? ⟨w.heap.size, 4, none⟩ = some (vi fc) := cell_keep hb (by simp [go_sem])
    have a5 : W.cell? ⟨w.heap.size, 5, none⟩ = some (.slice sA fs.length sC) := cell_keep hb (by simp [go_sem])
    clear hb
    go_wp2_with fail
    refine (AT.out _ (HL.out.next HB0) (HF.out.to HB0) (HT.out.to HB0)).mono ?_
    rintro e W2 ⟨rfl, hb2⟩
    go_wp2_with fail
    go_ret2
    exact ⟨rfl, gr_trans HB0 hb2⟩
end Go.Proofs.YtomgnpfpaodpiaaDoor

/- Contract of floor.isRoster. -/
namespace Go.Proofs.YtomgnpfpaodpiaaDoor
open Go Go.RowKit
set_option maxHeartbeats 2000000
structure SRow where
  ad : Option Addr
  cap : Nat
  slips : List Int
abbrev SRow.slice (t : SRow) : Value := .slice t.ad t.slips.length t.cap
def SRow.cells (t : SRow) : List Value := [t.slice]
structure RosterAt (w : World) (B : Nat) (A : Option Addr) (cap : Nat) (ts : List SRow) : Prop where
  rows : RowsAt w B 1 A cap (ts.map SRow.cells)
  each : ∀ t ∈ ts, IntsAt w B t.ad t.cap t.slips
theorem RosterAt.to {w w' : World} {A : Option Addr} {cap : Nat} {ts : List SRow} (h : RosterAt w w.heap.size A cap ts) (hb : Below w.heap.size w w') : RosterAt w' w'.heap.size A cap ts := ⟨h.rows.to hb, fun t ht => (h.each t ht).to hb⟩
def stepR (f : Floor) (o : Option Nat) (n : Int) : Option Nat := match o with | none => none | some m => if slipB f n && !(m.testBit n.toNat) then some (m ||| 2 ^ n.toNat) else none
theorem step_none (f : Floor) : ∀ l : List Int, l.foldl (stepR f) none = none
  | [] => rfl
  | _ :: l => step_none f l
def rowsR (f : Floor) (o : Option Nat) (ts : List SRow) : Option Nat := ts.foldl (fun o t => t.slips.foldl (stepR f) o) o
theorem rows_none (f : Floor) : ∀ ts : List SRow, rowsR f none ts = none
  | [] => rfl
  | t :: ts => by
    unfold rowsR
    rw [List.foldl_cons, step_none]
    exact rows_none f ts
def rosterB (f : Floor) (ts : List SRow) : Bool := hasB 1 5 ts.length && (rowsR f (some 0) ts == some (2 ^ f.slips.length - 1))
theorem rows_succ {f : Floor} {ts : List SRow} {k : Nat} {t : SRow} (h : ts[k]? = some t) : rowsR f (some 0) (ts.take (k + 1)) = t.slips.foldl (stepR f) (rowsR f (some 0) (ts.take k)) := by
  obtain ⟨hk, rfl⟩ := List.getElem?_eq_some_iff.1 h
  unfold rowsR
  rw [List.take_succ_eq_append_getElem hk, List.foldl_append]
  rfl
theorem rows_rest {f : Floor} {ts : List SRow} {k : Nat} (hk : rowsR f (some 0) (ts.take k) = none) : rowsR f (some 0) ts = none := by
  have e : rowsR f (some 0) (ts.take k ++ ts.drop k) = rowsR f (rowsR f (some 0) (ts.take k)) (ts.drop k) := by unfold rowsR; rw [List.foldl_append]
  rw [List.take_append_drop, hk, rows_none] at e
  exact e
theorem step_succ {f : Floor} {l : List Int} {j : Nat} {x : Int} (o : Option Nat) (h : l[j]? = some x) : (l.take (j + 1)).foldl (stepR f) o = stepR f ((l.take j).foldl (stepR f) o) x := by
  obtain ⟨hj, rfl⟩ := List.getElem?_eq_some_iff.1 h
  rw [List.take_succ_eq_append_getElem hj, List.foldl_append]
  rfl
theorem step_rest {f : Floor} {l : List Int} {j : Nat} {o : Option Nat} (hj : (l.take j).foldl (stepR f) o = none) : l.foldl (stepR f) o = none := by
  have e : (l.take j ++ l.drop j).foldl (stepR f) o = (l.drop j).foldl (stepR f) ((l.take j).foldl (stepR f) o) := by rw [List.foldl_append]
  rw [List.take_append_drop, hj, step_none] at e
  exact e
theorem all_is {f : Floor} {a : Int} (ha : ((2 ^ f.slips.length - 1 : Nat) : Int) = a) (hs : f.slips.length ≤ 9) (w : World) :
    Calls Tryd.prog 71 #[f.val] w fun e w' => e = .returned (vi a) ∧ Below w.heap.size w w' := by
  subst ha
  exact all_any f hs w
theorem isRoster_any (f : Floor) (hf9 : f.slips.length ≤ 9) (A : Option Addr) (cap : Nat) (ts : List SRow) (w : World) (hl : Lim w) (ht : RosterAt w w.heap.size A cap ts) :
    Calls Tryd.prog 65 #[f.val, .slice A ts.length cap] w fun e w' => e = .returned (.bool (rosterB f ts)) ∧ Below w.heap.size w w' := by
  have htl := ht.rows.lens
  have HL := Lib.hid hl
  have HT := Lib.hid ht
  obtain ⟨r0, r1⟩ := hl.row 9 (by omega) (a := 1) (b := 5) (by decide) (by decide)
  have hp := hl.pos
  have HF9 := Lib.hid hf9
  obtain ⟨an, han⟩ : ∃ an, an = rosterB f ts := ⟨_, rfl⟩
  rcases h1 : hasB 1 5 ts.length with _ | _
  · have E : Hid (an = false) := by unfold Hid; rw [han, rosterB, h1]; rfl
    have H1 := Lib.hid h1
    rw [← han]
    clear h1 han ht hl hf9
    obtain ⟨fA, fC, ff, slo, shi, pA, pC, fp, fc, sA, sC, fs⟩ := f
    show Calls Tryd.prog 65 #[.agg #[.slice fA ff.length fC, vi slo, vi shi, .slice pA fp.length pC, vi fc, .slice sA fs.length sC], .slice A ts.length cap] w _
    go_enter Tryd.func65, Tryd.ntmps65
    go_wp2_with (go_at_call 73; refine (has_is H1.out _).mono ?_; rintro e w1 ⟨rfl, hb1⟩; obtain ⟨⟨hc1, hf1, hs1⟩, hz1⟩ := after hb1; (try simp only [World.size_alloc, World.size_setCell, World.size_drew] at hz1))
    go_ret
    refine ⟨retB E.out.symm, ?_⟩
    (repeat (first | exact Below.refl _ _ | refine Below.setCell ?_ (by first | omega | (simp; omega) | (simp; done)) _ | refine Below.alloc ?_ (by first | omega | (simp; omega) | (simp; done)) _ | refine Below.drew ?_ | refine below_drewN ?_ _ | refine Below.trans ?_ (Below.mono (by assumption) (by first | omega | (simp; omega) | (simp; done)))))
  have H1 := Lib.hid h1
  have BAD : Hid (∀ k, rowsR f (some 0) (ts.take k) = none → an = false) := fun k hk => by
    rw [han, rosterB, rows_rest hk, h1]; rfl
  have HX : Hid (∀ (k : Nat) (t : SRow), ts[k]? = some t → rowsR f (some 0) (ts.take (k + 1)) = t.slips.foldl (stepR f) (rowsR f (some 0) (ts.take k))) := fun k t hk => rows_succ hk
  have AL := Lib.hid (fun (a : Int) ha => all_is (f := f) (a := a) ha hf9)
  have FIN : Hid (∀ m : Nat, rowsR f (some 0) (ts.take ts.length) = some m → an = (((m : Int)) == ((2 ^ f.slips.length - 1 : Nat) : Int))) := fun m hm => by
    rw [List.take_length] at hm
    rw [han, rosterB, h1, hm, Bool.true_and, Bool.eq_iff_iff]
    simp
    omega
  have SB := Lib.hid (fun (n : Int) (b : Bool) (hb : slipB f n = b) (W : World) => slip_is hb W (by omega : f.slips.length ≤ 35184372088832))
  have ST : Hid (∀ (m : Nat) (n : Int), stepR f (some m) n = if slipB f n && !(m.testBit n.toNat) then some (m ||| 2 ^ n.toNat) else none) := fun m n => rfl
  have SR : Hid (∀ n : Int, slipB f n = true → ∃ s : Nat, n = s ∧ s < 9) := fun n hn => by
    unfold slipB at hn
    simp only [Bool.and_eq_true, decide_eq_true_eq] at hn
    exact ⟨n.toNat, by omega, by omega⟩
  have H0 : Hid (rowsR f (some 0) (ts.take 0) = some 0) := rfl
  rw [← han]
  clear h1 han ht hl hf9
  obtain ⟨al, hal⟩ : ∃ al : Int, ((2 ^ f.slips.length - 1 : Nat) : Int) = al := ⟨_, rfl⟩
  have AL2 := Lib.hid (AL.out al hal)
  rw [hal] at FIN
  clear AL hal
  obtain ⟨st, hst⟩ : ∃ st, st = stepR f := ⟨_, rfl⟩
  obtain ⟨sb, hsb⟩ : ∃ sb, sb = slipB f := ⟨_, rfl⟩
  obtain ⟨G, hG⟩ : ∃ G, G = fun k => rowsR f (some 0) (ts.take k) := ⟨_, rfl⟩
  have eG : ∀ k, rowsR f (some 0) (ts.take k) = G k := fun k => by rw [hG]
  have SUC : Hid (∀ (l : List Int) (j : Nat) (x : Int) (o : Option Nat), l[j]? = some x → (l.take (j + 1)).foldl st o = st ((l.take j).foldl st o) x) := fun l j x o h => by rw [hst]; exact step_succ o h
  have RES : Hid (∀ (l : List Int) (j : Nat) (o : Option Nat), (l.take j).foldl st o = none → l.foldl st o = none) := fun l j o h => by rw [hst] at h ⊢; exact step_rest h
  simp only [eG] at BAD HX FIN H0
  rw [← hst] at HX ST
  rw [← hsb] at SB ST SR
  clear hst hsb hG eG
  obtain ⟨fA, fC, ff, slo, shi, pA, pC, fp, fc, sA, sC, fs⟩ := f
  show Calls Tryd.prog 65 #[.agg #[.slice fA ff.length fC, vi slo, vi shi, .slice pA fp.length pC, vi fc, .slice sA fs.length sC], .slice A ts.length cap] w _
  go_enter Tryd.func65, Tryd.ntmps65
  go_wp2_with fail
  refine (has_is H1.out _).mono ?_
  rintro e W ⟨rfl, hb⟩
  have HB0 : Below w.heap.size w W := by (repeat (first | exact Below.refl _ _ | refine Below.setCell ?_ (by first | omega | (simp; omega) | (simp; done)) _ | refine Below.alloc ?_ (by first | omega | (simp; omega) | (simp; done)) _ | refine Below.drew ?_ | refine below_drewN ?_ _ | refine Below.trans ?_ (Below.mono (by assumption) (by first | omega | (simp; omega) | (simp; done)))))
  have a0 : W.cell? ⟨w.heap.size, 0, none⟩ = some (.slice fA ff.length fC) := cell_keep hb (by simp [go_sem])
  have a1 : W.cell? ⟨w.heap.size, 1, none⟩ = some (vi slo) := cell_keep hb (by simp [go_sem])
  have a2 : W.cell? ⟨w.heap.size, 2, none⟩ = some (vi shi) := cell_keep hb (by simp [go_sem])
  have a3 : W.cell? ⟨w.heap.size, 3, none⟩ = some (.slice pA fp.length pC) := cell_keep hb (by simp [go_sem])
  have a4 : W.cell? ⟨w.heap.size, 4, none⟩ = some (vi fc) := cell_keep hb (by simp [go_sem])
  have a5 : W.cell? ⟨w.heap.size, 5, none⟩ = some (.slice sA fs.length sC) := cell_keep hb (by simp [go_sem])
  have za := cell_lt a0
  clear hb r0 r1 hp
  go_wp2_with fail
  go_loopw [5, 7, 9, 18, 24] (fun x v y i i2 wr => ∃ k m : Nat, k ≤ ts.length ∧ i = .int .i64 k ∧ Below W.heap.size W wr ∧ x = vi m ∧ m < 512 ∧ Hid (G k = some m)) (fun _ _ _ i _ _ => ts.length - (intOf i).toNat)
  case atStart => exact ⟨0, 0, Nat.zero_le _, rfl, Below.refl _ _, rfl, by omega, H0.out⟩
  obtain ⟨k, m, hk, rfl, hB, rfl, hm, HG⟩ := hrel
  have hz := hB.size
  have HBr : Below w.heap.size w wr := gr_trans HB0 hB
  obtain ⟨wo, hwo⟩ : ∃ wo, wo = wr := ⟨_, rfl⟩
  subst hwo
  have a0r := cell_keep hB a0
  have a1r := cell_keep hB a1
  have a2r := cell_keep hB a2
  have a3r := cell_keep hB a3
  have a4r := cell_keep hB a4
  have a5r := cell_keep hB a5
  have zar := cell_lt a0r
  by_cases hlt : k < ts.length
  · obtain ⟨t, ht⟩ : ∃ t, ts[k]? = some t := ⟨_, List.getElem?_eq_getElem hlt⟩
    have hTr := HT.out.to HBr
    obtain ⟨bb, off, rfl, hbb, x0⟩ := row1 hTr.rows.row ht rfl
    have HTL := Lib.hid (hTr.each t (List.mem_of_getElem? ht))
    have hln := HTL.out.lens
    have HXk := Lib.hid (HX.out k t ht)
    have zbb : bb < wo.heap.size := cell_lt x0
    have hkI : (k : Int) < ts.length := by omega
    have h0k : (0 : Int) ≤ k := by omega
    clear ht hTr
    obtain ⟨tA, tC, tl⟩ := t
    simp only at HTL HXk hln
    replace x0 : wo.cell? ⟨bb, off + k, none⟩ = some (.slice tA tl.length tC) := x0
    go_wp2_with fail
    go_loopw [5, 9, 24] (fun x y i w2 => ∃ j m2 : Nat, j ≤ tl.length ∧ i = .int .i64 j ∧ Below wo.heap.size wo w2 ∧ x = vi m2 ∧ m2 < 512 ∧ Hid ((tl.take j).foldl st (some m) = some m2)) (fun _ _ i _ => tl.length - (intOf i).toNat)
    case atStart => exact ⟨0, m, Nat.zero_le _, rfl, Below.refl _ _, rfl, hm, rfl⟩
    obtain ⟨j, m2, hj, rfl, hB2, rfl, hm2, HJ⟩ := hrel
    have hz2 := hB2.size
    have HBW : Below W.heap.size W wr := gr_trans hB hB2
    have HBw : Below w.heap.size w wr := gr_trans HB0 HBW
    by_cases hjl : j < tl.length
    · obtain ⟨x, hx⟩ : ∃ x, tl[j]? = some x := ⟨_, List.getElem?_eq_getElem hjl⟩
      obtain ⟨bc, oc, rfl, hbc, y0⟩ := ints_at (HTL.out.to hB2) hx
      have SX := SUC.out tl j x (some m) hx
      rw [HJ.out, ST.out m2 x] at SX
      have SXX := Lib.hid SX
      have hjI : (j : Int) < tl.length := by omega
      have h0j : (0 : Int) ≤ j := by omega
      have zbc : bc < wr.heap.size := cell_lt y0
      have b0 := cell_keep hB2 a0r
      have b1 := cell_keep hB2 a1r
      have b2 := cell_keep hB2 a2r
      have b3 := cell_keep hB2 a3r
      have b4 := cell_keep hB2 a4r
      have b5 := cell_keep hB2 a5r
      have zb := cell_lt b0
      have NONE : Hid ((tl.take (j + 1)).foldl st (some m) = none → an = false) := fun h => BAD.out (k + 1) (by rw [HXk.out, HG.out]; exact RES.out tl (j + 1) (some m) h)
      clear hx SX a0r a1r a2r a3r a4r a5r x0
      rcases hs : sb x with _ | _
      · have E : Hid (an = false) := NONE.out (by rw [SXX.out, hs]; rfl)
        have SB1 := Lib.hid (SB.out x false hs)
        clear hs
        go_wp2_with fail
        refine (SB1.out _).mono ?_
        rintro e W3 ⟨rfl, hb3⟩
        go_wp2_with fail
        go_ret
        exact ⟨retB E.out.symm, gr_trans HBw hb3⟩
      · have SB1 := Lib.hid (SB.out x true hs)
        obtain ⟨s, rfl, s9⟩ := SR.out x hs
        have HSX := Lib.hid hs
        clear hs
        rcases hb : m2.testBit s with _ | _
        · have HH := Lib.hid (setHas_is hb hm2 s9)
          have HW := Lib.hid (setWith_any m2 s hm2 s9)
          have NEXT : Hid ((tl.take (j + 1)).foldl st (some m) = some (m2 ||| 2 ^ s)) := by unfold Hid; rw [SXX.out, HSX.out]; simp [hb]
          have hlt2 : m2 ||| 2 ^ s < 512 := Nat.or_lt_two_pow (n := 9) (by omega) (Nat.pow_lt_pow_right (by omega) s9)
          obtain ⟨m3, hm3⟩ : ∃ m3, m3 = m2 ||| 2 ^ s := ⟨_, rfl⟩
          rw [← hm3] at HW NEXT hlt2
          clear hb hm3
          go_wp2_with fail
          refine (SB1.out _).mono ?_
          rintro e W3 ⟨rfl, hb3⟩
          go_wp2_with fail
          refine (HH.out _).mono ?_
          rintro e W4 ⟨rfl, hb4⟩
          go_wp2_with fail
          refine (HW.out _).mono ?_
          rintro e W5 ⟨rfl, hb5⟩
          go_wp2_with fail
          go_roundw
          case rel => exact ⟨j + 1, m3, by omega, by go_num, gr_trans (gr_trans (gr_trans hB2 hb3) hb4) hb5, rfl, hlt2, NEXT.out⟩
          case measure => simp [intOf]; omega
        · have HH := Lib.hid (setHas_is hb hm2 s9)
          have E : Hid (an = false) := NONE.out (by rw [SXX.out, HSX.out]; simp [hb])
          clear hb
          go_wp2_with fail
          refine (SB1.out _).mono ?_
          rintro e W3 ⟨rfl, hb3⟩
          go_wp2_with fail
          refine (HH.out _).mono ?_
          rintro e W4 ⟨rfl, hb4⟩
          go_wp2_with fail
          go_ret
          exact ⟨retB E.out.symm, gr_trans (gr_trans HBw hb3) hb4⟩
    · obtain rfl : j = tl.length := by omega
      have NEXT : Hid (G (k + 1) = some m2) := by unfold Hid; rw [HXk.out, HG.out, ← HJ.out, List.take_length]
      go_wp2_with fail
      go_roundw
      case rel => exact ⟨k + 1, m2, by omega, by go_num, HBW, rfl, hm2, NEXT.out⟩
      case measure => simp [intOf]; omega
  · obtain rfl : k = ts.length := by omega
    have E := Lib.hid (FIN.out m HG.out)
    go_wp2_with fail
    refine (AL2.out _).mono ?_
    rintro e W3 ⟨rfl, hb3⟩
    go_wp2_with fail
    go_ret
    exact ⟨retB E.out.symm, gr_trans HBr hb3⟩
end Go.Proofs.YtomgnpfpaodpiaaDoor

/- How a floor, tours, and lists of slips read as data. -/
namespace Go.Proofs.YtomgnpfpaodpiaaDoor
open Go Go.RowKit Go.Deep Go.ChangeShapes Go.WideShapes
set_option maxHeartbeats 1000000
instance : Inhabited SLine := ⟨⟨0, 0⟩⟩
instance : Inhabited SSlip := ⟨⟨none, 0, [], 0⟩⟩
instance : Inhabited STour := ⟨⟨none, 0, []⟩⟩
instance : Inhabited SRow := ⟨⟨none, 0, []⟩⟩
section
variable {H : Type} {enc : TypeId × Value → H} {w : World}
abbrev Rd (P : Program) (enc : TypeId × Value → H) (w : World) (n : Nat) (t : TypeId) (cs : List Value) : Option (DataW H × List MemPlace) := DataW.trod enc P w 0 (fun _ => true) true n t cs
theorem read_fields {t : TypeId} {L : List (TypeId × Nat)} (hu : Tryd.prog.underlying t = some (.struct (Tryd.prog.fieldsOf t))) (hL : ((Tryd.prog.fieldsOf t).toList.map fun f => (f.type, f.offset)) = L)
    {n : Nat} {cs : List Value} {y : DataW H × List MemPlace} (h : Rd Tryd.prog enc w n t cs = some y) (hy : Fair Tryd.prog t y.1) :
    cs.length = Tryd.prog.cellsOf t ∧ ∃ m, ∀ (i : Nat) (ty : TypeId) (off : Nat), L[i]? = some (ty, off) → ∃ z, Rd Tryd.prog enc w m ty ((cs.drop off).take (Tryd.prog.cellsOf ty)) = some z ∧ Fair Tryd.prog ty z.1 := by
  obtain ⟨xs, m, _, rfl, hl, hlen, hf⟩ := DataW.trod_struct hu h
  refine ⟨hl, m, fun i ty off hi => ?_⟩
  rw [← hL, List.getElem?_map] at hi
  cases hfi : (Tryd.prog.fieldsOf t).toList[i]? with
  | none => rw [hfi] at hi; cases hi
  | some f =>
    rw [hfi] at hi
    simp only [Option.map_some, Option.some.injEq, Prod.mk.injEq] at hi
    obtain ⟨rfl, rfl⟩ := hi
    have h1 := hf i f (by simpa using hfi)
    have hilt : i < xs.length := by
      have := (List.getElem?_eq_some_iff.1 hfi).1
      rw [hlen]; simpa using this
    rw [List.getElem?_eq_getElem hilt] at h1
    refine ⟨_, h1, fun k hk => hy k ?_⟩
    simp only [DataW.weights, hu]
    exact DataW.weights_mem_each (j := i) (by rw [List.getElem?_map, hfi]; rfl) (by rw [List.getElem?_map, List.getElem?_eq_getElem hilt]; rfl) k hk
theorem read_int {n : Nat} {cs : List Value} {y : DataW H × List MemPlace} (h : Rd Tryd.prog enc w n 3 cs = some y) : ∃ k, cs = [vi k] := by
  obtain ⟨k, h1, _⟩ := DataW.trod_int Tryd.underlying3 h
  exact ⟨k, h1⟩
theorem list4 {α : Type} {l : List α} (h : l.length = 4) : ∃ a b c d, l = [a, b, c, d] := by
  match l, h with
  | [a, b, c, d], _ => exact ⟨a, b, c, d, rfl⟩
theorem list2 {α : Type} {l : List α} (h : l.length = 2) : ∃ a b, l = [a, b] := by
  match l, h with
  | [a, b], _ => exact ⟨a, b, rfl⟩
theorem list3 {α : Type} {l : List α} (h : l.length = 3) : ∃ a b c, l = [a, b, c] := by
  match l, h with
  | [a, b, c], _ => exact ⟨a, b, c, rfl⟩
theorem list6 {α : Type} {l : List α} (h : l.length = 6) : ∃ a b c d e f, l = [a, b, c, d, e, f] := by
  match l, h with
  | [a, b, c, d, e, f], _ => exact ⟨a, b, c, d, e, f, rfl⟩
theorem us : Tryd.prog.underlying 24 = some (.struct (Tryd.prog.fieldsOf 24)) := by kernel_rfl
theorem ls : ((Tryd.prog.fieldsOf 24).toList.map fun f => (f.type, f.offset)) = [(3, 0), (3, 1)] := by kernel_rfl
theorem ul : Tryd.prog.underlying 64 = some (.struct (Tryd.prog.fieldsOf 64)) := by kernel_rfl
theorem ll : ((Tryd.prog.fieldsOf 64).toList.map fun f => (f.type, f.offset)) = [(3, 0), (3, 1)] := by kernel_rfl
theorem ux : Tryd.prog.underlying 52 = some (.struct (Tryd.prog.fieldsOf 52)) := by kernel_rfl
theorem lx : ((Tryd.prog.fieldsOf 52).toList.map fun f => (f.type, f.offset)) = [(50, 0), (3, 1)] := by kernel_rfl
theorem ur : Tryd.prog.underlying 28 = some (.struct (Tryd.prog.fieldsOf 28)) := by kernel_rfl
theorem lr : ((Tryd.prog.fieldsOf 28).toList.map fun f => (f.type, f.offset)) = [(22, 0), (24, 1), (25, 3), (3, 4), (26, 5)] := by kernel_rfl
theorem ki : Tryd.prog.cellsOf 3 = 1 := by kernel_rfl
theorem ks : Tryd.prog.cellsOf 24 = 2 := by kernel_rfl
theorem kl : Tryd.prog.cellsOf 64 = 2 := by kernel_rfl
theorem kx : Tryd.prog.cellsOf 52 = 2 := by kernel_rfl
theorem kr : Tryd.prog.cellsOf 28 = 6 := by kernel_rfl
theorem kl1 : Tryd.prog.cellsOf 50 = 1 := by kernel_rfl
theorem kl2 : Tryd.prog.cellsOf 22 = 1 := by kernel_rfl
theorem kl3 : Tryd.prog.cellsOf 25 = 1 := by kernel_rfl
theorem kl4 : Tryd.prog.cellsOf 26 = 1 := by kernel_rfl
theorem bi : Tryd.prog.bytesOf 3 = 8 := by kernel_rfl
theorem bs : Tryd.prog.bytesOf 24 = 16 := by kernel_rfl
theorem bl : Tryd.prog.bytesOf 64 = 16 := by kernel_rfl
theorem bx : Tryd.prog.bytesOf 52 = 32 := by kernel_rfl
theorem bl1 : Tryd.prog.bytesOf 50 = 24 := by kernel_rfl
theorem bl2 : Tryd.prog.bytesOf 22 = 24 := by kernel_rfl
/-- a list as it reads -/
theorem rows_of {sz b : Nat} {A : Option Addr} {cap : Nat} {α : Type} {code : α → List Value} {l : List α} (h2 : l.length ≤ cap) (h3 : cap * b ≤ reachBytes) (h4 : cap ≤ maxLen) (h5 : RowAt w w.heap.size sz A (l.map code)) (hb : 8 ≤ b) : RowsAt w w.heap.size sz A cap (l.map code) := by
  have h6 : cap * 8 ≤ cap * b := Nat.mul_le_mul_left _ hb
  unfold reachBytes at h3
  unfold maxLen at h4
  exact ⟨by simpa using h2, by omega, by simp; omega, h5⟩
theorem read_span {n : Nat} {cs : List Value} {y : DataW H × List MemPlace} (h : Rd Tryd.prog enc w n 24 cs = some y) (hy : Fair Tryd.prog 24 y.1) : ∃ a b, cs = [vi a, vi b] := by
  obtain ⟨hl, m, hm⟩ := read_fields us ls h hy
  obtain ⟨c0, c1, rfl⟩ := list2 (hl.trans ks)
  obtain ⟨z0, h0, _⟩ := hm 0 _ _ rfl
  obtain ⟨z1, h1, _⟩ := hm 1 _ _ rfl
  rw [ki] at h0 h1
  obtain ⟨a, e0⟩ := read_int h0
  obtain ⟨b, e1⟩ := read_int h1
  simp at e0 e1
  exact ⟨a, b, by rw [e0, e1]⟩
theorem read_line (n : Nat) (cs : List Value) (y : DataW H × List MemPlace) (h : Rd Tryd.prog enc w n 64 cs = some y) (hy : Fair Tryd.prog 64 y.1) : ∃ x : SLine, cs = x.cells ∧ True := by
  obtain ⟨hl, m, hm⟩ := read_fields ul ll h hy
  obtain ⟨c0, c1, rfl⟩ := list2 (hl.trans kl)
  obtain ⟨z0, h0, _⟩ := hm 0 _ _ rfl
  obtain ⟨z1, h1, _⟩ := hm 1 _ _ rfl
  rw [ki] at h0 h1
  obtain ⟨a, e0⟩ := read_int h0
  obtain ⟨b, e1⟩ := read_int h1
  simp at e0 e1
  exact ⟨⟨a, b⟩, by rw [e0, e1]; rfl, trivial⟩
theorem read_lines {n : Nat} {cs : List Value} {y : DataW H × List MemPlace} (h : Rd Tryd.prog enc w n 50 cs = some y) (hy : Fair Tryd.prog 50 y.1) : ∃ (A : Option Addr) (cap : Nat) (l : List SLine), cs = [.slice A l.length cap] ∧ SLinesAt w w.heap.size A cap l := by
  obtain ⟨A, cap, l, h1, h2, h3, h4, h5, _⟩ := open_rows (α := SLine) SLine.cells (fun _ => True) Tryd.underlying50 kl (by omega) read_line h hy
  rw [bl] at h3
  exact ⟨A, cap, l, h1, rows_of h2 h3 h4 h5 (by omega)⟩
theorem read_ints {n : Nat} {cs : List Value} {y : DataW H × List MemPlace} (h : Rd Tryd.prog enc w n 22 cs = some y) (hy : Fair Tryd.prog 22 y.1) : ∃ (A : Option Addr) (cap : Nat) (l : List Int), cs = [.slice A l.length cap] ∧ IntsAt w w.heap.size A cap l := by
  obtain ⟨A, cap, l, h1, h2, h3, h4, h5, _⟩ := open_rows (α := Int) intC (fun _ => True) Tryd.underlying22 ki (by omega) (fun n cs y hn _ => by
    obtain ⟨k, e⟩ := read_int hn
    exact ⟨k, e, trivial⟩) h hy
  rw [bi] at h3
  exact ⟨A, cap, l, h1, rows_of h2 h3 h4 h5 (by omega)⟩
theorem read_spans {n : Nat} {cs : List Value} {y : DataW H × List MemPlace} (h : Rd Tryd.prog enc w n 25 cs = some y) (hy : Fair Tryd.prog 25 y.1) : ∃ (A : Option Addr) (cap : Nat) (l : List (Int × Int)), cs = [.slice A l.length cap] ∧ RowsAt w w.heap.size 2 A cap (l.map spanC) := by
  obtain ⟨A, cap, l, h1, h2, h3, h4, h5, _⟩ := open_rows (α := Int × Int) spanC (fun _ => True) Tryd.underlying25 ks (by omega) (fun n cs y hn hf => by
    obtain ⟨a, b, e⟩ := read_span hn hf
    exact ⟨(a, b), e, trivial⟩) h hy
  rw [bs] at h3
  exact ⟨A, cap, l, h1, rows_of h2 h3 h4 h5 (by omega)⟩
theorem read_slip (n : Nat) (cs : List Value) (y : DataW H × List MemPlace) (h : Rd Tryd.prog enc w n 52 cs = some y) (hy : Fair Tryd.prog 52 y.1) : ∃ x : SSlip, cs = x.cells ∧ SLinesAt w w.heap.size x.ad x.cap x.lines := by
  obtain ⟨hl, m, hm⟩ := read_fields ux lx h hy
  obtain ⟨c0, c1, rfl⟩ := list2 (hl.trans kx)
  obtain ⟨z0, h0, y0⟩ := hm 0 _ _ rfl
  obtain ⟨z1, h1, _⟩ := hm 1 _ _ rfl
  rw [kl1] at h0
  rw [ki] at h1
  obtain ⟨A, cap, l, e0, hl⟩ := read_lines h0 y0
  obtain ⟨b, e1⟩ := read_int h1
  simp at e0 e1
  exact ⟨⟨A, cap, l, b⟩, by rw [e0, e1]; rfl, hl⟩
set_option maxRecDepth 100000 in
theorem read_floor {v : Value} {d : DataW H} {ps : List MemPlace} {base : Nat} (hv : Value.okWide Tryd.prog w .any base 28 v) (h : DataW.Trod enc Tryd.prog w 0 (fun _ => true) true 28 v d ps) (hd : Fair Tryd.prog 28 d) : ∃ f : Floor, v = f.val ∧ FloorAt w w.heap.size f := by
  obtain ⟨cs, rfl, hsz⟩ := okWide_struct ur hv
  obtain ⟨n, h⟩ := h
  obtain ⟨hl, m, hm⟩ := read_fields (y := (d, ps)) ur lr h hd
  obtain ⟨c0, c1, c2, c3, c4, c5, hc⟩ := list6 (l := cs.toList) (by rw [Array.length_toList]; exact hsz.trans kr)
  obtain rfl : cs = #[c0, c1, c2, c3, c4, c5] := by rw [← Array.toArray_toList (xs := cs), hc]
  obtain ⟨z0, h0, y0⟩ := hm 0 _ _ rfl
  obtain ⟨z1, h1, y1⟩ := hm 1 _ _ rfl
  obtain ⟨z2, h2, y2⟩ := hm 2 _ _ rfl
  obtain ⟨z3, h3, _⟩ := hm 3 _ _ rfl
  obtain ⟨z4, h4, y4⟩ := hm 4 _ _ rfl
  rw [kl2] at h0
  rw [ks] at h1
  rw [kl3] at h2
  rw [ki] at h3
  rw [kl4] at h4
  obtain ⟨fA, fC, ff, e0, g0⟩ := read_ints h0 y0
  obtain ⟨slo, shi, e1⟩ := read_span h1 y1
  obtain ⟨pA, pC, fp, e2, g2⟩ := read_spans h2 y2
  obtain ⟨fc, e3⟩ := read_int h3
  obtain ⟨sA, sC, fs, e4, k2, k3, k4, k5, k6⟩ := open_rows (α := SSlip) SSlip.cells (fun x => SLinesAt w w.heap.size x.ad x.cap x.lines) Tryd.underlying26 kx (by omega) read_slip h4 y4
  simp [Value.cells] at e0 e1 e2 e3 e4
  obtain ⟨e1, e5⟩ := e1
  rw [bx] at k3
  exact ⟨⟨fA, fC, ff, slo, shi, pA, pC, fp, fc, sA, sC, fs⟩, by rw [e0, e1, e2, e3, e4, e5], g0, g2, rows_of k2 k3 k4 k5 (by omega), k6⟩
set_option maxRecDepth 100000 in
theorem read_tours {v : Value} {d : DataW H} {ps : List MemPlace} {base : Nat} (hv : Value.okWide Tryd.prog w .any base 29 v) (h : DataW.Trod enc Tryd.prog w 0 (fun _ => true) true 29 v d ps) (hd : Fair Tryd.prog 29 d) : ∃ (A : Option Addr) (cap : Nat) (ts : List STour), v = .slice A ts.length cap ∧ ToursAt w w.heap.size A cap ts := by
  obtain ⟨a, n, c, rfl⟩ := okWide_slice Tryd.underlying29 hv
  obtain ⟨m, h⟩ := h
  obtain ⟨A, cap, l, h1, h2, h3, h4, h5, h6⟩ := open_rows (α := STour) STour.cells (fun t => SLinesAt w w.heap.size t.ad t.cap t.lines) Tryd.underlying29 kl1 (by omega) (fun n cs y hn hf => by
    obtain ⟨A, cap, l, e, hl⟩ := read_lines hn hf
    exact ⟨⟨A, cap, l⟩, e, hl⟩) h hd
  simp [Value.cells] at h1
  obtain ⟨rfl, rfl, rfl⟩ := h1
  rw [bl1] at h3
  exact ⟨a, c, l, rfl, rows_of h2 h3 h4 h5 (by omega), h6⟩
set_option maxRecDepth 100000 in
theorem read_roster {v : Value} {d : DataW H} {ps : List MemPlace} {base : Nat} (hv : Value.okWide Tryd.prog w .any base 43 v) (h : DataW.Trod enc Tryd.prog w 0 (fun _ => true) true 43 v d ps) (hd : Fair Tryd.prog 43 d) : ∃ (A : Option Addr) (cap : Nat) (ts : List SRow), v = .slice A ts.length cap ∧ RosterAt w w.heap.size A cap ts := by
  obtain ⟨a, n, c, rfl⟩ := okWide_slice Tryd.underlying43 hv
  obtain ⟨m, h⟩ := h
  obtain ⟨A, cap, l, h1, h2, h3, h4, h5, h6⟩ := open_rows (α := SRow) SRow.cells (fun t => IntsAt w w.heap.size t.ad t.cap t.slips) Tryd.underlying43 kl2 (by omega) (fun n cs y hn hf => by
    obtain ⟨A, cap, l, e, hl⟩ := read_ints hn hf
    exact ⟨⟨A, cap, l⟩, e, hl⟩) h hd
  simp [Value.cells] at h1
  obtain ⟨rfl, rfl, rfl⟩ := h1
  rw [bl2] at h3
  exact ⟨a, c, l, rfl, rows_of h2 h3 h4 h5 (by omega), h6⟩
end
end Go.Proofs.YtomgnpfpaodpiaaDoor

/- What is left to say when a law has answered true: each argument reads as it did. -/
namespace Go.Proofs.YtomgnpfpaodpiaaDoor
open Go Go.RowKit Go.Deep Go.ChangeShapes Go.WideShapes Go.ChangeAt
set_option maxHeartbeats 1000000
theorem own_knob : ownKnob Tryd.prog.godebug = none := by kernel_rfl
theorem kids : Kids Tryd.prog (· < Tryd.prog.types.size) := kids_rows (by kernel_rfl) (by kernel_rfl)
theorem full : ∀ t e, t < Tryd.prog.types.size → Tryd.prog.underlying t = some (.slice e) → 0 < Tryd.prog.cellsOf e := slices_full_of Tryd.prog (by kernel_rfl)
section
variable {H : Type} {enc : TypeId × Value → H}
theorem carry_all {P : Program} {w w' : World} {b : Nat} {sp : Nat → Bool} {hd : Bool} : ∀ {ts : List TypeId} {vs : List Value} {ds : List (DataW H)} {ps : List MemPlace}, DataW.TrodAll enc P w b sp hd ts vs ds ps → (∀ p ∈ ps, w.sameAt w' p) → DataW.TrodAll enc P w' b sp hd ts vs ds ps
  | [], [], [], _, h, _ => h
  | _ :: _, _ :: _, _ :: _, _, ⟨p, q, ⟨n, h1⟩, h2, e⟩, hs =>
    ⟨p, q, ⟨n, DataW.trod_carry n _ _ _ h1 fun x hx => hs x (by rw [e]; exact List.mem_append_left _ hx)⟩, carry_all h2 fun x hx => hs x (by rw [e]; exact List.mem_append_right _ hx), e⟩
theorem post_true {s : ChangeSpec} {fn : Func} {W W' : World} {args : Array Value} {ds gs : List (DataW H)} {before : List MemPlace}
    (hW : DataW.Whole enc Tryd.prog fn.params.toList s.vars false W args.toList ds gs before) (hv : s.vars = []) (hs : s.fn H ds = { results := [.lit (.bool true)], args := ds })
    (ht : fn.resultTypes = #[4]) (hp : ∀ t ∈ fn.params.toList, t < Tryd.prog.types.size) (hb : Below W.heap.size W W') :
    s.post enc Tryd.prog fn false true false false W args (.bool true) W' := by
  have hW0 := hW
  obtain ⟨p, q, hA, hV, rfl, hfz, hnd⟩ := hW
  rw [hv] at hV
  obtain ⟨rfl, rfl⟩ := trodVars_none hV
  have hlt : ∀ x ∈ p, x.block < W.heap.size := fun x hx => hW0.lt x (by simpa using hx)
  refine ⟨ds, [], p ++ [], [], p, [], hW0, ?_, ?_, ?_, ?_, fun h => by cases h⟩
  · rw [ht, List.append_nil, hs]
    exact trodAll_cons_mk (shut_bool Tryd.underlying4 true) trodAll_mk0
  · rw [List.append_nil, hs]
    exact DataW.TrodAll.respare kids full hp (carry_all hA fun x hx => hb.same (hlt x hx)) fun x hx => by simpa using hlt x hx
  · rw [hv, List.append_nil, hs]
    rfl
  · exact World.keptBut_mono (fun _ h => h.elim) (hb.frame fun _ => False)
end
end Go.Proofs.YtomgnpfpaodpiaaDoor

/- The table of limits, out of what the row lists. -/
namespace Go.Proofs.YtomgnpfpaodpiaaDoor
open Go Go.RowKit Go.Deep Go.ChangeShapes Go.WideShapes
set_option maxHeartbeats 1000000
section
variable {H : Type} {enc : TypeId × Value → H} {w : World} {sp : Nat → Bool} {hd : Bool} {base : Nat}
theorem told_int {n : Nat} {cs : List Value} {y : DataW H × List MemPlace} (h : DataW.trod enc Tryd.prog w base sp hd n 3 cs = some y) : ∃ k, cs = [vi k] ∧ y.1 = .lit (.int .i64 k) := by
  obtain ⟨k, h1, h2, _⟩ := DataW.trod_int Tryd.underlying3 h
  exact ⟨k, h1, by rw [h2]⟩
theorem told_span {n : Nat} {cs : List Value} {y : DataW H × List MemPlace} (h : DataW.trod enc Tryd.prog w base sp hd n 24 cs = some y) : ∃ a b, cs = [vi a, vi b] ∧ y.1 = .agg [.lit (.int .i64 a), .lit (.int .i64 b)] := by
  obtain ⟨xs, m, _, rfl, hl, hlen, hf⟩ := DataW.trod_struct us h
  obtain ⟨c0, c1, rfl⟩ := list2 (hl.trans ks)
  have hsz : (Tryd.prog.fieldsOf 24).size = 2 := by kernel_rfl
  rw [hsz] at hlen
  obtain ⟨x0, x1, rfl⟩ := list2 hlen
  have key : ∀ (i ty off : Nat), ((Tryd.prog.fieldsOf 24).toList.map fun f => (f.type, f.offset))[i]? = some (ty, off) → DataW.trod enc Tryd.prog w base sp hd m ty (([c0, c1].drop off).take (Tryd.prog.cellsOf ty)) = [x0, x1][i]? := by
    intro i ty off hi
    rw [List.getElem?_map] at hi
    cases hfi : (Tryd.prog.fieldsOf 24).toList[i]? with
    | none => rw [hfi] at hi; cases hi
    | some f =>
      rw [hfi] at hi
      simp only [Option.map_some, Option.some.injEq, Prod.mk.injEq] at hi
      obtain ⟨rfl, rfl⟩ := hi
      exact hf i f (by simpa using hfi)
  have h0 := key 0 3 0 (by rw [ls]; rfl)
  have h1 := key 1 3 1 (by rw [ls]; rfl)
  rw [ki] at h0 h1
  obtain ⟨a, e0, d0⟩ := told_int h0
  obtain ⟨b, e1, d1⟩ := told_int h1
  simp at e0 e1
  exact ⟨a, b, by rw [e0, e1], by simp [d0, d1]⟩
end
theorem gLim : Tryd.prog.globalNamed "wishbook/slip.limits" = some 0 := by kernel_rfl
theorem gLimType : (Tryd.prog.globals[0]?).map (·.type) = some 118 := by kernel_rfl
theorem uL : Tryd.prog.underlying 118 = some (.array 10 24) := by kernel_rfl
theorem lim_of {W : World} (h : laidMet Tryd.prog [("wishbook/slip.limits", Rows.laid_wishbook_slip_limits)] W) : Lim W := by
  obtain ⟨ps, ⟨g, t, cs, fuel, p, q, hg, ht, hvar, hd, _, _⟩, _⟩ := h
  obtain rfl := Option.some.inj (gLim.symm.trans hg)
  obtain rfl := Option.some.inj (gLimType.symm.trans ht)
  obtain ⟨xs, m, _, hx, hl, hlen, hf⟩ := DataW.trod_array uL hd
  have hcell := World.var?_cell gLim hvar
  have hxs : xs.map (·.1) = [.agg [.lit (.int .i64 1), .lit (.int .i64 12)], .agg [.lit (.int .i64 0), .lit (.int .i64 500)], .agg [.lit (.int .i64 1), .lit (.int .i64 10)], .agg [.lit (.int .i64 0), .lit (.int .i64 300)], .agg [.lit (.int .i64 1), .lit (.int .i64 20)], .agg [.lit (.int .i64 0), .lit (.int .i64 9)], .agg [.lit (.int .i64 0), .lit (.int .i64 100000)], .agg [.lit (.int .i64 1), .lit (.int .i64 12)], .agg [.lit (.int .i64 1), .lit (.int .i64 20)], .agg [.lit (.int .i64 1), .lit (.int .i64 5)]] := by
    have := congrArg Prod.fst hx
    simpa [Rows.laid_wishbook_slip_limits] using this.symm
  have key : ∀ (k : Nat) (a b : Int), k < 10 → (xs.map (·.1))[k]? = some (.agg [.lit (.int .i64 a), .lit (.int .i64 b)]) → W.cell? ⟨0, k * 2, none⟩ = some (vi a) ∧ W.cell? ⟨0, k * 2 + 1, none⟩ = some (vi b) := by
    intro k a b hk hkx
    have h1 := hf k hk
    rw [ks] at h1
    rw [List.getElem?_map] at hkx
    cases hxk : xs[k]? with
    | none => rw [hxk] at hkx; cases hkx
    | some z =>
      rw [hxk] at h1 hkx
      obtain ⟨a', b', e, hz⟩ := told_span h1
      simp only [Option.map_some, Option.some.injEq] at hkx
      rw [hz] at hkx
      simp only [DataW.agg.injEq, List.cons.injEq, DataW.lit.injEq, Lit.int.injEq, true_and, and_true] at hkx
      obtain ⟨rfl, rfl⟩ := hkx
      have e0 := congrArg (fun l : List Value => l[0]?) e
      have e1 := congrArg (fun l : List Value => l[1]?) e
      simp only [List.getElem?_take, List.getElem?_drop, List.getElem?_cons_zero, List.getElem?_cons_succ] at e0 e1
      refine ⟨(hcell _).trans ?_, (hcell _).trans ?_⟩
      · simpa using e0
      · simpa using e1
  have hpos : 0 < W.heap.size := by
    have := (key 0 1 12 (by omega) (by rw [hxs]; rfl)).1
    exact (cell_none this).2
  have all : ∀ k : Nat, k < 10 → W.cell? ⟨0, k * 2, none⟩ = some (vi (limLo k)) ∧ W.cell? ⟨0, k * 2 + 1, none⟩ = some (vi (limHi k)) := by
    intro k hk
    have : k = 0 ∨ k = 1 ∨ k = 2 ∨ k = 3 ∨ k = 4 ∨ k = 5 ∨ k = 6 ∨ k = 7 ∨ k = 8 ∨ k = 9 := by omega
    rcases this with rfl | rfl | rfl | rfl | rfl | rfl | rfl | rfl | rfl | rfl
    all_goals exact key _ _ _ (by omega) (by rw [hxs]; rfl)
  exact ⟨hpos, fun k hk => (all k hk).1, fun k hk => (all k hk).2⟩
end Go.Proofs.YtomgnpfpaodpiaaDoor

/- A world for the witnesses: the table of limits as the program's text lays it. Arrays of numbers as arguments. -/
namespace Go.Proofs.YtomgnpfpaodpiaaDoor
open Go Go.RowKit Go.Deep Go.ChangeShapes Go.WideShapes
set_option maxHeartbeats 1000000
noncomputable def laidWorld (os : Os) : World :=
  { World.holding Tryd.prog os ⟨#[], #[], []⟩ with heap := (World.holding Tryd.prog os ⟨#[], #[], []⟩).heap.modify 0 fun
      | .cells _ t frozen => .cells #[vi 1, vi 12, vi 0, vi 500, vi 1, vi 10, vi 0, vi 300, vi 1, vi 20, vi 0, vi 9, vi 0, vi 100000, vi 1, vi 12, vi 1, vi 20, vi 1, vi 5] t frozen
      | o => o }
set_option maxRecDepth 100000 in
theorem wf_range {n : Int} (h : (Lit.int .i64 n).wf = true) : -9223372036854775808 ≤ n ∧ n ≤ 9223372036854775807 := by
  simpa [Lit.wf, IntKind.min, IntKind.max, IntKind.signed, IntKind.bits] using h
section
variable {H : Type} {enc : TypeId × Value → H} {w : World}
set_option maxRecDepth 100000 in
theorem read_array {t : TypeId} {n : Nat} (hu : Tryd.prog.underlying t = some (.array n 3)) (hk : Tryd.prog.cellsOf t = n) {v : Value} {d : DataW H} {ps : List MemPlace} {base : Nat} (hv : Value.okWide Tryd.prog w .any base t v)
    (h : DataW.Trod enc Tryd.prog w 0 (fun _ => true) true t v d ps) : ∃ l : List Int, l.length = n ∧ v = .agg (l.map vi).toArray ∧ ∀ k ∈ l, -9223372036854775808 ≤ k ∧ k ≤ 9223372036854775807 := by
  unfold Value.okWide at hv
  rw [hu] at hv
  obtain ⟨cs, rfl, hsz, _⟩ := hv
  obtain ⟨m, h⟩ := h
  obtain ⟨xs, m', _, hx, hl, hlen, hf⟩ := DataW.trod_array hu h
  have key : ∀ i, i < n → ∃ k : Int, cs.toList[i]? = some (vi k) ∧ -9223372036854775808 ≤ k ∧ k ≤ 9223372036854775807 := by
    intro i hi
    have h1 := hf i hi
    rw [ki, List.getElem?_eq_getElem (by omega)] at h1
    obtain ⟨k, e, _, hwf⟩ := DataW.trod_int Tryd.underlying3 h1
    have e0 := congrArg (fun l : List Value => l[0]?) e
    simp only [List.getElem?_take, List.getElem?_drop, List.getElem?_cons_zero] at e0
    exact ⟨k, by simpa [Value.cells] using e0, wf_range hwf⟩
  obtain ⟨f, hf2⟩ := choose_lt (n := n) (p := fun i (k : Int) => cs.toList[i]? = some (vi k) ∧ -9223372036854775808 ≤ k ∧ k ≤ 9223372036854775807) key
  refine ⟨(List.range n).map f, by simp, ?_, fun k hk => ?_⟩
  · congr 1
    rw [← Array.toArray_toList (xs := cs)]
    congr 1
    apply List.ext_getElem?
    intro i
    by_cases hi : i < n
    · rw [(hf2 i hi).1]
      simp [hi]
    · rw [List.getElem?_eq_none (by rw [Array.length_toList, hsz, hk]; omega), List.getElem?_eq_none (by simp; omega)]
  · obtain ⟨i, hi, rfl⟩ := List.mem_map.1 hk
    exact (hf2 i (List.mem_range.1 hi)).2
end
set_option maxRecDepth 100000 in
theorem read_bits {H : Type} {enc : TypeId × Value → H} {w : World} {v : Value} {d : DataW H} {ps : List MemPlace} {base : Nat} (hv : Value.okWide Tryd.prog w .any base 22 v)
    (h : DataW.Trod enc Tryd.prog w 0 (fun _ => true) true 22 v d ps) (hy : Fair Tryd.prog 22 d) :
    ∃ (A : Option Addr) (cap : Nat) (l : List Int), v = .slice A l.length cap ∧ IntsAt w w.heap.size A cap l ∧ ∀ k ∈ l, -9223372036854775808 ≤ k ∧ k ≤ 9223372036854775807 := by
  obtain ⟨a, n, c, rfl⟩ := okWide_slice Tryd.underlying22 hv
  obtain ⟨m, h⟩ := h
  obtain ⟨A, cap, l, h1, h2, h3, h4, h5, h6⟩ := open_rows (α := Int) (fun n => [vi n]) (fun n => -9223372036854775808 ≤ n ∧ n ≤ 9223372036854775807) Tryd.underlying22 ki (by omega) (fun n cs y hn _ => by
    obtain ⟨k, e, _, hwf⟩ := DataW.trod_int Tryd.underlying3 hn
    exact ⟨k, e, wf_range hwf⟩) h hy
  simp [Value.cells] at h1
  obtain ⟨rfl, rfl, rfl⟩ := h1
  rw [bi] at h3
  exact ⟨a, c, l, rfl, rows_of h2 h3 h4 h5 (by omega), h6⟩
end Go.Proofs.YtomgnpfpaodpiaaDoor

/- A floor as it reads, with what its slips' number can be. -/
namespace Go.Proofs.YtomgnpfpaodpiaaDoor
open Go Go.RowKit Go.Deep Go.ChangeShapes Go.WideShapes
set_option maxHeartbeats 1000000
section
variable {H : Type} {enc : TypeId × Value → H} {w : World}
set_option maxRecDepth 100000 in
theorem read_floor2 {v : Value} {d : DataW H} {ps : List MemPlace} {base : Nat} (hv : Value.okWide Tryd.prog w .any base 28 v) (h : DataW.Trod enc Tryd.prog w 0 (fun _ => true) true 28 v d ps) (hd : Fair Tryd.prog 28 d) : ∃ f : Floor, v = f.val ∧ FloorAt w w.heap.size f ∧ f.slips.length ≤ 4398046511104 := by
  obtain ⟨cs, rfl, hsz⟩ := okWide_struct ur hv
  obtain ⟨n, h⟩ := h
  obtain ⟨hl, m, hm⟩ := read_fields (y := (d, ps)) ur lr h hd
  obtain ⟨c0, c1, c2, c3, c4, c5, hc⟩ := list6 (l := cs.toList) (by rw [Array.length_toList]; exact hsz.trans kr)
  obtain rfl : cs = #[c0, c1, c2, c3, c4, c5] := by rw [← Array.toArray_toList (xs := cs), hc]
  obtain ⟨z0, h0, y0⟩ := hm 0 _ _ rfl
  obtain ⟨z1, h1, y1⟩ := hm 1 _ _ rfl
  obtain ⟨z2, h2, y2⟩ := hm 2 _ _ rfl
  obtain ⟨z3, h3, _⟩ := hm 3 _ _ rfl
  obtain ⟨z4, h4, y4⟩ := hm 4 _ _ rfl
  rw [kl2] at h0
  rw [ks] at h1
  rw [kl3] at h2
  rw [ki] at h3
  rw [kl4] at h4
  obtain ⟨fA, fC, ff, e0, g0⟩ := read_ints h0 y0
  obtain ⟨slo, shi, e1⟩ := read_span h1 y1
  obtain ⟨pA, pC, fp, e2, g2⟩ := read_spans h2 y2
  obtain ⟨fc, e3⟩ := read_int h3
  obtain ⟨sA, sC, fs, e4, k2, k3, k4, k5, k6⟩ := open_rows (α := SSlip) SSlip.cells (fun x => SLinesAt w w.heap.size x.ad x.cap x.lines) Tryd.underlying26 kx (by omega) read_slip h4 y4
  simp [Value.cells] at e0 e1 e2 e3 e4
  obtain ⟨e1, e5⟩ := e1
  rw [bx] at k3
  have k7 := k3
  unfold reachBytes at k7
  exact ⟨⟨fA, fC, ff, slo, shi, pA, pC, fp, fc, sA, sC, fs⟩, by rw [e0, e1, e2, e3, e4, e5], ⟨g0, g2, rows_of k2 k3 k4 k5 (by omega), k6⟩, by simp only; omega⟩
end
end Go.Proofs.YtomgnpfpaodpiaaDoor

/- A range over an iterator that itself ranges over an iterator: the invariant abides the turn of whatever lies beyond the call's beginning and is no cells. -/
namespace Go.Proofs.YtomgnpfpaodpiaaDoor
open Go Go.RowKit
variable {F : Fence} {n : Nat} {P : Program}

/-- what an iterator gives whose rounds all go on: J abides the turn of new blocks that are no cells -/
def SeqO {α : Type} (F : Fence) (n : Nat) (P : Program) (g : Nat) (lb : Array Value) (encs : α → Array Value) (Kp : World → World → Prop) (S : List α → Prop) (N : Nat) (w : World) : Prop :=
  ∀ (l : Nat) (J : List α → World → Prop) (W : World), Below w.heap.size w W → OwnFrom W.heap.size J →
    (∀ pre x W1, J pre W1 → pre.length < N → YieldAt F (n - 1) P l (encs x) W1 fun e W' => e = .returned (.bool true) ∧ J (pre ++ [x]) W' ∧ Kp W1 W' ∧ KeepsFrom W.heap.size W1 W') →
    J [] W → CallsIn F n P g (#[.func (.yield l) #[] #[]] ++ lb) W fun e W' => (∃ v, e = .returned v) ∧ ∃ xs, S xs ∧ J xs W'

/-- what stays of a block below the turned ones -/
theorem heap_stays {X Y : World} {row : Option Nat} {B k : Nat} {o : Obj} (hg : X.grownBy Y row) (hr : ∀ r, row = some r → B ≤ r) (hk : X.heap[k]? = some o) (hkB : k < B) : Y.heap[k]? = some o :=
  (hg.block k (Array.getElem?_eq_some_iff.1 hk).1 (fun e => by have := hr k e.symm; omega)).trans hk
theorem keeps_up {B B' : Nat} {X Y : World} (h : KeepsFrom B X Y) (hB : B ≤ B') : KeepsFrom B' X Y := ⟨h.size, fun k o hk => h.same k o (by omega)⟩
theorem keeps_put {B l : Nat} (W : World) (o : Obj) (hl : l < B) : KeepsFrom B W (W.putObj l o) := ⟨by simp, fun k u hk hu _ => (World.putObj_heap_other (by omega)).trans hu⟩
abbrev lrec (fn : FuncId) (tmps : Array Value) (ps : Array Tmp) (assign body : Code) (D : Nat) (st : LoopState) : Loop := { state := st, pending := none, fn, tmps, params := ps, assign, body, defers := D }

/-- the rounds of a loop whose record lies at l -/
theorem calls_turn {α : Type} {ps : Array Tmp} {assign body : Code} {Q : Exit → Act → World → Prop} {t : Array Value} {a' : Act} {W1 : World} {fn : FuncId} {l D : Nat}
    (hfn : F.fn fn) (hl1 : W1.heap[l]? = some (.loop (lrec fn t ps assign body D .ready))) {gf : Nat} {lb : Array Value}
    {encs : α → Array Value} {Kp : World → World → Prop} {S : List α → Prop} {N : Nat} {w0 : World} (hseq : SeqO F (n - 1) P gf lb encs Kp S N w0)
    (hKt : ∀ {A B C : World}, Kp A B → Kp B C → Kp A C) (hKb : ∀ (W : World) (o o' : Obj), W.heap[l]? = some o → o.isCells = false → o.isWalk = false → Kp W (W.putObj l o')) (hb0 : Below w0.heap.size w0 W1) (hps : ∀ x, (encs x).size = ps.size)
    (I : List α → World → Prop) (hI : OwnFrom l I) (h0 : I [] W1) (Ax : α → Act → World → Prop) (hAx : ∀ x b, OwnFrom l (fun (_ : Unit) W => Ax x b W))
    (hassign : ∀ (pre : List α) (x : α) (W : World) (K : Act → World → Prop), I pre W → (∀ b W', KeepsFrom l W W' → Kp W W' → I pre W' → Ax x b W' → K b W') →
      assign.wpIn (F.inRound l) (n - 1 - 1) P (Exit.then K (fun _ _ _ => False)) { tmps := (ps.zip (encs x)).foldl (fun t (p, v) => t.setIfInBounds p v) t, defers := [] } W)
    (hbody : ∀ (pre : List α) (x : α) (b : Act) (W : World), (∃ r, W.heap[l]? = some (.loop r)) → I pre W → Ax x b W → pre.length < N → body.wpIn (F.inRound l) (n - 1 - 1) P (ownPostG l Kp I (fun _ _ _ => False) (pre ++ [x]) W) b W)
    (hdone : ∀ (xs : List α) (W : World), S xs → I xs W → Q .normal a' W) :
    CallsIn F (n - 1) P gf (#[.func (.yield l) #[] #[]] ++ lb) W1 (rangePost F n P l Q a') := by
  have hlW : l < W1.heap.size := (Array.getElem?_eq_some_iff.1 hl1).1
  refine (hseq l (fun pre W => I pre W ∧ W.heap[l]? = some (.loop (lrec fn t ps assign body D .ready))) W1 hb0 ?_ ?_ ⟨h0, hl1⟩).mono ?_
  · intro s A B row hs hg hr
    exact ⟨hI s A B row hs.1 hg (fun r e => ⟨by have := (hr r e).1; omega, (hr r e).2⟩), heap_stays hg (fun r e => (hr r e).1) hs.2 hlW⟩
  · rintro pre x W ⟨hi, hl⟩ hlen
    have hy := run_yield (P := P) (args := encs x) hl (hps x)
    refine ⟨fn, _, assign, body, hy, roundIn_of_wpIn hfn (hassign pre x W _ hi ?_)⟩
    intro b Wa hkf hkp hia hax
    have hla := hkf.same l _ (Nat.le_refl _) hl rfl
    have hlt : l < Wa.heap.size := (Array.getElem?_eq_some_iff.1 hla).1
    refine ⟨_, run_beginRound hla rfl, ?_⟩
    have hl2 : (Wa.putObj l (.loop (lrec fn t ps assign body D .busy))).heap[l]? = some (.loop (lrec fn t ps assign body D .busy)) := World.putObj_heap_same hlt
    refine wpIn_mono (hbody pre x b _ ⟨_, hl2⟩ (hI.putObj _ hia (Nat.le_refl _) hla rfl) ((hAx x b).putObj (s := ()) _ hax (Nat.le_refl _) hla rfl) hlen) ?_
    rintro e a3 W3 hp
    cases e with
    | normal =>
      obtain ⟨hk3, hkp3, hi3⟩ := hp
      have hl3 := hk3.same l _ (Nat.le_refl _) hl2 rfl
      have hr := run_endRound (P := P) none hl3
      exact ⟨_, _, hr, rfl, ⟨hI.putObj _ hi3 (Nat.le_refl _) hl3 rfl, World.putObj_heap_same (Array.getElem?_eq_some_iff.1 hl3).1⟩, hKt hkp (hKt (hKt (hKb _ _ _ hla rfl rfl) hkp3) (hKb _ _ _ hl3 rfl rfl)), ((keeps_up hkf (by omega)).trans (((keeps_put _ _ hlW).trans (keeps_up hk3 (by omega))).trans (keeps_put _ _ hlW)))⟩
    | ret => exact hp.2.elim
    | exit id => exact hp.2.elim
    | goto t => exact hp.2.elim
    | panic ch => exact hp.elim
    | outgrown => exact hp.elim
  · rintro e W2 ⟨⟨v, rfl⟩, xs, hS, hi, hl⟩
    have := run_endLoop (P := P) hl (by simp)
    exact ⟨none, _, this, hdone xs _ hS (hI.putObj _ hi (Nat.le_refl _) hl rfl)⟩

/-- such a loop, outermost: its block for deferred calls lies ahead of its record -/
theorem range_outer {α : Type} {g : Operand} {ps : Array Tmp} {assign body : Code} {Q : Exit → Act → World → Prop} {a : Act} {w : World}
    (hro : F.round = none) (h1 : 1 ≤ n) {gf : Nat} {lb : Array Value} (hg : a.eval g = .func (.func gf) #[] lb) (hFg : F.fn gf) (eg : ∀ args w, (callFunc gf args).run P w = .ok (.enter gf args) w)
    {encs : α → Array Value} {Kp : World → World → Prop} {S : List α → Prop} {N : Nat} {w0 : World} (hseq : SeqO F (n - 1) P gf lb encs Kp S N w0)
    (hKt : ∀ {A B C : World}, Kp A B → Kp B C → Kp A C) (hKb : ∀ (W : World) (l : Nat) (o o' : Obj), w.heap.size ≤ l → W.heap[l]? = some o → o.isCells = false → o.isWalk = false → Kp W (W.putObj l o')) (hb0 : Below w0.heap.size w0 w) (hps : ∀ x, (encs x).size = ps.size)
    (I : List α → World → Prop) (hI : OwnFrom w.heap.size I) (h0 : I [] w) (Ax : α → Act → World → Prop) (hAx : ∀ x b, OwnFrom w.heap.size (fun (_ : Unit) W => Ax x b W))
    (hassign : ∀ (l : Nat) (pre : List α) (x : α) (W : World) (K : Act → World → Prop), I pre W → (∀ b W', KeepsFrom w.heap.size W W' → Kp W W' → I pre W' → Ax x b W' → K b W') →
      assign.wpIn (F.inRound l) (n - 1 - 1) P (Exit.then K (fun _ _ _ => False)) { tmps := (ps.zip (encs x)).foldl (fun t (p, v) => t.setIfInBounds p v) a.tmps, defers := [] } W)
    (hbody : ∀ (l : Nat) (pre : List α) (x : α) (b : Act) (W : World), w.heap.size ≤ l → (∃ r, W.heap[l]? = some (.loop r)) → I pre W → Ax x b W → pre.length < N → body.wpIn (F.inRound l) (n - 1 - 1) P (ownPostG w.heap.size Kp I (fun _ _ _ => False) (pre ++ [x]) W) b W)
    (hdone : ∀ (D : Nat) (xs : List α) (W : World), w.heap.size ≤ D → S xs → I xs W → W.heap[D]? = some (.deferred (some [])) → Q .normal { a with defers := { target := .collected D, args := #[] } :: a.defers } W) :
    (Code.rangeFunc g ps assign body).wpIn F n P Q a w := by
  refine wpIn_rangeFunc fun fn hfn => ?_
  rw [hro]
  obtain ⟨W1, hW1⟩ : ∃ W1, (w.alloc (.deferred (some []))).alloc (.loop (lrec fn a.tmps ps assign body w.heap.size .ready)) = W1 := ⟨_, rfl⟩
  have hl1 : W1.heap[w.heap.size + 1]? = some (.loop (lrec fn a.tmps ps assign body w.heap.size .ready)) := by
    subst hW1
    have := World.alloc_heap_new (w.alloc (.deferred (some []))) (.loop (lrec fn a.tmps ps assign body w.heap.size .ready))
    rwa [World.size_alloc] at this
  have hd1 : W1.heap[w.heap.size]? = some (.deferred (some [])) := by
    subst hW1
    exact (Below.heap_alloc _ _ _ (by simp)).trans (World.alloc_heap_new w _)
  have hI1 : I [] W1 := by subst hW1; exact hI.alloc _ (hI.alloc _ h0)
  have hb1 : Below w0.heap.size w0 W1 := by subst hW1; exact hb0.trans ((((Below.refl _ w).alloc (Nat.le_refl _) _).alloc (by simp) _).mono hb0.size)
  refine ⟨w.heap.size + 1, [{ target := .collected w.heap.size, args := #[] }], W1, { target := .fn (.func gf) lb, args := #[.func (.yield (w.heap.size + 1)) #[] #[]] }, W1, gf, #[.func (.yield (w.heap.size + 1)) #[] #[]] ++ lb, W1, ?_, ?_, ?_, ?_, fun _ => h1, ?_⟩
  · rw [← hW1]; exact run_enterLoop_outer _ _ _ _ _
  · simp only [resolve, hg]
    simp [go_sem]
  · intro f' hf'; simp [Target.leads] at hf'; subst hf'; exact hFg
  · simp [invoke, go_sem, eg]
  · have hup : ∀ {s : Type} {X : s → World → Prop}, OwnFrom w.heap.size X → OwnFrom (w.heap.size + 1) X := fun h s A B row hs hg hr => h s A B row hs hg (fun r e => ⟨by have := (hr r e).1; omega, (hr r e).2⟩)
    refine calls_turn (Q := Q) (a' := { a with defers := [{ target := .collected w.heap.size, args := #[] }] ++ a.defers }) hfn hl1 hseq (fun h k => hKt h k) (fun W o o' => hKb W _ o o' (by omega)) hb1 hps
      (fun pre W => I pre W ∧ W.heap[w.heap.size]? = some (.deferred (some []))) ?_ ⟨hI1, hd1⟩ Ax (fun x b => hup (hAx x b)) ?_ ?_ ?_
    · intro s A B row hs hg hr
      exact ⟨hup hI s A B row hs.1 hg hr, heap_stays hg (fun r e => (hr r e).1) hs.2 (by omega)⟩
    · rintro pre x W K ⟨hi, hd⟩ hK
      refine hassign _ pre x W K hi fun b W' h1 h2 h3 h4 => hK b W' ⟨h1.size, fun k o hk => h1.same k o (by omega)⟩ h2 ⟨h3, h1.same _ _ (Nat.le_refl _) hd rfl⟩ h4
    · rintro pre x b W hr ⟨hi, hd⟩ hax hlen
      refine wpIn_mono (hbody _ pre x b W (by omega) hr hi hax hlen) ?_
      rintro e a3 W3 hp
      cases e with
      | normal => exact ⟨⟨hp.1.size, fun k o hk => hp.1.same k o (by omega)⟩, hp.2.1, hp.2.2, hp.1.same _ _ (Nat.le_refl _) hd rfl⟩
      | ret => exact hp.2.elim
      | exit id => exact hp.2.elim
      | goto t => exact hp.2.elim
      | panic ch => exact hp.elim
      | outgrown => exact hp.elim
    · rintro xs W hS ⟨hi, hd⟩
      exact hdone _ xs W (Nat.le_refl _) hS hi hd

/-- such a loop within a round of another -/
theorem range_inner {α : Type} {g : Operand} {ps : Array Tmp} {assign body : Code} {Q : Exit → Act → World → Prop} {a : Act} {w : World}
    {l₀ : Nat} {r₀ : Loop} (hro : F.round = some l₀) (hl₀ : w.heap[l₀]? = some (.loop r₀)) (h1 : 1 ≤ n) {gf : Nat} {lb : Array Value} (hg : a.eval g = .func (.func gf) #[] lb) (hFg : F.fn gf) (eg : ∀ args w, (callFunc gf args).run P w = .ok (.enter gf args) w)
    {encs : α → Array Value} {Kp : World → World → Prop} {S : List α → Prop} {N : Nat} {w0 : World} (hseq : SeqO F (n - 1) P gf lb encs Kp S N w0)
    (hKt : ∀ {A B C : World}, Kp A B → Kp B C → Kp A C) (hKb : ∀ (W : World) (l : Nat) (o o' : Obj), w.heap.size ≤ l → W.heap[l]? = some o → o.isCells = false → o.isWalk = false → Kp W (W.putObj l o')) (hb0 : Below w0.heap.size w0 w) (hps : ∀ x, (encs x).size = ps.size)
    (I : List α → World → Prop) (hI : OwnFrom w.heap.size I) (h0 : I [] w) (Ax : α → Act → World → Prop) (hAx : ∀ x b, OwnFrom w.heap.size (fun (_ : Unit) W => Ax x b W))
    (hassign : ∀ (l : Nat) (pre : List α) (x : α) (W : World) (K : Act → World → Prop), I pre W → (∀ b W', KeepsFrom w.heap.size W W' → Kp W W' → I pre W' → Ax x b W' → K b W') →
      assign.wpIn (F.inRound l) (n - 1 - 1) P (Exit.then K (fun _ _ _ => False)) { tmps := (ps.zip (encs x)).foldl (fun t (p, v) => t.setIfInBounds p v) a.tmps, defers := [] } W)
    (hbody : ∀ (l : Nat) (pre : List α) (x : α) (b : Act) (W : World), w.heap.size ≤ l → (∃ r, W.heap[l]? = some (.loop r)) → I pre W → Ax x b W → pre.length < N → body.wpIn (F.inRound l) (n - 1 - 1) P (ownPostG w.heap.size Kp I (fun _ _ _ => False) (pre ++ [x]) W) b W)
    (hdone : ∀ (xs : List α) (W : World), S xs → I xs W → Q .normal a W) :
    (Code.rangeFunc g ps assign body).wpIn F n P Q a w := by
  refine wpIn_rangeFunc fun fn hfn => ?_
  rw [hro]
  obtain ⟨W1, hW1⟩ : ∃ W1, w.alloc (.loop (lrec fn a.tmps ps assign body r₀.defers .ready)) = W1 := ⟨_, rfl⟩
  have hl1 : W1.heap[w.heap.size]? = some (.loop (lrec fn a.tmps ps assign body r₀.defers .ready)) := by subst hW1; exact World.alloc_heap_new w _
  have hI1 : I [] W1 := by subst hW1; exact hI.alloc _ h0
  have hb1 : Below w0.heap.size w0 W1 := by subst hW1; exact hb0.trans (((Below.refl _ w).alloc (Nat.le_refl _) _).mono hb0.size)
  refine ⟨w.heap.size, [], W1, { target := .fn (.func gf) lb, args := #[.func (.yield w.heap.size) #[] #[]] }, W1, gf, #[.func (.yield w.heap.size) #[] #[]] ++ lb, W1, ?_, ?_, ?_, ?_, fun _ => h1, ?_⟩
  · rw [← hW1]; exact run_enterLoop_inner hl₀ _ _ _ _ _
  · simp only [resolve, hg]
    simp [go_sem]
  · intro f' hf'; simp [Target.leads] at hf'; subst hf'; exact hFg
  · simp [invoke, go_sem, eg]
  · exact calls_turn (Q := Q) (a' := { a with defers := [] ++ a.defers }) hfn hl1 hseq (fun h k => hKt h k) (fun W o o' => hKb W _ o o' (Nat.le_refl _)) hb1 hps I hI hI1 Ax hAx (fun pre x W K => hassign _ pre x W K) (fun pre x b W => hbody _ pre x b W (Nat.le_refl _)) hdone
end Go.Proofs.YtomgnpfpaodpiaaDoor

/- The law of Grow within the round of a loop over a function. -/
namespace Go.Proofs.YtomgnpfpaodpiaaDoor
open Go Go.RowKit
variable {P : Program} {n l : Nat}
def noDefer (ops : List Oper) : Bool := ops.all fun o => match o.op with | .defer _ => false | _ => true
theorem wpIn_round {o : Oper} {a : Act} {w : World} {K : Act → World → Prop} {Q : Exit → Act → World → Prop} (hd : ∀ c, o.op ≠ .defer c) (h : o.wpIn Fence.wide n P a w K Q) : o.wpIn (Fence.wide.inRound l) n P a w K Q := by
  unfold Oper.wpIn at *
  refine ⟨h.1, ?_⟩
  have h2 := h.2
  rw [Oper.semAt_eq _ _ _ hd] at h2 ⊢
  generalize (execOp a.eval o).run P w = r at *
  cases r with
  | ok x w' => cases x <;> exact h2
  | halt x w' => cases x <;> exact h2
theorem wpAnyIn_round {md : Region.Mode} {ops : Array Oper} {Q : Exit → Act → World → Prop} (hd : noDefer ops.toList = true) : ∀ (fuel : Nat) (listed : Array Bool) (a : Act) (w : World), wpAnyIn Fence.wide n P md ops Q fuel listed a w → wpAnyIn (Fence.wide.inRound l) n P md ops Q fuel listed a w := by
  intro fuel
  induction fuel with
  | zero => exact fun _ _ _ h => h
  | succ fuel ih =>
    intro listed a w h
    refine ⟨h.1, fun i hi => ?_⟩
    have h2 := h.2 i hi
    unfold wpOpIn at h2 ⊢
    cases ho : ops[i]? with
    | none => rw [ho] at h2; exact ih _ _ _ h2
    | some o =>
      rw [ho] at h2
      dsimp only at h2 ⊢
      have hdo : ∀ c, o.op ≠ .defer c := by
        intro c hc
        have := List.all_eq_true.1 hd o (by rw [Array.mem_toList_iff]; exact Array.mem_of_getElem? ho)
        simp [hc] at this
      split
      · rename_i hw
        rw [if_pos hw] at h2
        exact wpIn_round hdo (Oper.wpIn_mono (fun a w => ih _ a w) h2)
      · rename_i hw
        rw [if_neg hw] at h2
        exact ⟨h2.1, ih _ _ _ h2.2⟩
theorem quietIn_wide {ops : Array Oper} {C : World → Prop} {Q : Act → Prop} : ∀ (l : List Oper) (a : Act), wpQuiet P ops C Q l a → wpQuietIn Fence.wide n P ops C Q l a := by
  intro l
  induction l with
  | nil => exact fun _ h => h
  | cons o rest ih =>
    intro a h
    refine ⟨fun _ _ _ _ => trivial, ?_⟩
    unfold wpQuiet at h
    split
    · rename_i hw
      rw [if_pos hw] at h
      obtain ⟨v, h1, h2⟩ := h
      refine ⟨v, fun w hC => ?_, ih _ h2⟩
      have := h1 w hC
      unfold Oper.quietAt at this
      unfold Oper.quietAtIn
      generalize (execOp a.eval o).run P w = r at *
      cases r with
      | ok x w' =>
        cases x <;> first
          | exact this
          | exact ⟨this.1, fun h => by simp [Fence.wide] at h, callsIn_wide.2 this.2⟩
      | halt x w' => exact this
    · rename_i hw
      rw [if_neg hw] at h
      exact ih _ h
theorem wpIn_region_grow_round {id : Nat} {Q : Exit → Act → World → Prop} {a : Act} {w : World} {ops : List Oper} (hm : P.follows .mixedOrders = true) (hB : Region.lexB .any ops.toArray = true) (hd : noDefer ops = true)
    (h' : wpQuiet P ops.toArray (fun w' => ∃ g, w' = plus w g) (fun a' => ∀ w', (∃ g, w' = plus w g) → Q .normal a' w') ops a) : (Code.region id ops.toArray true).wpIn (Fence.wide.inRound l) n P Q a w := by
  have h := quietIn_wide (n := n) _ _ h'
  simp only [Region.lexB, Bool.and_eq_true] at hB
  refine wpIn_region_any hm (wpAnyIn_round (by simpa using hd) _ _ _ _ (wpAnyIn_of_quiet (C := fun w' => ∃ g, w' = plus w g) (Q := fun a' => ∀ w', (∃ g, w' = plus w g) → Q .normal a' w') rfl (fun _ w' hw' h => h w' hw') _ _ _ _ ⟨⟨[], w.drawn + 1⟩, by simp [plus]⟩ ?_))
  have := wpAnyQIn_lex (F := Fence.wide) (n := n) (C := fun w' => ∃ g, w' = plus w g) (md := .any) hB.1 ops 0 (Array.replicate ops.toArray.size false) a (by simp) (by simpa using hB.2) h
  simpa using this
theorem wpIn_region_grow_wide {id : Nat} {Q : Exit → Act → World → Prop} {a : Act} {w : World} {ops : List Oper} (hm : P.follows .mixedOrders = true) (hB : Region.lexB .any ops.toArray = true)
    (h' : wpQuiet P ops.toArray (fun w' => ∃ g, w' = plus w g) (fun a' => ∀ w', (∃ g, w' = plus w g) → Q .normal a' w') ops a) : (Code.region id ops.toArray true).wpIn Fence.wide n P Q a w :=
  wpIn_region_quiet (C := fun w' => ∃ g, w' = plus w g) rfl hm hB ⟨⟨[], w.drawn + 1⟩, by simp [plus]⟩ (by simpa using quietIn_wide (n := n) _ _ h')
theorem CallsIn.grow_of {f : FuncId} {args : Array Value} {w : World} {g : More} {v : Value}
    (h : Calls P f args (plus w g) fun e w' => e = .returned v ∧ Below (plus w g).heap.size (plus w g) w') : CallsIn Fence.wide n P f args (plus w g) fun e w'' => e = .returned v ∧ ∃ g', w'' = plus w g' :=
  callsIn_wide.2 (Calls.grow_of h)
end Go.Proofs.YtomgnpfpaodpiaaDoor

/- Iterators: what stays while rounds go on: every block of cells below a world's end, one aside, and rows of one type. -/
namespace Go.Proofs.YtomgnpfpaodpiaaDoor
open Go Go.RowKit Go.Shelf
attribute [local go_sem] Oper.semAt_some
theorem grown_of_below {w w' : World} (h : Below w.heap.size w w') : w.grownBy w' none :=
  ⟨h.os, h.tape, h.output, h.size, fun k hk _ => h.block k hk⟩
theorem abides_below {β : Type} {B : Nat} {J : β → World → Prop} (h : AbidesFrom B J) {s : β} {w w' : World} (hs : J s w) (hb : Below w.heap.size w w') : J s w' :=
  h s w w' none hs (grown_of_below hb) (fun r e => by cases e)
theorem keeps_of_below {A B : World} (h : Below A.heap.size A B) (k : Nat) : KeepsFrom k A B := KeepsFrom.of_grownBy (grown_of_below h) (fun j e => by cases e)
theorem boxed_below {W W' : World} {B : Nat} {t : TypeId} {v : Value} (h : Boxed W B t v) (hb : Below W.heap.size W W') : Boxed W' B t v := (hb.block B h.lt).trans h
def CellsBox (W : World) (B : Nat) (t : TypeId) (cs : List Value) : Prop := W.heap[B]? = some (.cells cs.toArray t (0, 0))
theorem CellsBox.lt {W : World} {B : Nat} {t : TypeId} {cs : List Value} (h : CellsBox W B t cs) : B < W.heap.size := (Array.getElem?_eq_some_iff.1 h).1
theorem CellsBox.cell {W : World} {B : Nat} {t : TypeId} {cs : List Value} (h : CellsBox W B t cs) {j : Nat} {u : Value} (hj : cs[j]? = some u) : W.cell? ⟨B, j, none⟩ = some u := by
  unfold World.cell?
  dsimp only
  rw [show W.heap[B]? = _ from h]
  simp [hj]
theorem CellsBox.frozen {W : World} {b : Nat} {t : TypeId} {cs : List Value} (h : CellsBox W b t cs) (j : Nat) : W.frozen? ⟨b, j, none⟩ = false := by simp [World.frozen?, show W.heap[b]? = _ from h]
theorem CellsBox.new (W : World) (t : TypeId) (cs : List Value) : CellsBox (W.alloc (.cells cs.toArray t)) W.heap.size t cs := World.alloc_heap_new W _
theorem CellsBox.keep {w w' : World} {b : Nat} {t : TypeId} {cs : List Value} (h : CellsBox w b t cs) (hb : Below w.heap.size w w') : CellsBox w' b t cs := (hb.block b h.lt).trans h
theorem CellsBox.apart {W : World} {b : Nat} {t : TypeId} {cs : List Value} (h : CellsBox W b t cs) (p : Addr) (v : Value) (hne : b ≠ p.block) : CellsBox (W.setCell p v) b t cs := (heap_setCell_other W p b v hne).trans h
theorem CellsBox.alloc {W : World} {b : Nat} {t : TypeId} {cs : List Value} (h : CellsBox W b t cs) (o : Obj) : CellsBox (W.alloc o) b t cs := h.keep ((Below.refl _ W).alloc (Nat.le_refl _) o)
theorem CellsBox.store {W : World} {b : Nat} {t : TypeId} {cs : List Value} (h : CellsBox W b t cs) (i : Nat) (v : Value) : CellsBox (W.setCell ⟨b, i, none⟩ v) b t (cs.set i v) := by
  have := heap_setCell_same W b i cs.toArray t v h
  unfold CellsBox
  rw [this]
  simp
theorem CellsBox.arr {W : World} {b : Nat} {p : List Int} (hl : p.length = 12) (h : CellsBox W b 102 (p.map vi)) : ArrAt W b p :=
  ⟨hl, fun j hj => h.cell (by rw [List.getElem?_map, List.getElem?_eq_getElem (by omega)]; simp [List.getElem?_eq_getElem (show j < p.length by omega)]), fun j hj => h.frozen j⟩
theorem CellsBox.setAll {W : World} {b : Nat} {z : List Int} (hl : z.length = 12) (h : CellsBox W b 102 (z.map vi)) (r0 r1 r2 r3 r4 r5 r6 r7 r8 r9 r10 r11 : Int) : CellsBox ((((((((((((W.setCell ⟨b, 0, none⟩ (vi r0)).setCell ⟨b, 1, none⟩ (vi r1)).setCell ⟨b, 2, none⟩ (vi r2)).setCell ⟨b, 3, none⟩ (vi r3)).setCell ⟨b, 4, none⟩ (vi r4)).setCell ⟨b, 5, none⟩ (vi r5)).setCell ⟨b, 6, none⟩ (vi r6)).setCell ⟨b, 7, none⟩ (vi r7)).setCell ⟨b, 8, none⟩ (vi r8)).setCell ⟨b, 9, none⟩ (vi r9)).setCell ⟨b, 10, none⟩ (vi r10)).setCell ⟨b, 11, none⟩ (vi r11)) b 102 ([r0, r1, r2, r3, r4, r5, r6, r7, r8, r9, r10, r11].map vi) := by
  obtain ⟨z0, z1, z2, z3, z4, z5, z6, z7, z8, z9, z10, z11, rfl⟩ := spread hl
  exact ((((((((((((h.store 0 (vi r0)).store 1 (vi r1)).store 2 (vi r2)).store 3 (vi r3)).store 4 (vi r4)).store 5 (vi r5)).store 6 (vi r6)).store 7 (vi r7)).store 8 (vi r8)).store 9 (vi r9)).store 10 (vi r10)).store 11 (vi r11))
/-- whatever lay below n₀ lies as it lay, the block L aside -/
structure Spare (n₀ L : Nat) (w w' : World) : Prop where
  os : w'.os = w.os
  tape : w'.tape = w.tape
  output : w'.output = w.output
  size : w.heap.size ≤ w'.heap.size
  block : ∀ k, k < n₀ → k ≠ L → w'.heap[k]? = w.heap[k]?
theorem Spare.refl (n₀ L : Nat) (w : World) : Spare n₀ L w w := ⟨rfl, rfl, rfl, Nat.le_refl _, fun _ _ _ => rfl⟩
theorem Spare.trans {n₀ L : Nat} {a b c : World} (h : Spare n₀ L a b) (k : Spare n₀ L b c) : Spare n₀ L a c :=
  ⟨k.os.trans h.os, k.tape.trans h.tape, k.output.trans h.output, Nat.le_trans h.size k.size, fun i hi hl => (k.block i hi hl).trans (h.block i hi hl)⟩
theorem spare_of_below {n₀ B : Nat} {a b : World} (L : Nat) (h : Below B a b) (hn : n₀ ≤ B) : Spare n₀ L a b := ⟨h.os, h.tape, h.output, h.size, fun k hk _ => h.block k (by omega)⟩
theorem Spare.cell {n₀ L : Nat} {a b : World} (h : Spare n₀ L a b) {p : Addr} (hp : p.block < n₀) (hl : p.block ≠ L) : b.cell? p = a.cell? p := by
  simp [World.cell?, h.block _ hp hl]
theorem Spare.below {n₀ L : Nat} {a b : World} (h : Spare n₀ L a b) {B : Nat} (h1 : B ≤ n₀) (h2 : B ≤ L) : Below B a b :=
  ⟨h.os, h.tape, h.output, h.size, fun k hk => h.block k (by omega) (by omega)⟩
/-- whatever lay below n₀ lies as it lay, and every block of cells that are not of type e, the block L aside -/
structure KE (e : TypeId) (n₀ L : Nat) (w w' : World) : Prop where
  spare : Spare n₀ L w w'
  boxes : ∀ (k : Nat) (c : Array Value) (t : TypeId), k ≠ L → t ≠ e → w.heap[k]? = some (.cells c t (0, 0)) → w'.heap[k]? = some (.cells c t (0, 0))
theorem KE.refl (e : TypeId) (n₀ L : Nat) (w : World) : KE e n₀ L w w := ⟨Spare.refl _ _ _, fun _ _ _ _ _ h => h⟩
theorem KE.trans {e : TypeId} {n₀ L : Nat} {a b c : World} (h : KE e n₀ L a b) (k : KE e n₀ L b c) : KE e n₀ L a c :=
  ⟨h.spare.trans k.spare, fun i x t hl ht hi => k.boxes i x t hl ht (h.boxes i x t hl ht hi)⟩
theorem KE.size {e : TypeId} {n₀ L : Nat} {a b : World} (h : KE e n₀ L a b) : a.heap.size ≤ b.heap.size := h.spare.size
theorem KE.turn {e : TypeId} {n₀ : Nat} (L : Nat) (W : World) (l : Nat) (o o' : Obj) (hn : n₀ ≤ l) (h : W.heap[l]? = some o) (h1 : o.isCells = false) : KE e n₀ L W (W.putObj l o') :=
  ⟨⟨rfl, rfl, rfl, by simp, fun k hk _ => World.putObj_heap_other (by omega)⟩, fun k c t _ _ hk => by
    by_cases e : k = l
    · subst e; rw [h] at hk; cases hk; cases h1
    · exact (World.putObj_heap_other e).trans hk⟩
theorem ke_of_below {e : TypeId} {n₀ L : Nat} {a b : World} (h : Below a.heap.size a b) (hn : n₀ ≤ a.heap.size) : KE e n₀ L a b :=
  ⟨spare_of_below L h hn, fun k c t _ _ hk => (h.block k (Array.getElem?_eq_some_iff.1 hk).1).trans hk⟩
theorem KE.box {e : TypeId} {n₀ L B : Nat} {a b : World} {t : TypeId} {cs : List Value} (h : KE e n₀ L a b) (hl : B ≠ L) (ht : t ≠ e) (hc : CellsBox a B t cs) : CellsBox b B t cs := h.boxes B _ t hl ht hc
theorem ownFrom_spare {β : Type} {n₀ B L : Nat} {w₀ : World} (hn : n₀ ≤ w₀.heap.size) (hB : n₀ ≤ B) : OwnFrom B (fun (_ : β) W => Spare n₀ L w₀ W) := by
  intro s X Y row hs hg hr
  refine hs.trans ⟨hg.os, hg.tape, hg.output, hg.size, fun k hk _ => ?_⟩
  exact hg.block k (by have := hs.size; omega) fun e => by have := (hr k e.symm).1; omega
theorem ownFrom_ke {β : Type} {e : TypeId} {n₀ L B : Nat} {w₀ : World} (hn : n₀ ≤ w₀.heap.size) (hB : n₀ ≤ B) : OwnFrom B (fun (_ : β) W => KE e n₀ L w₀ W) := by
  intro s X Y row hs hg hr
  refine ⟨ownFrom_spare hn hB s X Y row hs.spare hg hr, fun k c t hl ht hk => ?_⟩
  have hX := hs.boxes k c t hl ht hk
  refine (hg.block k (Array.getElem?_eq_some_iff.1 hX).1 fun e => ?_).trans hX
  obtain ⟨_, o', ho', hc⟩ := hr k e.symm
  rw [hX] at ho'; cases ho'; cases hc
/-- an append to the list in the box L -/
theorem appended_ke {e te : TypeId} {size : Nat} {W w1 : World} {n₀ base L : Nat} {v v' : Value} {k m : Nat} {xs ys : List Value} {tmp : Obj}
    (hv : Boxed W L te v) (hte : te ≠ e) (hrow : W.ownsRow base e size v k xs) (hb : n₀ ≤ base) (hn₀ : base ≤ W.heap.size)
    (hown' : w1.ownsRow base e size v' m ys) (hgrow : (W.alloc tmp).grownBy w1 v.ownBlock) :
    Boxed w1 L te v ∧ Boxed (w1.setCell ⟨L, 0, none⟩ v') L te v' ∧ (w1.setCell ⟨L, 0, none⟩ v').ownsRow base e size v' m ys ∧ KeepsOthers W (w1.setCell ⟨L, 0, none⟩ v') ∧ KE e n₀ L W (w1.setCell ⟨L, 0, none⟩ v') := by
  obtain ⟨h1, h2, _, h4, h5⟩ := hv.appended hte (own_base hrow (Nat.zero_le _)) (Nat.zero_le _) (Nat.zero_le _) (own_base hown' (Nat.zero_le _)) hgrow
  refine ⟨h1, h2, hown'.kept (grownBy_setCell' w1 L v') (.inr (h1.not_row hte hown').symm), h4, ⟨h5.os, h5.tape, h5.output, h5.size, fun i hi hl => ?_⟩, fun i c t hl ht hi => ?_⟩
  · have g1 := (grownBy_setCell' w1 L v').block i (by have := hgrow.size; simp at this; omega) (by simpa using hl)
    have g2 := hgrow.block i (by simp; omega) (fun e => by have := (hrow.lt i e.symm).1; omega)
    rw [g1, g2]
    exact Below.heap_alloc _ _ _ (by omega)
  · have hiW : i < W.heap.size := (Array.getElem?_eq_some_iff.1 hi).1
    have g1 := (grownBy_setCell' w1 L v').block i (by have := hgrow.size; simp at this; omega) (by simpa using hl)
    have g2 := hgrow.block i (by simp; omega) (fun e => by
      rcases hrow.2 with ⟨rfl, _⟩ | ⟨g, cp, cur, rfl, _, hh, _⟩
      · cases e
      · cases e
        rw [hi] at hh
        cases hh
        exact ht rfl)
    rw [g1, g2]
    exact (Below.heap_alloc _ _ _ hiW).trans hi
end Go.Proofs.YtomgnpfpaodpiaaDoor

