/- Contract of Late. -/
import Derived.Test.YtomgnpfpaodpiaaDoorJ09
set_option linter.unusedVariables false
set_option linter.unusedSimpArgs false
namespace Go.Proofs.YtomgnpfpaodpiaaDoor
open Go Go.RowKit Go.Shelf
set_option maxHeartbeats 4000000
attribute [local go_sem] Oper.semAt_some
/-- none of those that were tried so far can be late alone -/
def NoneF (f : Floor) (p k : Nat) : Prop := ∀ j, j < k → ∀ y ∈ choF j (slipsF f) [], canLess f p y = false
theorem late_some {f : Floor} {p k : Nat} {d r : List (List Int)} {y : List Int} (hn : NoneF f p k) (hk : k < f.slips.length) (he : choF k (slipsF f) [] = d ++ y :: r) (hd : ∀ z ∈ d, canLess f p z = false) (hy : canLess f p y = true) : lateF f p = y := by
  unfold lateF
  have h1 : (choF k (slipsF f) []).find? (canLess f p) = some y := by
    rw [he, List.find?_append, List.find?_eq_none.2 (fun z hz => by rw [hd z hz]; simp), List.find?_cons, hy]
    rfl
  have h2 : ((List.range f.slips.length).findSome? fun many => (choF many (slipsF f) []).find? (canLess f p)) = some y := by
    rw [List.findSome?_eq_some_iff]
    refine ⟨List.range k, k, (List.range f.slips.length).drop (k + 1), ?_, h1, fun j hj => ?_⟩
    · have e := List.take_append_drop k (List.range f.slips.length)
      rw [List.take_range, Nat.min_eq_left (by omega)] at e
      have e2 : (List.range f.slips.length).drop k = k :: (List.range f.slips.length).drop (k + 1) := by
        rw [List.drop_eq_getElem_cons (by simpa using hk)]
        simp
      rw [← e2, e]
    · rw [List.find?_eq_none]
      intro z hz
      rw [hn j (List.mem_range.1 hj) z hz]; simp
  rw [h2]
  rfl
theorem late_none {f : Floor} {p : Nat} (hn : NoneF f p f.slips.length) : lateF f p = slipsF f := by
  unfold lateF
  have h2 : ((List.range f.slips.length).findSome? fun many => (choF many (slipsF f) []).find? (canLess f p)) = none := by
    rw [List.findSome?_eq_none_iff]
    intro j hj
    rw [List.find?_eq_none]
    intro z hz
    rw [hn j (List.mem_range.1 hj) z hz]; simp
  rw [h2]
  rfl
/-- what is so between rounds of the outer loop -/
structure LateO (f : Floor) (p bm k : Nat) (Ds : List Nat) (W4 X : World) : Prop where
  crew : ∃ μ, CrewMap X bm μ ∧ Inv f 5 μ
  none : NoneF f p k
  cs : CS W4 X
  spare : Spare W4.heap.size bm W4 X
  nodup : Ds.Nodup
  marks : ∀ D ∈ Ds, W4.heap.size ≤ D ∧ X.heap[D]? = some (.deferred (some []))
/-- what is so between rounds of the inner one -/
def LateI (f : Floor) (p bm : Nat) (W0 : World) (pre : List SRow) (X : World) : Prop := (∃ μ, CrewMap X bm μ ∧ Inv f 5 μ) ∧ (∀ y ∈ pre, canLess f p y.slips = false) ∧ CS W0 X ∧ Spare W0.heap.size bm W0 X
def LateX (f : Floor) (p b4 b5 : Nat) (w : World) (Ds : List Nat) (c : Code) (pre : List SRow) (X : World) : Prop :=
  c = .ret ∧ ∃ d x, pre = d ++ [x] ∧ (∀ y ∈ d, canLess f p y.slips = false) ∧ canLess f p x.slips = true ∧ IntsAt X X.heap.size x.ad x.slips.length x.slips ∧ CellsBox X b4 22 [.slice x.ad x.slips.length x.slips.length] ∧ CellsBox X b5 30 [vi 0] ∧ Below w.heap.size w X ∧ ∀ D ∈ Ds, X.heap[D]? = some (.deferred (some []))
theorem own_lateI (f : Floor) (p bm : Nat) (W0 : World) (hbm : bm < W0.heap.size) : OwnFrom W0.heap.size (LateI f p bm W0) := by
  rintro s X Y row ⟨⟨μ, h1, h2⟩, h3, h4, h5⟩ hg hr
  exact ⟨⟨μ, crew_row h1 hbm hg hr, h2⟩, h3, h4.trans (cs_row hg hr), spare_row h5 (Nat.le_refl _) (Nat.le_refl _) hg hr⟩
theorem own_lateX (f : Floor) (p b4 b5 : Nat) (w : World) (Ds : List Nat) (B : Nat) (hw : w.heap.size ≤ B) (hDs : ∀ D ∈ Ds, D < B) (c : Code) : OwnFrom B (LateX f p b4 b5 w Ds c) := by
  rintro s X Y row ⟨hc, d, x, h0, h1, h2, h3, h4, h5, h6, h7⟩ hg hr
  have hcs := cs_row hg hr
  refine ⟨hc, d, x, h0, h1, h2, hcs.rows h3, hcs.box h4, hcs.box h5, ?_, fun D hD => heap_stays hg (fun r e => (hr r e).1) (h7 D hD) (hDs D hD)⟩
  exact ⟨hg.os.trans h6.os, hg.tape.trans h6.tape, hg.output.trans h6.output, Nat.le_trans h6.size hg.size, fun k hk => (hg.block k (by have := h6.size; omega) fun e => by have := (hr k e.symm).1; omega).trans (h6.block k hk)⟩
/-- a box of one cell that is written -/
theorem box_one {W : World} {b : Nat} {t : TypeId} {v u : Value} (h : CellsBox W b t [v]) : CellsBox (W.setCell ⟨b, 0, none⟩ u) b t [u] := h.store 0 u
theorem box_cells {W : World} {b : Nat} {t : TypeId} {v : Value} (h : CellsBox W b t [v]) {o : Nat} {x : Value} (hx : W.cell? ⟨b, o, none⟩ = some x) : o = 0 ∧ x = v := by
  unfold World.cell? at hx
  dsimp only at hx
  rw [show W.heap[b]? = _ from h] at hx
  cases o with
  | zero => simp at hx; exact ⟨rfl, hx.symm⟩
  | succ o => simp at hx
/-- ints lie where they did, when a box is written that holds no int, or what it held -/
theorem ints_box {W : World} {b cap : Nat} {t : TypeId} {v u : Value} {A : Option Addr} {l : List Int} (h : IntsAt W W.heap.size A cap l) (hb : CellsBox W b t [v]) (hv : (∀ n : Int, v ≠ vi n) ∨ u = v) : IntsAt (W.setCell ⟨b, 0, none⟩ u) (W.setCell ⟨b, 0, none⟩ u).heap.size A cap l := by
  refine ⟨h.len, h.cap, h.few, fun hl => ?_⟩
  obtain ⟨b', off, hA, hlt, hc⟩ := h.row hl
  refine ⟨b', off, hA, by simpa using hlt, fun i r hi j x hj hx => ?_⟩
  have h1 := hc i r hi j x hj hx
  by_cases hbb : b' = b
  · subst hbb
    obtain ⟨ho, hxv⟩ := box_cells hb h1
    rcases hv with hv | rfl
    · exfalso
      rw [List.getElem?_map] at hi
      obtain ⟨n, _, rfl⟩ := Option.map_eq_some_iff.1 hi
      cases j with
      | zero => simp at hx; exact hv n (hxv.symm.trans hx.symm)
      | succ j => simp at hx
    · rw [ho, hxv]
      exact (box_one hb).cell (j := 0) rfl
  · have hb2 : b ≠ b' := fun e => hbb e.symm
    unfold World.cell? at h1 ⊢
    dsimp only at h1 ⊢
    rw [heap_setCell_other _ _ b' _ (by simpa using hbb)]
    exact h1
theorem cs_shut : ∀ (Ds : List Nat) (w : World), Ds.Nodup → (∀ D ∈ Ds, w.heap[D]? = some (.deferred (some []))) → CS w (shut w Ds)
  | [], w, _, _ => CS.refl w
  | D :: Ds, w, hn, h => by
    obtain ⟨n1, n2⟩ := List.nodup_cons.1 hn
    exact (CS.turn w D _ _ (h D (by simp)) rfl).trans (cs_shut Ds _ n2 (fun E hE => (World.putObj_heap_other (fun e => by subst e; exact n1 hE)).trans (h E (by simp [hE]))))
theorem below_shut {B : Nat} {w0 : World} : ∀ (Ds : List Nat) (w : World), Below B w0 w → (∀ D ∈ Ds, B ≤ D) → Below B w0 (shut w Ds)
  | [], _, h, _ => h
  | D :: Ds, w, h, k => below_shut Ds _ ⟨h.os, h.tape, h.output, by simpa using h.size, fun j hj => (World.putObj_heap_other (by have := k D (by simp); omega)).trans (h.block j hj)⟩ (fun E hE => k E (by simp [hE]))
set_option maxRecDepth 100000 in
theorem Late_any (f : Floor) (n : Int) (w : World) (hl : Lim w) (h : FloorAt w w.heap.size f) :
    Calls Tryd.prog 30 #[f.val, vi n] w fun e w' => ∃ A, e = .returned (.tuple #[.slice A (LateV f n).1.length (LateV f n).1.length, vi (LateV f n).2]) ∧ IntsAt w' w'.heap.size A (LateV f n).1.length (LateV f n).1 ∧ Below w.heap.size w w' := by
  have HL := Lib.hid hl
  have HF := Lib.hid h
  rcases check_two f with ⟨hc, hv⟩ | ⟨hc, hv⟩
  · have CH := Lib.hid (fun (W : World) hL hW => check_is hc W hL hW)
    have E : LateV f n = ([], 30) := by unfold LateV; rw [if_neg (by omega), hc]
    rw [E]
    clear h hl hc E hv
    refine (callsIn_wide (n := 12)).1 ?_
    refine callsIn_of_wp_marks Tryd.func30 rfl trivial ?_ rfl
    simp only [Tryd.ntmps30, List.size_toArray, List.length_cons, List.length_nil, Nat.reduceAdd, Nat.reduceSub, Array.replicate_succ, Array.replicate_zero, List.push_toArray, List.append_toArray, List.nil_append, List.cons_append]
    gi_wp2_with fail
    refine ⟨trivial, ?_⟩
    refine (callsIn_wide.2 (CH.out _ (HL.out.next (by (repeat (first | exact Below.refl _ _ | refine Below.setCell ?_ (by first | omega | (simp; omega) | (simp; done)) _ | refine Below.alloc ?_ (by first | omega | (simp; omega) | (simp; done)) _ | refine Below.drew ?_ | refine below_drewN ?_ _ | refine Below.trans ?_ (Below.mono (by assumption) (by first | omega | (simp; omega) | (simp; done))))))) (HF.out.to (by (repeat (first | exact Below.refl _ _ | refine Below.setCell ?_ (by first | omega | (simp; omega) | (simp; done)) _ | refine Below.alloc ?_ (by first | omega | (simp; omega) | (simp; done)) _ | refine Below.drew ?_ | refine below_drewN ?_ _ | refine Below.trans ?_ (Below.mono (by assumption) (by first | omega | (simp; omega) | (simp; done))))))))).mono ?_
    rintro e W ⟨rfl, hb⟩
    have HB0 : Below w.heap.size w W := by (repeat (first | exact Below.refl _ _ | refine Below.setCell ?_ (by first | omega | (simp; omega) | (simp; done)) _ | refine Below.alloc ?_ (by first | omega | (simp; omega) | (simp; done)) _ | refine Below.drew ?_ | refine below_drewN ?_ _ | refine Below.trans ?_ (Below.mono (by assumption) (by first | omega | (simp; omega) | (simp; done)))))
    have X4 : CellsBox W (w.heap.size + 1 + 1) 22 [.slice none 0 0] := by
      refine CellsBox.keep (b := w.heap.size + 1 + 1) (t := 22) (cs := [.slice none 0 0]) ?_ hb
      have := (CellsBox.new ((w.alloc (.cells f.cells.toArray 28)).alloc (.cells #[vi n] 3)) 22 [.slice none 0 0]).alloc (.cells #[vi 0] 30)
      simpa using this
    have X5 : CellsBox W (w.heap.size + 1 + 1 + 1) 30 [vi 0] := by
      refine CellsBox.keep (b := w.heap.size + 1 + 1 + 1) (t := 30) (cs := [vi 0]) ?_ hb
      have := CellsBox.new (((w.alloc (.cells f.cells.toArray 28)).alloc (.cells #[vi n] 3)).alloc (.cells #[.slice none 0 0] 22)) 30 [vi 0]
      simpa using this
    have c4 := X4.cell (j := 0) rfl
    have q4 := X4.frozen 0
    have z4 := X4.lt
    have c5 := X5.cell (j := 0) rfl
    have q5 := X5.frozen 0
    have z5 := X5.lt
    have HX4 := Lib.hid X4
    have HX5 := Lib.hid X5
    clear hb X4 X5 CH
    gi_wp2_with fail
    refine (?_ : ∀ Z : World, (Z.cell? ⟨w.heap.size + 1 + 1, 0, none⟩ = some (.slice none 0 0) ∧ Z.cell? ⟨w.heap.size + 1 + 1 + 1, 0, none⟩ = some (vi 30) ∧ Below w.heap.size w Z) → bodyPostM _ _ _ _ _ _ _ Z) _ ⟨?_, ?_, ?_⟩
    · rintro Z ⟨o4, o5, hZ⟩
      exact ⟨.tuple #[.slice none 0 0, vi 30], by simp [results, Tryd.results30, go_sem, o4, o5], none, rfl, rows_nil _ _, hZ⟩
    · have := (((HX4.out.store 0 (.slice none 0 0)).apart ⟨w.heap.size + 1 + 1 + 1, 0, none⟩ (vi 30) (by simp))).cell (j := 0) rfl
      simpa using this
    · have := ((HX5.out.apart ⟨w.heap.size + 1 + 1, 0, none⟩ (.slice none 0 0) (by simp)).store 0 (vi 30)).cell (j := 0) rfl
      simpa using this
    · (repeat (first | exact Below.refl _ _ | refine Below.setCell ?_ (by first | omega | (simp; omega) | (simp; done)) _ | refine Below.alloc ?_ (by first | omega | (simp; omega) | (simp; done)) _ | refine Below.drew ?_ | refine below_drewN ?_ _ | refine Below.trans ?_ (Below.mono (by assumption) (by first | omega | (simp; omega) | (simp; done)))))
  · have CH := Lib.hid (fun (W : World) hL hW => check_is hc W hL hW)
    have HV := Lib.hid hv
    have H9 := Lib.hid (fine hv).slips9
    obtain ⟨hb, hhb⟩ : ∃ hb, hasB 1 5 n = hb := ⟨_, rfl⟩
    have HAS := Lib.hid (fun (W : World) => has_is hhb W)
    have E : Hid (LateV f n = if hb then (lateF f n.toNat, 0) else ([], 31)) := by unfold Hid LateV; rw [if_pos hc, hhb]
    have HHB := Lib.hid hhb
    obtain ⟨RV, hRV⟩ : ∃ RV, RV = LateV f n := ⟨_, rfl⟩
    rw [← hRV] at E ⊢
    clear h hl hc hv hhb hRV
    refine (callsIn_wide (n := 12)).1 ?_
    refine callsIn_of_wp_marks Tryd.func30 rfl trivial ?_ rfl
    simp only [Tryd.ntmps30, List.size_toArray, List.length_cons, List.length_nil, Nat.reduceAdd, Nat.reduceSub, Array.replicate_succ, Array.replicate_zero, List.push_toArray, List.append_toArray, List.nil_append, List.cons_append]
    gi_wp2_with fail
    refine ⟨trivial, ?_⟩
    refine (callsIn_wide.2 (CH.out _ (HL.out.next (by (repeat (first | exact Below.refl _ _ | refine Below.setCell ?_ (by first | omega | (simp; omega) | (simp; done)) _ | refine Below.alloc ?_ (by first | omega | (simp; omega) | (simp; done)) _ | refine Below.drew ?_ | refine below_drewN ?_ _ | refine Below.trans ?_ (Below.mono (by assumption) (by first | omega | (simp; omega) | (simp; done))))))) (HF.out.to (by (repeat (first | exact Below.refl _ _ | refine Below.setCell ?_ (by first | omega | (simp; omega) | (simp; done)) _ | refine Below.alloc ?_ (by first | omega | (simp; omega) | (simp; done)) _ | refine Below.drew ?_ | refine below_drewN ?_ _ | refine Below.trans ?_ (Below.mono (by assumption) (by first | omega | (simp; omega) | (simp; done))))))))).mono ?_
    rintro e W ⟨rfl, hb0⟩
    have HB0 : Below w.heap.size w W := by (repeat (first | exact Below.refl _ _ | refine Below.setCell ?_ (by first | omega | (simp; omega) | (simp; done)) _ | refine Below.alloc ?_ (by first | omega | (simp; omega) | (simp; done)) _ | refine Below.drew ?_ | refine below_drewN ?_ _ | refine Below.trans ?_ (Below.mono (by assumption) (by first | omega | (simp; omega) | (simp; done)))))
    have X2 : CellsBox W w.heap.size 28 f.cells := (((CellsBox.new w 28 f.cells).alloc _).alloc _).alloc _ |>.keep hb0
    have X3 : CellsBox W (w.heap.size + 1) 3 [vi n] := by
      refine CellsBox.keep (b := w.heap.size + 1) (t := 3) (cs := [vi n]) ?_ hb0
      have := ((CellsBox.new (w.alloc (.cells f.cells.toArray 28)) 3 [vi n]).alloc (.cells #[.slice none 0 0] 22)).alloc (.cells #[vi 0] 30)
      simpa using this
    have X4 : CellsBox W (w.heap.size + 1 + 1) 22 [.slice none 0 0] := by
      refine CellsBox.keep (b := w.heap.size + 1 + 1) (t := 22) (cs := [.slice none 0 0]) ?_ hb0
      have := (CellsBox.new ((w.alloc (.cells f.cells.toArray 28)).alloc (.cells #[vi n] 3)) 22 [.slice none 0 0]).alloc (.cells #[vi 0] 30)
      simpa using this
    have X5 : CellsBox W (w.heap.size + 1 + 1 + 1) 30 [vi 0] := by
      refine CellsBox.keep (b := w.heap.size + 1 + 1 + 1) (t := 30) (cs := [vi 0]) ?_ hb0
      have := CellsBox.new (((w.alloc (.cells f.cells.toArray 28)).alloc (.cells #[vi n] 3)).alloc (.cells #[.slice none 0 0] 22)) 30 [vi 0]
      simpa using this
    have HLW := HL.out.next HB0
    have l0 := (HLW.row 9 (by omega) (a := 1) (b := 5) (by decide) (by decide)).1
    have l1 := (HLW.row 9 (by omega) (a := 1) (b := 5) (by decide) (by decide)).2
    have zL := HLW.pos
    have n0 := X3.cell (j := 0) rfl
    have zn := X3.lt
    have HX2 := Lib.hid X2
    have HX3 := Lib.hid X3
    have HX4 := Lib.hid X4
    have HX5 := Lib.hid X5
    have HLW := Lib.hid HLW
    clear hb0 X2 X3 X4 X5 CH
    gi_wp2_with fail
    refine ⟨trivial, ?_⟩
    refine (callsIn_wide.2 (HAS.out _)).mono ?_
    rintro e W1 ⟨rfl, hb1⟩
    have HB1 : Below w.heap.size w W1 := HB0.trans (hb1.mono HB0.size)
    have HX2 := Lib.hid (HX2.out.keep hb1)
    have HX3 := Lib.hid (HX3.out.keep hb1)
    have HX4 := Lib.hid (HX4.out.keep hb1)
    have HX5 := Lib.hid (HX5.out.keep hb1)
    clear l0 l1 zL n0 zn hb1
    rcases hb with _ | _
    · have c4 := HX4.out.cell (j := 0) rfl
      have q4 := HX4.out.frozen 0
      have z4 := HX4.out.lt
      have c5 := HX5.out.cell (j := 0) rfl
      have q5 := HX5.out.frozen 0
      have z5 := HX5.out.lt
      gi_wp2_with fail
      refine (?_ : ∀ Z : World, (Z.cell? ⟨w.heap.size + 1 + 1, 0, none⟩ = some (.slice none 0 0) ∧ Z.cell? ⟨w.heap.size + 1 + 1 + 1, 0, none⟩ = some (vi 31) ∧ Below w.heap.size w Z) → bodyPostM _ _ _ _ _ _ _ Z) _ ⟨?_, ?_, ?_⟩
      · rintro Z ⟨o4, o5, hZ⟩
        refine ⟨.tuple #[.slice none 0 0, vi 31], by simp [results, Tryd.results30, go_sem, o4, o5], none, ?_, ?_, hZ⟩
        · rw [E.out]; rfl
        · rw [E.out]; exact rows_nil _ _
      · have := (((HX4.out.store 0 (.slice none 0 0)).apart ⟨w.heap.size + 1 + 1 + 1, 0, none⟩ (vi 31) (by simp))).cell (j := 0) rfl
        simpa using this
      · have := ((HX5.out.apart ⟨w.heap.size + 1 + 1, 0, none⟩ (.slice none 0 0) (by simp)).store 0 (vi 31)).cell (j := 0) rfl
        simpa using this
      · (repeat (first | exact Below.refl _ _ | refine Below.setCell ?_ (by first | omega | (simp; omega) | (simp; done)) _ | refine Below.alloc ?_ (by first | omega | (simp; omega) | (simp; done)) _ | refine Below.drew ?_ | refine below_drewN ?_ _ | refine Below.trans ?_ (Below.mono (by assumption) (by first | omega | (simp; omega) | (simp; done)))))
    · have EV : Hid (RV = (lateF f n.toNat, 0)) := by unfold Hid; rw [E.out]; rfl
      obtain ⟨p, hp⟩ : ∃ p : Nat, n = p := ⟨n.toNat, by have := hasB_iff.1 HHB.out; omega⟩
      have hp5 : 1 ≤ p ∧ p ≤ 5 := by have := hasB_iff.1 HHB.out; omega
      subst hp
      have a0 := HX2.out.cell (j := 0) rfl
      have a1 := HX2.out.cell (j := 1) rfl
      have a2 := HX2.out.cell (j := 2) rfl
      have a3 := HX2.out.cell (j := 3) rfl
      have a4 := HX2.out.cell (j := 4) rfl
      have a5 := HX2.out.cell (j := 5) rfl
      have z2 := HX2.out.lt
      gi_wp2_with fail
      refine ⟨trivial, ?_⟩
      refine (callsIn_wide.2 (desk_any f HV.out _ (HF.out.to HB1))).mono ?_
      rintro e W2 ⟨oA, qA, qC, bm, rfl, hD, hbm, hb2⟩
      have HB2 : Below w.heap.size w W2 := HB1.trans (hb2.mono HB1.size)
      have hz1 := HB1.size
      have hz2 := hb2.size
      have HD := Lib.hid (hD.into (HF.out.to HB2))
      have hMt := (Array.getElem?_eq_some_iff.1 hD.map).1
      have HM := Lib.hid (CrewMap.new hD.map)
      have HX3 := Lib.hid (HX3.out.keep hb2)
      have HX4 := Lib.hid (HX4.out.keep hb2)
      have HX5 := Lib.hid (HX5.out.keep hb2)
      have AL := Lib.hid (fun X => all_any f H9.out X)
      have E0 : (2 ^ f.slips.length - 1 : Nat) = allF f := rfl
      rw [E0] at AL
      have hmem : membersF (allF f) = List.range f.slips.length := members_all ⟨f.slips.length, by have := H9.out; omega⟩
      have MEM : Hid (∀ X : World, Calls Tryd.prog 74 #[vi (allF f)] X fun e w' => ∃ A, e = .returned (.slice A f.slips.length f.slips.length) ∧ IntsAt w' w'.heap.size A f.slips.length (slipsF f) ∧ Below X.heap.size X w') := fun X => by
        refine (members_any (allF f) (allF_lt H9.out) X).mono ?_
        rintro e w' ⟨A, rfl, h1, _, h3⟩
        rw [hmem] at h1 ⊢
        rw [List.length_range] at h1 ⊢
        exact ⟨A, rfl, h1, h3⟩
      clear hb2 hD a0 a1 a2 a3 a4 a5 z2 E0 HX2 hmem
      gi_wp2_with fail
      obtain ⟨V, hV⟩ : ∃ V, V = W2.alloc (.cells #[.slice f.fA f.far.length f.fC, vi f.slo, vi f.shi, .slice f.pA f.picks.length f.pC, vi f.carry, .slice f.sA f.slips.length f.sC, .slice oA f.slips.length f.slips.length, .slice qA f.slips.length qC, .map (some bm)] 108) := ⟨_, rfl⟩
      have hbV : Below W2.heap.size W2 V := by rw [hV]; (repeat (first | exact Below.refl _ _ | refine Below.setCell ?_ (by first | omega | (simp; omega) | (simp; done)) _ | refine Below.alloc ?_ (by first | omega | (simp; omega) | (simp; done)) _ | refine Below.drew ?_ | refine below_drewN ?_ _ | refine Below.trans ?_ (Below.mono (by assumption) (by first | omega | (simp; omega) | (simp; done)))))
      have X7 : CellsBox V W2.heap.size 108 (deskC f oA f.slips.length qA f.slips.length qC bm) := by rw [hV]; exact CellsBox.new W2 _ _
      rw [← hV]
      clear hV
      refine ⟨trivial, ?_⟩
      refine (callsIn_wide.2 (AL.out _)).mono ?_
      rintro e W3 ⟨rfl, hb3⟩
      gi_wp2_with fail
      refine ⟨trivial, ?_⟩
      refine (callsIn_wide.2 (MEM.out _)).mono ?_
      rintro e W4 ⟨mA, rfl, hMI, hb4⟩
      have hb24 : Below W2.heap.size W2 W4 := hbV.trans ((gr_trans hb3 hb4).mono hbV.size)
      have HB4 : Below w.heap.size w W4 := HB2.trans (hb24.mono HB2.size)
      have HX7 : Hid (CellsBox W4 W2.heap.size 108 (deskC f oA f.slips.length qA f.slips.length qC bm)) := X7.keep (gr_trans hb3 hb4)
      have HX3 := Lib.hid (HX3.out.keep hb24)
      have HX4 := Lib.hid (HX4.out.keep hb24)
      have HX5 := Lib.hid (HX5.out.keep hb24)
      have HD := Lib.hid (HD.out.cs (cs_of_below hb24))
      have HM := Lib.hid (HM.out.below hb24)
      have HMI := Lib.hid hMI
      have hz4 := hb24.size
      have hL9 : f.slips.length ≤ 9 := H9.out
      clear hb3 hb4 hbV hb24 X7 hMI
      gi_wp2_with fail
      obtain ⟨fv, hfv⟩ : ∃ fv, fv = f.val := ⟨_, rfl⟩
      refine wpIn_loop (fun a' w' => ∃ (u9 u30 u31 u32 u33 u34 u35 u53 : Value) (k : Nat) (Ds : List Nat), (k ≤ f.slips.length ∧ u30 = vi k ∧ LateO f p bm k Ds W4 w') ∧ a' = Act.mk #[f.val, vi p, .pointer (some ⟨w.heap.size, 0, none⟩), .pointer (some ⟨w.heap.size + 1, 0, none⟩), .pointer (some ⟨w.heap.size + 1 + 1, 0, none⟩), .pointer (some ⟨w.heap.size + 1 + 1 + 1, 0, none⟩), vi 0, .pointer (some ⟨W2.heap.size, 0, none⟩), .slice mA f.slips.length f.slips.length, u9, undef,
          f.val, vi 0, vi 0, .bool false, undef, .pointer (some ⟨0, 18, none⟩), .agg #[vi 1, vi 5], vi p, .bool true, .bool false, f.val, f.val,
          .agg #[.slice f.fA f.far.length f.fC, vi f.slo, vi f.shi, .slice f.pA f.picks.length f.pC, vi f.carry, .slice f.sA f.slips.length f.sC, .slice oA f.slips.length f.slips.length, .slice qA f.slips.length qC, .map (some bm)], .pointer (some ⟨W2.heap.size, 0, none⟩), f.val, vi (allF f), .slice mA f.slips.length f.slips.length, .slice mA f.slips.length f.slips.length, vi f.slips.length, u30, u31, u32, u33, u34, u35,
          undef, undef, undef, undef, undef, undef, undef, undef, undef, undef, undef, undef, undef, undef, undef, undef, undef, u53, undef] (marksOf Ds)) (fun a' _ => f.slips.length - (intOf (a'.tmps.getD 30 undef)).toNat) ?start ?round
      case start =>
        exact ⟨_, _, _, _, _, _, _, _, 0, [], ⟨Nat.zero_le _, rfl, ⟨⟨_, HM.out, Inv.empty f 5⟩, fun j hj => absurd hj (by omega), CS.refl _, Spare.refl _ _ _, List.nodup_nil, fun D hD => by simp at hD⟩⟩, rfl⟩
      case round =>
        rintro _ wr ⟨u9, u30, u31, u32, u33, u34, u35, u53, k, Ds, ⟨hk, rfl, hO⟩, rfl⟩
        have HO := Lib.hid hO
        clear hO
        by_cases hlt : k < f.slips.length
        · have hkI : (k : Int) < f.slips.length := by omega
          have hwk : IntKind.wrap .i64 ((k : Int) + 1) = (k : Int) + 1 := wrapI (by omega) (by omega)
          have HMk : Hid (IntsAt wr wr.heap.size mA f.slips.length (slipsF f)) := HO.out.cs.rows HMI.out
          have hsl : (slipsF f).length = f.slips.length := by simp [slipsF]
          have OF := Lib.hid (of_any k (slipsF f) mA f.slips.length wr HMk.out)
          rw [hsl] at OF
          clear hsl
          gi_wp2_with fail
          refine ⟨trivial, ?_⟩
          refine (callsIn_wide.2 OF.out).mono ?_
          rintro e W5 ⟨pM, pL, rfl, hOA, hb5⟩
          have HOA := Lib.hid hOA
          have HB5 := Lib.hid hb5
          clear hOA hb5 OF
          gi_wp2_with fail
          have hz5 := HB5.out.size
          have hzO := HO.out.cs.size
          have hbm4 : bm < W4.heap.size := by omega
          have hbm5 : bm < W5.heap.size := by omega
          have HDs : Hid (∀ D ∈ Ds, W4.heap.size ≤ D ∧ D < W5.heap.size ∧ W5.heap[D]? = some (.deferred (some []))) := fun D hD => by
            obtain ⟨d1, d2⟩ := HO.out.marks D hD
            have d3 := (Array.getElem?_eq_some_iff.1 d2).1
            exact ⟨d1, by omega, (HB5.out.block D d3).trans d2⟩
          have HI0 : Hid (LateI f p bm W5 [] W5) := by
            obtain ⟨μ, m1, m2⟩ := HO.out.crew
            exact ⟨⟨μ, m1.below HB5.out, m2⟩, (fun y hy => by simp at hy), CS.refl _, Spare.refl _ _ _⟩
          have HC5 : Hid (CS W4 W5) := HO.out.cs.trans (cs_of_below HB5.out)
          have HW5 : Hid (Below w.heap.size w W5) := by
            have s1 := HB4.size
            refine ⟨HC5.out.os.trans HB4.os, HC5.out.tape.trans HB4.tape, HC5.out.output.trans HB4.output, by omega, fun j hj => ?_⟩
            rw [HB5.out.block j (by omega), HO.out.spare.block j (by omega) (by omega)]
            exact HB4.block j hj
          have hsl : (slipsF f).length = f.slips.length := by simp [slipsF]
          have EW : ∀ X : World, CS W5 X → Spare W5.heap.size bm W5 X → Below w.heap.size w X := fun X h1 h2 => by
            have s1 := HW5.out.size
            have s2 := HB4.size
            exact ⟨h1.os.trans HW5.out.os, h1.tape.trans HW5.out.tape, h1.output.trans HW5.out.output, by have := h1.size; omega, fun j hj => (h2.block j (by omega) (by have := HB2.size; omega)).trans (HW5.out.block j hj)⟩
          have HEW := Lib.hid EW
          clear EW
          refine' range_outerM rfl (by omega) (gf := 106) (lb := #[.pointer (some ⟨pM, 0, none⟩), .pointer (some ⟨pL, 0, none⟩)]) rfl trivial (enters_of Tryd.func106 (by kernel_rfl) rfl)
            (of_seq k (by omega) (slipsF f) (by omega) mA f.slips.length pM pL W5 HOA.out _) (fun x A B hc hr => ⟨hc.rows hr.1, hr.2⟩) (Below.refl _ _) (fun _ => rfl)
            (LateI f p bm W5) (LateX f p (w.heap.size + 1 + 1) (w.heap.size + 1 + 1 + 1) w Ds) (own_lateI f p bm W5 hbm5) (fun c => own_lateX f p _ _ w Ds _ HW5.out.size (fun D hD => (HDs.out D hD).2.1) c) HI0.out ?_ ?assign ?body ?done ?stop
          case assign =>
            intro l x X K hK
            gi_wp2
            exact hK
          case body =>
            rintro l pre ⟨xA, xC, xl⟩ X hlB ⟨⟨μ1, h1, h2⟩, h3, h4, h5⟩ ⟨hx1, hx2, hx3⟩ hlen
            have hzX := h4.size
            have HCX : Hid (CS W4 X) := HC5.out.trans h4
            have HX3 := Lib.hid (HCX.out.box HX3.out)
            have HX7 := Lib.hid (HCX.out.box HX7.out)
            have hxs : ∀ s ∈ xl.map Int.toNat, s < f.slips.length := fun s hs => by
              obtain ⟨y, hy, rfl⟩ := List.mem_map.1 hs
              have := hx3 y hy
              simp only [slipsF, List.mem_map, List.mem_range] at this
              obtain ⟨j, hj, rfl⟩ := this
              simpa using hj
            have hxn : natsC (xl.map Int.toNat) = xl := by
              rw [natsC, List.map_map]
              conv => rhs; rw [← List.map_id xl]
              apply List.map_congr_left
              intro y hy
              have := hx3 y hy
              simp only [slipsF, List.mem_map, List.mem_range] at this
              obtain ⟨j, hj, rfl⟩ := this
              simp
            obtain ⟨sx, hsx⟩ : ∃ sx, sx = setF (xl.map Int.toNat) := ⟨_, rfl⟩
            have hsx5 : sx < 512 := by rw [hsx]; exact setF_lt _ (fun s hs => by have := hxs s hs; omega)
            have HXA := Lib.hid hx1
            have SET : Hid (∀ Y, CS X Y → Calls Tryd.prog 77 #[.slice xA xl.length xC] Y fun e w' => e = .returned (vi sx) ∧ Below Y.heap.size Y w') := fun Y hY => by
              have g1 : IntsAt Y Y.heap.size xA xC xl := hY.rows hx1
              have g2 : IntsAt Y Y.heap.size xA (xl.map Int.toNat).length (natsC (xl.map Int.toNat)) := by
                rw [hxn, List.length_map]
                exact g1.short
              have g3 := setOf_any xA xC (xl.map Int.toNat) (fun s hs => by have := hxs s hs; omega) Y g2
              rw [← hsx, List.length_map] at g3
              exact g3
            have hbits := less_fact (allF f) sx (allF_lt H9.out) hsx5
            obtain ⟨cb, hcb⟩ : ∃ cb, cb = canLess f p xl := ⟨_, rfl⟩
            have hcl : canF f p (lessF (allF f) sx) = cb := by rw [hcb, canLess, hsx]
            have CAN := Lib.hid (fun Y hY hM hI => can_any f HV.out oA qA f.slips.length qC bm p (lessF (allF f) sx) hp5.2 (less_lt (allF_lt H9.out) sx) Y μ1 hY hM hI)
            rw [hcl] at CAN
            obtain ⟨lx, hlx⟩ : ∃ lx, lx = lessF (allF f) sx := ⟨_, rfl⟩
            rw [← hlx] at CAN hbits
            obtain ⟨fa, hfa⟩ : ∃ fa, fa = allF f := ⟨_, rfl⟩
            rw [← hfa] at AL hbits
            have HCB := Lib.hid hcb
            have H1 := Lib.hid h1
            have H2 := Lib.hid h2
            have H3 := Lib.hid h3
            have H4 := Lib.hid h4
            have H5 := Lib.hid h5
            have HDX := Lib.hid (HD.out.cs HCX.out)
            clear hcb hcl hlx hsx hxs hxn h1 h2 h3 h4 h5 hx1 hx2 hx3 hfa
            gi_wp2_with fail
            refine' wp_region_box_round (fun w' => CS X w') (fun a b h h' => h.trans (cs_of_below h')) rfl ?hno [0, 1, 2, 3, 4, 5, 6, 7, 8] 1 55 (by kernel_rfl) (by kernel_rfl) rfl (by kernel_rfl) (by kernel_rfl) rfl (by kernel_rfl) ?hl5 (CS.refl _) ?hq5 ?hr5
            case hno => exact fun _ _ h => h
            case hl5 =>
              simp only [List.map_cons, List.map_nil, List.getD_cons_zero, List.getD_cons_succ]
              exact rfl
            case hq5 =>
              intro w0 K
              have Y := K.box HX7.out
              have f0 := Y.cell (j := 0) rfl
              have f1 := Y.cell (j := 1) rfl
              have f2 := Y.cell (j := 2) rfl
              have f3 := Y.cell (j := 3) rfl
              have f4 := Y.cell (j := 4) rfl
              have f5 := Y.cell (j := 5) rfl
              have f6 := Y.cell (j := 6) rfl
              have f7 := Y.cell (j := 7) rfl
              have f8 := Y.cell (j := 8) rfl
              have zf := Y.lt
              have n0 := (K.box HX3.out).cell (j := 0) rfl
              have zn := (K.box HX3.out).lt
              (repeat (go_big_quiet_step (first | (go_at_call 71; refine Calls.grow_of (AL.out _)) | (go_at_call 77; refine Calls.grow_of (SET.out _ (K.trans (cs_of_below (plus_below _ _))))))))
              exact wpQuiet_nil rfl
            case hr5 =>
              refine wpUp_one (i := 9) (by kernel_rfl) rfl rfl (fun wa a1 a2 Ka hKa => ?_)
              go_simp
              refine (CAN.out wa (HDX.out.cs a2) (H1.out.below a1) (H2.out.less hp5.2)).mono ?_
              rintro e X2 ⟨rfl, μ2, hP⟩
              refine hKa _ _ (a2.trans hP.cs) (wpUp_done (by kernel_rfl) (fun W8 g1 g2 => NoPanic.normal ?_))
              have hz1 := a1.size
              have hz2 := hP.cs.size
              have HC8 : Hid (CS X W8) := a2.trans (hP.cs.trans (cs_of_below g1))
              have HBL : Hid (∀ j, j < X.heap.size → j ≠ bm → W8.heap[j]? = X.heap[j]?) := fun j hj hne => by
                rw [g1.block j (by omega), hP.spare.block j (by omega) hne, a1.block j hj]
              have HK8 : Hid (KeepsFrom W5.heap.size X W8) := ⟨HC8.out.size, fun j o hj ho _ => (HBL.out j (Array.getElem?_eq_some_iff.1 ho).1 (by omega)).trans ho⟩
              have HS8 : Hid (Spare W5.heap.size bm W5 W8) := by
                have hc := HC8.out
                exact ⟨hc.os.trans H5.out.os, hc.tape.trans H5.out.tape, hc.output.trans H5.out.output, Nat.le_trans H5.out.size hc.size, fun j hj hne => (HBL.out j (by omega) hne).trans (H5.out.block j hj hne)⟩
              have HM8 : Hid (∃ μ, CrewMap W8 bm μ ∧ Inv f 5 μ) := ⟨μ2, hP.map.below g1, H2.out.widen hP.inv hP.grows hp5.2⟩
              clear hP g1 g2 a1 a2 hKa
              rcases cb with _ | _
              · gi_wp2_with fail
                refine ⟨HK8.out, HC8.out, HM8.out, fun y hy => ?_, H4.out.trans HC8.out, HS8.out⟩
                rcases List.mem_append.1 hy with hy | hy
                · exact H3.out y hy
                · rw [List.mem_singleton] at hy; subst hy; exact HCB.out.symm
              · have Y4 : Hid (CellsBox W8 (w.heap.size + 1 + 1) 22 [.slice none 0 0]) := (HCX.out.trans HC8.out).box HX4.out
                have Y5 : Hid (CellsBox W8 (w.heap.size + 1 + 1 + 1) 30 [vi 0]) := (HCX.out.trans HC8.out).box HX5.out
                have c4 := Y4.out.cell (j := 0) rfl
                have q4 := Y4.out.frozen 0
                have z4 := Y4.out.lt
                have c5 := Y5.out.cell (j := 0) rfl
                have q5 := Y5.out.frozen 0
                have z5 := Y5.out.lt
                have hxc : xl.length ≤ xC := HXA.out.lens.1
                have HXI : Hid (IntsAt W8 W8.heap.size xA xl.length xl) := (HC8.out.rows HXA.out).short
                have HBW : Hid (Below w.heap.size w W8) := HEW.out W8 (H4.out.trans HC8.out) HS8.out
                clear hxc
                have hxc0 : (0 : Int) ≤ xl.length := by omega
                have hxc1 : (xl.length : Int) ≤ xC := by have := HXA.out.lens.1; simp only at this; omega
                have hs2 := HB4.size
                gi_wp2_with fail
                have hs5 : w.heap.size + 1 + 1 + 1 < W4.heap.size := HX5.out.lt
                have hs6 := HC5.out.size
                have HBX1 := box_one (u := .slice xA xl.length xl.length) Y4.out
                have HBY1 := Y5.out.apart ⟨w.heap.size + 1 + 1, 0, none⟩ (.slice xA xl.length xl.length) (by simp)
                refine ⟨⟨by have := HC8.out.size; simp; omega, fun j o hj ho hc => ?_⟩, ⟨by have := HC8.out.size; simp; omega, fun j c t z hj ho => ?_⟩, rfl, pre, ⟨xA, xC, xl⟩, rfl, H3.out, HCB.out.symm, ?_, ?_, ?_, ?_, ?_⟩
                · rw [heap_setCell_other _ _ j _ (by simp only; omega), heap_setCell_other _ _ j _ (by simp only; omega)]
                  exact HK8.out.same j o hj ho hc
                · rw [heap_setCell_other _ _ j _ (by simp only; omega), heap_setCell_other _ _ j _ (by simp only; omega)]
                  exact HC8.out.boxes j c t z ho
                · exact ints_box (ints_box HXI.out Y4.out (.inl (fun n => by simp))) HBY1 (.inr rfl)
                · exact HBX1.apart ⟨w.heap.size + 1 + 1 + 1, 0, none⟩ (vi 0) (by simp)
                · exact box_one HBY1
                · exact (HBW.out.setCell (by simp only; omega) _).setCell (by simp only; omega) _
                · intro D hD
                  obtain ⟨d1, d2, d3⟩ := HDs.out D hD
                  rw [heap_setCell_other _ _ D _ (by simp only; omega), heap_setCell_other _ _ D _ (by simp only; omega), HS8.out.block D d2 (by omega)]
                  exact d3
          case done =>
            rintro D xs W9 hD hS ⟨hcrew, h3, h4, h5⟩ hDf
            have HL9 : Hid (LateO f p bm (k + 1) (D :: Ds) W4 W9) := by
              refine ⟨hcrew, fun j hj y hy => ?_, HC5.out.trans h4, ?_, List.nodup_cons.2 ⟨fun hm => by have := (HDs.out D hm).2.1; omega, HO.out.nodup⟩, fun D' hD' => ?_⟩
              · by_cases e : j = k
                · subst e
                  rw [← hS] at hy
                  obtain ⟨z, hz, rfl⟩ := List.mem_map.1 hy
                  exact h3 z hz
                · exact HO.out.none j (by omega) y hy
              · have hc := HC5.out.trans h4
                exact ⟨hc.os, hc.tape, hc.output, hc.size, fun j hj hne => by rw [h5.block j (by omega) hne, HB5.out.block j (by omega), HO.out.spare.block j hj hne]⟩
              · rcases List.mem_cons.1 hD' with rfl | hD'
                · exact ⟨by omega, hDf⟩
                · obtain ⟨d1, d2, d3⟩ := HDs.out D' hD'
                  exact ⟨d1, (h5.block D' d2 (by omega)).trans d3⟩
            clear hcrew h3 h4 h5 hDf hS
            gi_wp2_with fail
            refine ⟨⟨_, _, _, _, _, _, _, _, k + 1, D :: Ds, ⟨by omega, by go_num, HL9.out⟩, rfl⟩, ?_⟩
            simp [intOf]; omega
          case stop =>
            rintro D c pre X hD ⟨d, r, xs, x, hpre, hcho, hxs⟩ ⟨rfl, d', x', hpre', g1, g2, g3, g4, g5, g6, g7⟩ hDf
            have hdd : xs = d' ∧ x = x' := by
              have h1 := List.append_inj' (hpre.symm.trans hpre') rfl
              exact ⟨h1.1, by simpa using h1.2⟩
            obtain ⟨rfl, rfl⟩ := hdd
            have hlate : lateF f p = x.slips := late_some HO.out.none hlt hcho (fun z hz => by
              rw [← hxs] at hz
              obtain ⟨y, hy, rfl⟩ := List.mem_map.1 hz
              exact g1 y hy) g2
            have hns : (D :: Ds).Nodup := List.nodup_cons.2 ⟨fun hm => by have := (HDs.out D hm).2.1; omega, HO.out.nodup⟩
            have hsz := HW5.out.size
            have hnb : ∀ E ∈ D :: Ds, W4.heap.size ≤ E := fun E hE => by
              rcases List.mem_cons.1 hE with rfl | hE
              · have := HO.out.cs.size; have := HB5.out.size; omega
              · exact (HDs.out E hE).1
            have hmk : ∀ E ∈ D :: Ds, X.heap[E]? = some (.deferred (some [])) := fun E hE => by
              rcases List.mem_cons.1 hE with rfl | hE
              · exact hDf
              · exact g7 E hE
            have HSH : Hid (CS X (shut X (D :: Ds))) := cs_shut _ _ hns hmk
            have o4 := (HSH.out.box g4).cell (j := 0) rfl
            have o5 := (HSH.out.box g5).cell (j := 0) rfl
            have HBS : Hid (Below w.heap.size w (shut X (D :: Ds))) := below_shut _ _ g6 (fun E hE => by have := hnb E hE; have := HB4.size; omega)
            have HXI := Lib.hid (HSH.out.rows g3)
            have EV2 : Hid (RV = (x.slips, 0)) := by unfold Hid; rw [EV.out, Int.toNat_natCast, hlate]
            have HNS := Lib.hid hns
            have HMK := Lib.hid hmk
            have O4 := Lib.hid o4
            have O5 := Lib.hid o5
            clear hlate hns hmk g1 g2 g3 g4 g5 g6 g7 o4 o5 hDf hnb hpre hpre' hcho hxs
            gi_wp2
            refine leaves_marks (D :: Ds) X HNS.out HMK.out ?_
            have o4 := O4.out
            have o5 := O5.out
            refine ⟨.tuple #[.slice x.ad x.slips.length x.slips.length, vi 0], by simp [results, Tryd.results30, go_sem, o4, o5], x.ad, ?_, ?_, HBS.out⟩
            · rw [EV2.out]
            · rw [EV2.out]; exact HXI.out
        · have hke : k = f.slips.length := by omega
          subst hke
          have hlate := late_none HO.out.none
          have EV2 : Hid (RV = (slipsF f, 0)) := by unfold Hid; rw [EV.out, Int.toNat_natCast, hlate]
          have hsl : (slipsF f).length = f.slips.length := by simp [slipsF]
          have HMk : Hid (IntsAt wr wr.heap.size mA f.slips.length (slipsF f)) := HO.out.cs.rows HMI.out
          have Y4 : Hid (CellsBox wr (w.heap.size + 1 + 1) 22 [.slice none 0 0]) := HO.out.cs.box HX4.out
          have Y5 : Hid (CellsBox wr (w.heap.size + 1 + 1 + 1) 30 [vi 0]) := HO.out.cs.box HX5.out
          have c4 := Y4.out.cell (j := 0) rfl
          have q4 := Y4.out.frozen 0
          have z4 := Y4.out.lt
          have c5 := Y5.out.cell (j := 0) rfl
          have q5 := Y5.out.frozen 0
          have z5 := Y5.out.lt
          have HSL := Lib.hid hsl
          clear hsl hlate
          gi_wp2_with fail
          have HBX1 := box_one (u := .slice mA f.slips.length f.slips.length) Y4.out
          have HBY1 := Y5.out.apart ⟨w.heap.size + 1 + 1, 0, none⟩ (.slice mA f.slips.length f.slips.length) (by simp)
          have HBX2 := HBX1.apart ⟨w.heap.size + 1 + 1 + 1, 0, none⟩ (vi 0) (by simp)
          have HBY2 := box_one (u := vi 0) HBY1
          have HI2 := ints_box (ints_box HMk.out Y4.out (.inl (fun n => by simp))) HBY1 (.inr rfl)
          obtain ⟨Z, hZ⟩ : ∃ Z, Z = (wr.setCell ⟨w.heap.size + 1 + 1, 0, none⟩ (.slice mA f.slips.length f.slips.length)).setCell ⟨w.heap.size + 1 + 1 + 1, 0, none⟩ (vi 0) := ⟨_, rfl⟩
          rw [← hZ] at HBX2 HBY2 HI2
          have hoth : ∀ j, j ≠ w.heap.size + 1 + 1 → j ≠ w.heap.size + 1 + 1 + 1 → Z.heap[j]? = wr.heap[j]? := fun j h1 h2 => by
            rw [hZ, heap_setCell_other _ _ j _ (by simp only; omega), heap_setCell_other _ _ j _ (by simp only; omega)]
          have hBZ : Below w.heap.size w Z := by
            have hc := HO.out.cs
            have s2 := HB4.size
            have s3 := HB2.size
            have hW : Below w.heap.size w wr := ⟨hc.os.trans HB4.os, hc.tape.trans HB4.tape, hc.output.trans HB4.output, by have := hc.size; omega, fun j hj => (HO.out.spare.block j (by omega) (by have := HB1.size; omega)).trans (HB4.block j hj)⟩
            rw [hZ]
            exact (hW.setCell (by simp only; omega) _).setCell (by simp only; omega) _
          have hs4 : w.heap.size + 1 + 1 + 1 < W4.heap.size := HX5.out.lt
          have hmk : ∀ E ∈ Ds, Z.heap[E]? = some (.deferred (some [])) := fun E hE => by
            obtain ⟨d1, d2⟩ := HO.out.marks E hE
            rw [hoth E (by omega) (by omega)]
            exact d2
          have HSH := cs_shut _ _ HO.out.nodup hmk
          have o4 := (HSH.box HBX2).cell (j := 0) rfl
          have o5 := (HSH.box HBY2).cell (j := 0) rfl
          refine (?_ : ∀ Z' : World, Z = Z' → bodyPostM _ _ _ _ _ _ _ Z') _ hZ
          rintro _ rfl
          refine leaves_marks Ds Z HO.out.nodup hmk ?_
          refine ⟨.tuple #[.slice mA f.slips.length f.slips.length, vi 0], by simp [results, Tryd.results30, go_sem, o4, o5], mA, ?_, ?_, below_shut _ _ hBZ (fun E hE => by have := (HO.out.marks E hE).1; have := HB4.size; omega)⟩
          · rw [EV2.out, HSL.out]
          · rw [EV2.out]
            have := HSH.rows HI2
            rwa [HSL.out]
end Go.Proofs.YtomgnpfpaodpiaaDoor

/- Slips done one behind the other: plain mathematics. -/
namespace Go.Proofs.YtomgnpfpaodpiaaDoor.PM
/-- are slips, one behind the other from a second on, done in time -/
def inT (sec till : Nat → Int) : Int → List Nat → Prop
  | _, [] => True
  | t, s :: l => t + sec s ≤ till s ∧ inT sec till (t + sec s) l
variable {sec till : Nat → Int}
theorem inT_app : ∀ (a b : List Nat) (t : Int), inT sec till t (a ++ b) ↔ inT sec till t a ∧ inT sec till (t + (a.map sec).sum) b
  | [], b, t => by simp [inT]
  | s :: a, b, t => by
    rw [List.cons_append, inT, inT, inT_app a b, List.map_cons, List.sum_cons, Int.add_assoc, and_assoc]
theorem inT_early (hs : ∀ s, 0 ≤ sec s) : ∀ (l : List Nat) (t t' : Int), t' ≤ t → inT sec till t l → inT sec till t' l
  | [], _, _, _, _ => trivial
  | s :: l, t, t', h, k => ⟨by have := k.1; omega, inT_early hs l _ _ (by omega) k.2⟩
/-- a slip may be left out -/
theorem inT_sub (hs : ∀ s, 0 ≤ sec s) : ∀ {a b : List Nat}, a.Sublist b → ∀ t, inT sec till t b → inT sec till t a
  | _, _, .slnil, _, _ => trivial
  | _, _, .cons (l₂ := b) s h, t, k => inT_early hs _ _ _ (by have := hs s; omega) (inT_sub hs h _ k.2)
  | _, _, .cons_cons s h, t, k => ⟨k.1, inT_sub hs h _ k.2⟩
/-- a slip that must be done no sooner may go behind others -/
theorem inT_later (hs : ∀ s, 0 ≤ sec s) (s : Nat) : ∀ (a b : List Nat) (t : Int), (∀ x ∈ a, till x ≤ till s) → inT sec till t (s :: (a ++ b)) → inT sec till t (a ++ s :: b)
  | [], b, t, _, h => h
  | x :: a, b, t, hx, h => by
    obtain ⟨h1, h2, h3⟩ := h
    have hx1 := hx x (by simp)
    have h0 := hs s
    refine ⟨by omega, inT_later hs s a b (t + sec x) (fun y hy => hx y (by simp [hy])) ⟨by omega, ?_⟩⟩
    rwa [show t + sec x + sec s = t + sec s + sec x by omega]
/-- in its place among slips that are in their order -/
def put (key : Nat → Nat → Bool) (s : Nat) : List Nat → List Nat
  | [] => [s]
  | x :: l => if key x s then x :: put key s l else s :: x :: l
theorem put_split (key : Nat → Nat → Bool) (s : Nat) : ∀ l : List Nat, ∃ a b, l = a ++ b ∧ put key s l = a ++ s :: b ∧ ∀ x ∈ a, key x s = true
  | [] => ⟨[], [], rfl, rfl, by simp⟩
  | x :: l => by
    rw [put]
    split
    · rename_i h
      obtain ⟨a, b, e, p, k⟩ := put_split key s l
      refine ⟨x :: a, b, by rw [e]; rfl, by rw [p]; rfl, fun y hy => ?_⟩
      rcases List.mem_cons.1 hy with rfl | hy
      · exact h
      · exact k y hy
    · exact ⟨[], x :: l, rfl, rfl, by simp⟩
def sortP (key : Nat → Nat → Bool) : List Nat → List Nat
  | [] => []
  | s :: l => put key s (sortP key l)
theorem inT_sort (hs : ∀ s, 0 ≤ sec s) (key : Nat → Nat → Bool) (hk : ∀ x s, key x s = true → till x ≤ till s) : ∀ (l : List Nat) (t : Int), inT sec till t l → inT sec till t (sortP key l)
  | [], _, _ => trivial
  | s :: l, t, h => by
    rw [sortP]
    obtain ⟨a, b, e, p, k⟩ := put_split key s (sortP key l)
    rw [p]
    refine inT_later hs s a b t (fun x hx => hk x s (k x hx)) ?_
    rw [← e]
    exact ⟨h.1, inT_sort hs key hk l _ h.2⟩
theorem put_perm (key : Nat → Nat → Bool) (s : Nat) (l : List Nat) : (put key s l).Perm (s :: l) := by
  obtain ⟨a, b, e, p, _⟩ := put_split key s l
  rw [p, e]
  exact List.perm_middle
theorem sortP_perm (key : Nat → Nat → Bool) : ∀ l : List Nat, (sortP key l).Perm l
  | [] => List.Perm.refl _
  | s :: l => (put_perm key s _).trans ((sortP_perm key l).cons s)
theorem put_sorted (key : Nat → Nat → Bool) (tot : ∀ x y, key x y = false → key y x = true) (tr : ∀ x y z, key x y = true → key y z = true → key x z = true) (s : Nat) : ∀ l : List Nat, l.Pairwise (fun x y => key x y = true) → (put key s l).Pairwise (fun x y => key x y = true)
  | [], _ => by simp [put]
  | x :: l, h => by
    obtain ⟨h1, h2⟩ := List.pairwise_cons.1 h
    rw [put]
    split
    · rename_i hx
      refine List.pairwise_cons.2 ⟨fun y hy => ?_, put_sorted key tot tr s l h2⟩
      rcases List.mem_cons.1 ((put_perm key s l).mem_iff.1 hy) with rfl | hy
      · exact hx
      · exact h1 y hy
    · rename_i hx
      have hx := tot x s (by simpa using hx)
      refine List.pairwise_cons.2 ⟨fun y hy => ?_, h⟩
      rcases List.mem_cons.1 hy with rfl | hy
      · exact hx
      · exact tr _ _ _ hx (h1 y hy)
theorem sortP_sorted (key : Nat → Nat → Bool) (tot : ∀ x y, key x y = false → key y x = true) (tr : ∀ x y z, key x y = true → key y z = true → key x z = true) : ∀ l : List Nat, (sortP key l).Pairwise (fun x y => key x y = true)
  | [] => by simp [sortP]
  | s :: l => put_sorted key tot tr s _ (sortP_sorted key tot tr l)
/-- lists in their order with the same slips are the same -/
theorem sorted_unique (key : Nat → Nat → Bool) (anti : ∀ x y, key x y = true → key y x = true → x = y) : ∀ {a b : List Nat}, a.Perm b → a.Pairwise (fun x y => key x y = true) → b.Pairwise (fun x y => key x y = true) → a = b := by
  intro a
  induction a with
  | nil => intro b h _ _; exact (List.nil_perm.1 h).symm
  | cons x a ih =>
    intro b h ha hb
    cases b with
    | nil => exact absurd h (by intro h; have := h.length_eq; simp at this)
    | cons y b =>
      obtain ⟨a1, a2⟩ := List.pairwise_cons.1 ha
      obtain ⟨b1, b2⟩ := List.pairwise_cons.1 hb
      have hxy : x = y := by
        have hx : x ∈ y :: b := h.mem_iff.1 (by simp)
        have hy : y ∈ x :: a := h.mem_iff.2 (by simp)
        rcases List.mem_cons.1 hx with e | hx
        · exact e
        rcases List.mem_cons.1 hy with e | hy
        · exact e.symm
        exact anti _ _ (a1 y hy) (b1 x hx)
      subst hxy
      rw [ih ((List.perm_cons x).1 h) a2 b2]
end Go.Proofs.YtomgnpfpaodpiaaDoor.PM

/- Sets of slips as numbers: plain mathematics. -/
namespace Go.Proofs.YtomgnpfpaodpiaaDoor.PM
theorem setF_fold : ∀ (l : List Nat) (m i : Nat), (l.foldl (fun m s => m ||| 2 ^ s) m).testBit i = (m.testBit i || decide (i ∈ l))
  | [], m, i => by simp
  | s :: l, m, i => by
    rw [List.foldl_cons, setF_fold l, Nat.testBit_or, Nat.testBit_two_pow]
    by_cases h : i = s
    · subst h; simp
    · have h2 : s ≠ i := fun e => h e.symm
      simp [h, h2]
theorem setF_bit (l : List Nat) (i : Nat) : (setF l).testBit i = decide (i ∈ l) := by rw [setF, setF_fold]; simp
theorem or_setF (to : Nat) (l : List Nat) : l.foldl (fun m s => m ||| 2 ^ s) to = to ||| setF l := by
  apply Nat.eq_of_testBit_eq
  intro i
  rw [setF_fold, Nat.testBit_or, setF_bit]
theorem setF_cons (s : Nat) (l : List Nat) : setF (s :: l) = 2 ^ s ||| setF l := by
  rw [setF, List.foldl_cons, or_setF, Nat.zero_or]
theorem less_bit (m x i : Nat) : (lessF m x).testBit i = (m.testBit i && !(x.testBit i)) := by
  rw [lessF, Nat.testBit_xor, Nat.testBit_and]
  cases m.testBit i <;> simp
theorem setF_zero {l : List Nat} : setF l = 0 ↔ l = [] := by
  constructor
  · intro h
    cases l with
    | nil => rfl
    | cons s l =>
      have := setF_bit (s :: l) s
      rw [h] at this
      simp at this
  · rintro rfl; rfl
theorem setF_perm {a b : List Nat} (h : ∀ i, i ∈ a ↔ i ∈ b) : setF a = setF b := by
  apply Nat.eq_of_testBit_eq
  intro i
  rw [setF_bit, setF_bit]
  simp [h i]
theorem setF_inj {a b : List Nat} (h : setF a = setF b) (i : Nat) : i ∈ a ↔ i ∈ b := by
  have := setF_bit a i
  rw [h, setF_bit] at this
  simpa using this.symm
theorem less_self (m : Nat) : lessF m m = 0 := by rw [lessF, Nat.and_self, Nat.xor_self]
theorem less_zero (m : Nat) : lessF m 0 = m := by rw [lessF, Nat.and_zero, Nat.xor_zero]
/-- a set has only slips of another one -/
def Part (x m : Nat) : Prop := ∀ i, x.testBit i = true → m.testBit i = true
theorem Part.less (m x : Nat) : Part (lessF m x) m := fun i h => by rw [less_bit, Bool.and_eq_true] at h; exact h.1
theorem Part.trans {a b c : Nat} (h : Part a b) (k : Part b c) : Part a c := fun i hi => k i (h i hi)
theorem part_le {x m : Nat} (h : Part x m) : x ≤ m := by
  have : x &&& m = x := by
    apply Nat.eq_of_testBit_eq
    intro i
    rw [Nat.testBit_and]
    cases hx : x.testBit i with
    | false => simp
    | true => simp [h i hx]
  rw [← this]
  exact Nat.and_le_right
theorem add_or : ∀ a b : Nat, a &&& b = 0 → a + b = a ||| b := by
  intro a
  induction a using Nat.strongRecOn with
  | _ a ih =>
    intro b h
    by_cases h0 : a = 0
    · subst h0; simp
    have h1 : a / 2 &&& b / 2 = 0 := by rw [← Nat.and_div_two, h]
    have h2 := ih (a / 2) (by omega) (b / 2) h1
    have h3 : (a ||| b) / 2 = a / 2 ||| b / 2 := Nat.or_div_two
    have h4 : ¬ (a % 2 = 1 ∧ b % 2 = 1) := by
      rw [← Nat.and_mod_two_eq_one, h]; simp
    have h5 : (a ||| b) % 2 = 1 ↔ a % 2 = 1 ∨ b % 2 = 1 := Nat.or_mod_two_eq_one
    omega
theorem less_sub {x m : Nat} (h : Part x m) : lessF m x = m - x := by
  have hd : lessF m x &&& x = 0 := by
    apply Nat.eq_of_testBit_eq
    intro i
    rw [Nat.testBit_and, less_bit]
    cases m.testBit i <;> cases x.testBit i <;> simp
  have ho : lessF m x ||| x = m := by
    apply Nat.eq_of_testBit_eq
    intro i
    rw [Nat.testBit_or, less_bit]
    cases hx : x.testBit i with
    | false => simp
    | true => simp [h i hx]
  have : lessF m x + x = m := by
    rw [add_or _ _ hd, ho]
  omega
theorem less_lt {m x : Nat} (h : Part x m) (hx : x ≠ 0) : lessF m x < m := by
  have := part_le h
  rw [less_sub h]
  omega
end Go.Proofs.YtomgnpfpaodpiaaDoor.PM

/- So many lists of slips, each in time: plain mathematics. -/
namespace Go.Proofs.YtomgnpfpaodpiaaDoor.PM
def okG (sec till : Nat → Int) (m : Nat) (t : Int) (s : Nat) : Bool := m.testBit s && decide (t + sec s ≤ till s)
def loopG (sec till : Nat → Int) (m : Nat) : Nat → Int → List Nat → List Nat
  | to, _, [] => if to = 0 then [] else [to]
  | to, t, s :: rest => (if okG sec till m t s then loopG sec till m (to ||| 2 ^ s) (t + sec s) rest else []) ++ loopG sec till m to t rest
variable {sec till : Nat → Int}
theorem loop_mem (m : Nat) : ∀ (rest : List Nat) (to : Nat) (t : Int) (x : Nat), x ∈ loopG sec till m to t rest ↔ x ≠ 0 ∧ ∃ sub : List Nat, sub.Sublist rest ∧ (∀ s ∈ sub, m.testBit s = true) ∧ inT sec till t sub ∧ x = to ||| setF sub
  | [], to, t, x => by
    rw [loopG]
    constructor
    · intro h
      split at h
      · simp at h
      · rw [List.mem_singleton] at h; subst h
        exact ⟨by assumption, [], .slnil, by simp, trivial, by simp [setF]⟩
    · rintro ⟨hx, sub, h1, h2, h3, h4⟩
      obtain rfl := List.sublist_nil.1 h1
      simp [setF] at h4
      subst h4
      rw [if_neg hx]; simp
  | s :: rest, to, t, x => by
    rw [loopG, List.mem_append]
    constructor
    · rintro (h | h)
      · split at h
        · rename_i hok
          rw [okG, Bool.and_eq_true, decide_eq_true_eq] at hok
          obtain ⟨hx, sub, h1, h2, h3, h4⟩ := (loop_mem m rest _ _ x).1 h
          refine ⟨hx, s :: sub, .cons_cons _ h1, ?_, ⟨hok.2, h3⟩, ?_⟩
          · intro y hy
            rcases List.mem_cons.1 hy with rfl | hy
            · exact hok.1
            · exact h2 y hy
          · rw [h4, setF_cons, Nat.or_assoc]
        · simp at h
      · obtain ⟨hx, sub, h1, h2, h3, h4⟩ := (loop_mem m rest _ _ x).1 h
        exact ⟨hx, sub, .cons _ h1, h2, h3, h4⟩
    · rintro ⟨hx, sub, h1, h2, h3, h4⟩
      cases h1 with
      | cons _ h1 => exact .inr ((loop_mem m rest _ _ x).2 ⟨hx, sub, h1, h2, h3, h4⟩)
      | cons_cons _ h1 =>
        rename_i sub
        have hok : okG sec till m t s = true := by rw [okG, h2 s (by simp)]; simpa using h3.1
        rw [if_pos hok]
        refine .inl ((loop_mem m rest _ _ x).2 ⟨hx, sub, h1, fun y hy => h2 y (by simp [hy]), h3.2, ?_⟩)
        rw [h4, setF_cons, Nat.or_assoc]
/-- so many lists of slips, each in time, that together have just those of a set -/
def Fit (sec till : Nat → Int) : Nat → Nat → Prop
  | 0, m => m = 0
  | p + 1, m => ∃ l : List Nat, l.Nodup ∧ (∀ s ∈ l, m.testBit s = true) ∧ inT sec till 0 l ∧ Fit sec till p (lessF m (setF l))
def canG (sec till : Nat → Int) (ord : List Nat) : Nat → Nat → Bool
  | 0, m => m == 0
  | p + 1, m => m == 0 || (loopG sec till m 0 0 ord).any fun x => canG sec till ord p (lessF m x)
theorem fit_zero : ∀ p : Nat, Fit sec till p 0
  | 0 => rfl
  | p + 1 => ⟨[], by simp, by simp, trivial, by rw [show setF [] = 0 from rfl, less_zero]; exact fit_zero p⟩
theorem fit_more : ∀ {p m : Nat}, Fit sec till p m → Fit sec till (p + 1) m
  | _, m, h => ⟨[], by simp, by simp, trivial, by rw [show setF [] = 0 from rfl, less_zero]; exact h⟩
theorem fit_le {p q m : Nat} (h : Fit sec till p m) (hq : p ≤ q) : Fit sec till q m := by
  induction hq with
  | refl => exact h
  | step _ ih => exact fit_more ih
/-- an order of slips: those that must be done sooner first -/
structure Ord (till : Nat → Int) (key : Nat → Nat → Bool) : Prop where
  tot : ∀ x y, key x y = false → key y x = true
  tr : ∀ x y z, key x y = true → key y z = true → key x z = true
  anti : ∀ x y, key x y = true → key y x = true → x = y
  till : ∀ x s, key x s = true → till x ≤ till s
/-- the slips of a desk in their order -/
structure Desk (key : Nat → Nat → Bool) (n : Nat) (ord : List Nat) : Prop where
  perm : ord.Perm (List.range n)
  sorted : ord.Pairwise (fun x y => key x y = true)
theorem Desk.nodup {key : Nat → Nat → Bool} {n : Nat} {ord : List Nat} (h : Desk key n ord) : ord.Nodup := h.perm.nodup_iff.2 List.nodup_range
theorem Desk.mem {key : Nat → Nat → Bool} {n : Nat} {ord : List Nat} (h : Desk key n ord) (s : Nat) : s ∈ ord ↔ s < n := by rw [h.perm.mem_iff, List.mem_range]
/-- some slips of the desk, in its order -/
def pick (x : Nat) (ord : List Nat) : List Nat := ord.filter fun s => x.testBit s
theorem Desk.pick_sort {key : Nat → Nat → Bool} {n : Nat} {ord : List Nat} (h : Desk key n ord) (hk : Ord till key) {l : List Nat} (hn : l.Nodup) (hl : ∀ s ∈ l, s < n) : pick (setF l) ord = sortP key l := by
  refine sorted_unique key hk.anti ?_ (h.sorted.sublist List.filter_sublist) (sortP_sorted key hk.tot hk.tr l)
  refine List.Perm.trans ?_ (sortP_perm key l).symm
  refine (List.perm_ext_iff_of_nodup (h.nodup.sublist List.filter_sublist) hn).2 fun s => ?_
  simp only [pick, List.mem_filter, setF_bit, h.mem, decide_eq_true_eq]
  exact ⟨fun k => k.2, fun k => ⟨hl s k, k⟩⟩
theorem Desk.setF_pick {key : Nat → Nat → Bool} {n : Nat} {ord : List Nat} (h : Desk key n ord) {x : Nat} (hx : ∀ i, x.testBit i = true → i < n) : setF (pick x ord) = x := by
  apply Nat.eq_of_testBit_eq
  intro i
  rw [setF_bit, pick]
  simp only [List.mem_filter, h.mem]
  cases hb : x.testBit i with
  | false => simp
  | true => simp [hx i hb]
theorem can_more {ord : List Nat} : ∀ (p m : Nat), canG sec till ord p m = true → canG sec till ord (p + 1) m = true
  | 0, m, h => by
    rw [canG] at h
    rw [canG, h]; rfl
  | p + 1, m, h => by
    rw [canG, Bool.or_eq_true, List.any_eq_true] at h ⊢
    rcases h with h | ⟨x, hx, h⟩
    · exact .inl h
    · exact .inr ⟨x, hx, can_more p _ h⟩
theorem can_fit {key : Nat → Nat → Bool} {n : Nat} {ord : List Nat} (h : Desk key n ord) (hk : Ord till key) (hs : ∀ s, 0 ≤ sec s) : ∀ (p m : Nat), (∀ i, m.testBit i = true → i < n) → (canG sec till ord p m = true ↔ Fit sec till p m)
  | 0, m, _ => by simp [canG, Fit]
  | p + 1, m, hm => by
    have hm' : ∀ x i, (lessF m x).testBit i = true → i < n := fun x i hi => hm i (Part.less m x i hi)
    rw [canG, Bool.or_eq_true, List.any_eq_true]
    constructor
    · rintro (h0 | ⟨x, hx, hc⟩)
      · have : m = 0 := by simpa using h0
        subst this; exact fit_zero _
      · obtain ⟨_, sub, h1, h2, h3, h4⟩ := (loop_mem m ord 0 0 x).1 hx
        rw [Nat.zero_or] at h4
        subst h4
        exact ⟨sub, h.nodup.sublist h1, h2, h3, (can_fit h hk hs p _ (hm' _)).1 hc⟩
    · rintro ⟨l, h1, h2, h3, h4⟩
      by_cases hl : l = []
      · subst hl
        rw [show setF [] = 0 from rfl, less_zero] at h4
        have := can_more p m ((can_fit h hk hs p m hm).2 h4)
        rwa [canG, Bool.or_eq_true, List.any_eq_true] at this
      · right
        have hsort := h.pick_sort hk h1 (fun s hs => hm s (h2 s hs))
        have hset : setF (sortP key l) = setF l := setF_perm fun i => (sortP_perm key l).mem_iff
        refine ⟨setF l, (loop_mem m ord 0 0 _).2 ⟨fun e => hl (setF_zero.1 e), sortP key l, ?_, ?_, inT_sort hs key hk.till l 0 h3, by rw [Nat.zero_or, hset]⟩, (can_fit h hk hs p _ (hm' _)).2 h4⟩
        · rw [← hsort]; exact List.filter_sublist
        · intro s hs
          exact h2 s ((sortP_perm key l).mem_iff.1 hs)
end Go.Proofs.YtomgnpfpaodpiaaDoor.PM

/- How few pickers there must be: plain mathematics. -/
namespace Go.Proofs.YtomgnpfpaodpiaaDoor.PM
variable {sec till : Nat → Int}
theorem part_pred : ∀ (part set x : Nat), Part part set → Part x set → x < part → x ≤ (part - 1) &&& set := by
  intro part
  induction part using Nat.strongRecOn with
  | _ part ih =>
    intro set x hp hx hlt
    have half : ∀ {a b : Nat}, Part a b → Part (a / 2) (b / 2) := fun h i hi => by
      rw [Nat.testBit_div_two] at hi ⊢
      exact h _ hi
    have low : ∀ {a b : Nat}, Part a b → a % 2 ≤ b % 2 := fun {a b} h => by
      have := h 0
      rw [Nat.testBit_zero, Nat.testBit_zero, decide_eq_true_eq, decide_eq_true_eq] at this
      omega
    have h1 : ((part - 1) &&& set) / 2 = (part - 1) / 2 &&& set / 2 := Nat.and_div_two
    have h2 : ((part - 1) &&& set) % 2 = 1 ↔ (part - 1) % 2 = 1 ∧ set % 2 = 1 := Nat.and_mod_two_eq_one
    have lx := low hx
    have lp := low hp
    by_cases hb : part % 2 = 1
    · have e : (part - 1) / 2 = part / 2 := by omega
      have e2 : part / 2 &&& set / 2 = part / 2 := by
        apply Nat.eq_of_testBit_eq
        intro i
        rw [Nat.testBit_and]
        cases hc : (part / 2).testBit i with
        | false => rfl
        | true => rw [half hp i hc]; rfl
      rw [e, e2] at h1
      omega
    · have e : (part - 1) / 2 = part / 2 - 1 := by omega
      rw [e] at h1
      have := ih (part / 2) (by omega) (set / 2) (x / 2) (half hp) (half hx) (by omega)
      omega
theorem part_and (a m : Nat) : Part (a &&& m) m := fun i h => by rw [Nat.testBit_and, Bool.and_eq_true] at h; exact h.2
/-- the least number of pickers for a set, of the parts from one on downwards -/
def bestG (can : Nat → Bool) (out : Nat → Int) (set : Nat) (part : Nat) (best : Int) : Int :=
  if h : part = 0 then best else bestG can out set ((part - 1) &&& set) (if can part then min best (1 + out (set - part)) else best)
termination_by part
decreasing_by
  have := @Nat.and_le_left (part - 1) set
  omega
theorem best_le (can : Nat → Bool) (out : Nat → Int) (set : Nat) (p : Int) : ∀ (part : Nat) (best : Int), Part part set → (bestG can out set part best ≤ p ↔ best ≤ p ∨ ∃ x, x ≠ 0 ∧ x ≤ part ∧ Part x set ∧ can x = true ∧ 1 + out (set - x) ≤ p) := by
  intro part
  induction part using Nat.strongRecOn with
  | _ part ih =>
    intro best hp
    rw [bestG]
    split
    · rename_i h
      subst h
      constructor
      · exact .inl
      · rintro (h | ⟨x, h1, h2, _⟩)
        · exact h
        · omega
    · rename_i h
      have hl := @Nat.and_le_left (part - 1) set
      rw [ih _ (by omega) _ (part_and _ _)]
      constructor
      · rintro (h1 | ⟨x, h1, h2, h3⟩)
        · split at h1
          · rename_i hc
            rcases (show best ≤ p ∨ 1 + out (set - part) ≤ p by omega) with h1 | h1
            · exact .inl h1
            · exact .inr ⟨part, h, Nat.le_refl _, hp, hc, h1⟩
          · exact .inl h1
        · exact .inr ⟨x, h1, by omega, h3⟩
      · rintro (h1 | ⟨x, h1, h2, h3, h4, h5⟩)
        · left; split <;> omega
        · by_cases hx : x = part
          · subst hx
            left; rw [if_pos h4]; omega
          · exact .inr ⟨x, h1, part_pred part set x hp h3 (by omega), h3, h4, h5⟩
/-- for each set below a number how few pickers have it in time -/
def outG (can : Nat → Bool) : Nat → List Int
  | 0 => []
  | 1 => [0]
  | k + 2 => outG can (k + 1) ++ [bestG can (fun i => (outG can (k + 1))[i]?.getD 0) (k + 1) (k + 1) 99]
theorem out_len (can : Nat → Bool) : ∀ k, (outG can k).length = k
  | 0 => rfl
  | 1 => rfl
  | k + 2 => by rw [outG, List.length_append, out_len can (k + 1)]; rfl
theorem out_at (can : Nat → Bool) {i k : Nat} (h : i < k) : (outG can k)[i]? = (outG can (i + 1))[i]? := by
  induction h with
  | refl => rfl
  | @step k h ih =>
    rw [← ih]
    obtain ⟨j, rfl⟩ : ∃ j, k = j + 1 := ⟨k - 1, by have : i + 1 ≤ k := h; omega⟩
    rw [outG, List.getElem?_append_left (by rw [out_len]; exact h)]
def fewG (can : Nat → Bool) (m : Nat) : Int := (outG can (m + 1))[m]?.getD 0
theorem few_zero (can : Nat → Bool) : fewG can 0 = 0 := rfl
theorem best_congr (can : Nat → Bool) (o o' : Nat → Int) (set : Nat) (h : ∀ x, x < set → o x = o' x) : ∀ (part : Nat) (best : Int), part ≤ set → bestG can o set part best = bestG can o' set part best := by
  intro part
  induction part using Nat.strongRecOn with
  | _ part ih =>
    intro best hp
    by_cases h0 : part = 0
    · subst h0
      unfold bestG; rfl
    · have hl := @Nat.and_le_left (part - 1) set
      have e := ih _ (show (part - 1) &&& set < part by omega) (if can part then min best (1 + o (set - part)) else best) (by omega)
      have e1 : bestG can o set part best = bestG can o set ((part - 1) &&& set) (if can part then min best (1 + o (set - part)) else best) := by
        conv => lhs; unfold bestG
        rw [dif_neg h0]
      have e2 : bestG can o' set part best = bestG can o' set ((part - 1) &&& set) (if can part then min best (1 + o' (set - part)) else best) := by
        conv => lhs; unfold bestG
        rw [dif_neg h0]
      rw [e1, e2, e, h (set - part) (by omega)]
theorem few_succ (can : Nat → Bool) (k : Nat) : fewG can (k + 1) = bestG can (fewG can) (k + 1) (k + 1) 99 := by
  rw [fewG, outG, List.getElem?_append_right (by rw [out_len]; exact Nat.le_refl _), out_len]
  simp only [Nat.sub_self, List.getElem?_cons_zero, Option.getD_some]
  refine best_congr can _ _ _ (fun x hx => ?_) _ _ (Nat.le_refl _)
  rw [fewG, out_at can hx]
/-- what the specification's fewest says -/
theorem few_le (can : Nat → Bool) {m : Nat} (hm : m ≠ 0) {p : Int} (hp : p < 99) : fewG can m ≤ p ↔ ∃ x, x ≠ 0 ∧ Part x m ∧ can x = true ∧ 1 + fewG can (lessF m x) ≤ p := by
  obtain ⟨k, rfl⟩ : ∃ k, m = k + 1 := ⟨m - 1, by omega⟩
  rw [few_succ, best_le can _ _ _ _ _ (fun i h => h)]
  constructor
  · rintro (h | ⟨x, h1, h2, h3, h4, h5⟩)
    · omega
    · exact ⟨x, h1, h3, h4, by rwa [less_sub h3]⟩
  · rintro ⟨x, h1, h3, h4, h5⟩
    exact .inr ⟨x, h1, part_le h3, h3, h4, by rwa [← less_sub h3]⟩
theorem few_nonneg (can : Nat → Bool) : ∀ m, 0 ≤ fewG can m := by
  intro m
  induction m using Nat.strongRecOn with
  | _ m ih =>
    by_cases hm : m = 0
    · subst hm; exact Int.le_refl _
    · apply Classical.byContradiction
      intro hn
      obtain ⟨x, h1, h2, h3, h4⟩ := (few_le can hm (p := -1) (by omega)).1 (by omega)
      have := ih _ (less_lt h2 h1)
      omega
theorem few_pos (can : Nat → Bool) {m : Nat} (hm : m ≠ 0) : 1 ≤ fewG can m := by
  apply Classical.byContradiction
  intro hn
  obtain ⟨x, h1, h2, h3, h4⟩ := (few_le can hm (p := 0) (by omega)).1 (by omega)
  have := few_nonneg can (lessF m x)
  omega
theorem few_top (can : Nat → Bool) (m : Nat) : fewG can m ≤ 99 := by
  by_cases hm : m = 0
  · subst hm; rw [few_zero]; omega
  · obtain ⟨k, rfl⟩ : ∃ k, m = k + 1 := ⟨m - 1, by omega⟩
    rw [few_succ, best_le can _ _ _ _ _ (fun i h => h)]
    exact .inl (Int.le_refl _)
/-- it is how few pickers there must be -/
theorem few_fit {key : Nat → Nat → Bool} {n : Nat} {ord : List Nat} (h : Desk key n ord) (hk : Ord till key) (hs : ∀ s, 0 ≤ sec s) (can : Nat → Bool) (hc : ∀ x, (∀ i, x.testBit i = true → i < n) → (can x = true ↔ inT sec till 0 (pick x ord))) :
    ∀ (p m : Nat), p < 99 → (∀ i, m.testBit i = true → i < n) → (fewG can m ≤ (p : Int) ↔ Fit sec till p m)
  | 0, m, _, _ => by
    rw [Fit]
    constructor
    · intro h0
      apply Classical.byContradiction
      intro hm
      have := few_pos can hm
      omega
    · rintro rfl; exact Int.le_refl _
  | p + 1, m, hp, hm => by
    by_cases h0 : m = 0
    · subst h0
      exact ⟨fun _ => fit_zero _, fun _ => by rw [few_zero]; omega⟩
    · rw [few_le can h0 (by omega)]
      constructor
      · rintro ⟨x, h1, h2, h3, h4⟩
        have hx : ∀ i, x.testBit i = true → i < n := fun i hi => hm i (h2 i hi)
        refine ⟨pick x ord, h.nodup.sublist List.filter_sublist, fun s hs => ?_, (hc x hx).1 h3, ?_⟩
        · exact h2 s (List.mem_filter.1 hs).2
        · rw [h.setF_pick hx]
          exact (few_fit h hk hs can hc p _ (by omega) (fun i hi => hm i (Part.less m x i hi))).1 (by omega)
      · rintro ⟨l, h1, h2, h3, h4⟩
        have hl : ∀ s ∈ l, s < n := fun s hs => hm s (h2 s hs)
        by_cases he : l = []
        · subst he
          rw [show setF [] = 0 from rfl, less_zero] at h4
          have h5 := (few_fit h hk hs can hc p m (by omega) hm).2 h4
          obtain ⟨x, g1, g2, g3, g4⟩ := (few_le can h0 (by omega)).1 h5
          exact ⟨x, g1, g2, g3, by omega⟩
        · have hp2 : Part (setF l) m := fun i hi => by rw [setF_bit, decide_eq_true_eq] at hi; exact h2 i hi
          refine ⟨setF l, fun e => he (setF_zero.1 e), hp2, (hc _ (fun i hi => hm i (hp2 i hi))).2 ?_, ?_⟩
          · rw [h.pick_sort hk h1 hl]
            exact inT_sort hs key hk.till l 0 h3
          · have := (few_fit h hk hs can hc p _ (by omega) (fun i hi => hm i (Part.less m _ i hi))).2 h4
            omega
end Go.Proofs.YtomgnpfpaodpiaaDoor.PM

/- The first of the fewest slips that are late: plain mathematics. -/
namespace Go.Proofs.YtomgnpfpaodpiaaDoor.PM
/-- does a list come before another one, element by element -/
def aheadB : List Int → List Int → Bool
  | a :: l, b :: r => if a = b then aheadB l r else decide (a < b)
  | [], _ :: _ => true
  | _, [] => false
/-- is a list of slips told rather than another one -/
def prefB (a b : List Int) : Bool := decide (a.length < b.length) || (decide (a.length = b.length) && aheadB a b)
theorem ahead_irr : ∀ a : List Int, aheadB a a = false
  | [] => rfl
  | a :: l => by rw [aheadB, if_pos rfl, ahead_irr l]
theorem ahead_tri : ∀ a b : List Int, a = b ∨ aheadB a b = true ∨ aheadB b a = true
  | [], [] => .inl rfl
  | [], _ :: _ => .inr (.inl rfl)
  | _ :: _, [] => .inr (.inr rfl)
  | a :: l, b :: r => by
    by_cases h : a = b
    · subst h
      rw [aheadB, aheadB, if_pos rfl, if_pos rfl]
      rcases ahead_tri l r with rfl | h | h
      · exact .inl rfl
      · exact .inr (.inl h)
      · exact .inr (.inr h)
    · rw [aheadB, aheadB, if_neg h, if_neg (fun e => h e.symm), decide_eq_true_eq, decide_eq_true_eq]
      omega
theorem ahead_trans : ∀ a b c : List Int, aheadB a b = true → aheadB b c = true → aheadB a c = true
  | [], _, [], h, k => by cases ‹List Int› <;> simp [aheadB] at h k
  | [], _, _ :: _, _, _ => rfl
  | _ :: _, [], _, h, _ => by simp [aheadB] at h
  | _ :: _, _ :: _, [], _, k => by simp [aheadB] at k
  | a :: l, b :: r, c :: s, h, k => by
    rw [aheadB] at h k ⊢
    by_cases h1 : a = b
    · subst h1
      rw [if_pos rfl] at h
      by_cases h2 : a = c
      · subst h2
        rw [if_pos rfl] at k ⊢
        exact ahead_trans l r s h k
      · rw [if_neg h2] at k ⊢
        exact k
    · rw [if_neg h1, decide_eq_true_eq] at h
      by_cases h2 : b = c
      · subst h2
        rw [if_neg h1, decide_eq_true_eq]; exact h
      · rw [if_neg h2, decide_eq_true_eq] at k
        rw [if_neg (by omega), decide_eq_true_eq]; omega
theorem pref_iff (a b : List Int) : prefB a b = true ↔ a.length < b.length ∨ (a.length = b.length ∧ aheadB a b = true) := by simp [prefB]
theorem pref_irr (a : List Int) : prefB a a = false := by simp [prefB, ahead_irr]
theorem pref_tri (a b : List Int) : a = b ∨ prefB a b = true ∨ prefB b a = true := by
  rw [pref_iff, pref_iff]
  rcases ahead_tri a b with rfl | h | h
  · exact .inl rfl
  · by_cases hl : a.length = b.length
    · exact .inr (.inl (.inr ⟨hl, h⟩))
    · omega
  · by_cases hl : a.length = b.length
    · exact .inr (.inr (.inr ⟨hl.symm, h⟩))
    · omega
theorem pref_trans {a b c : List Int} (h : prefB a b = true) (k : prefB b c = true) : prefB a c = true := by
  rw [pref_iff] at h k ⊢
  rcases h with h | ⟨h, h'⟩ <;> rcases k with k | ⟨k, k'⟩
  · omega
  · omega
  · omega
  · exact .inr ⟨h.trans k, ahead_trans _ _ _ h' k'⟩
theorem pref_asym {a b : List Int} (h : prefB a b = true) : prefB b a = false := by
  cases hb : prefB b a with
  | false => rfl
  | true => have := pref_trans h hb; rw [pref_irr] at this; cases this
/-- the first one of all that do -/
structure Best (U : List Int → Prop) (P : List Int → Bool) (y : List Int) : Prop where
  in_ : U y
  ok : P y = true
  first : ∀ z, U z → P z = true → prefB z y = false
theorem Best.unique {U : List Int → Prop} {P : List Int → Bool} {y z : List Int} (h : Best U P y) (k : Best U P z) : y = z := by
  rcases pref_tri y z with e | e | e
  · exact e
  · rw [k.first y h.in_ h.ok] at e; cases e
  · rw [h.first z k.in_ k.ok] at e; cases e
theorem cho_mem : ∀ (rest ch : List Int) (m : Nat) (y : List Int), y ∈ choF m rest ch ↔ ch.length ≤ m ∧ ∃ sub : List Int, sub.Sublist rest ∧ y = ch ++ sub ∧ y.length = m
  | [], ch, m, y => by
    rw [choF]
    constructor
    · intro h
      split at h
      · rw [List.mem_singleton] at h; subst h
        exact ⟨by omega, [], .slnil, by simp, by assumption⟩
      · simp [chL] at h
    · rintro ⟨_, sub, h1, h2, h3⟩
      obtain rfl := List.sublist_nil.1 h1
      rw [List.append_nil] at h2
      subst h2
      rw [if_pos h3]; simp
  | x :: rest, ch, m, y => by
    by_cases hc : ch.length = m
    · rw [choF, if_pos hc, List.mem_singleton]
      constructor
      · rintro rfl; exact ⟨by omega, [], List.nil_sublist _, by simp, hc⟩
      · rintro ⟨_, sub, h1, h2, h3⟩
        have : sub = [] := by
          have := congrArg List.length h2
          rw [List.length_append] at this
          exact List.length_eq_zero_iff.1 (by omega)
        rw [h2, this, List.append_nil]
    · have e : choF m (x :: rest) ch = choF m rest (ch ++ [x]) ++ chL m rest ch := by rw [choF, if_neg hc, chL_cons]
      have e2 : chL m rest ch = choF m rest ch := by rw [choF, if_neg hc]
      rw [e, e2, List.mem_append, cho_mem rest, cho_mem rest]
      constructor
      · rintro (⟨h0, sub, h1, h2, h3⟩ | ⟨h0, sub, h1, h2, h3⟩)
        · exact ⟨by simp at h0; omega, x :: sub, .cons_cons _ h1, by rw [h2]; simp, h3⟩
        · exact ⟨h0, sub, .cons _ h1, h2, h3⟩
      · rintro ⟨h0, sub, h1, h2, h3⟩
        cases h1 with
        | cons _ h1 => exact .inr ⟨h0, sub, h1, h2, h3⟩
        | cons_cons _ h1 =>
          rename_i sub
          exact .inl ⟨by simp; omega, sub, h1, by rw [h2]; simp, h3⟩
theorem ahead_pre : ∀ (ch : List Int) (x z : Int) (u v : List Int), x < z → aheadB (ch ++ x :: u) (ch ++ z :: v) = true
  | [], x, z, u, v, h => by
    rw [List.nil_append, List.nil_append, aheadB, if_neg (by omega), decide_eq_true_eq]; exact h
  | c :: ch, x, z, u, v, h => by
    rw [List.cons_append, List.cons_append, aheadB, if_pos rfl]
    exact ahead_pre ch x z u v h
theorem cho_sorted : ∀ (rest ch : List Int) (m : Nat), rest.Pairwise (· < ·) → (choF m rest ch).Pairwise (fun a b => aheadB a b = true)
  | [], ch, m, _ => by
    rw [choF]
    split
    · simp
    · simp [chL]
  | x :: rest, ch, m, h => by
    obtain ⟨h1, h2⟩ := List.pairwise_cons.1 h
    by_cases hc : ch.length = m
    · rw [choF, if_pos hc]; simp
    · have e : choF m (x :: rest) ch = choF m rest (ch ++ [x]) ++ chL m rest ch := by rw [choF, if_neg hc, chL_cons]
      have e2 : chL m rest ch = choF m rest ch := by rw [choF, if_neg hc]
      rw [e, e2, List.pairwise_append]
      refine ⟨cho_sorted rest _ m h2, cho_sorted rest ch m h2, fun a ha b hb => ?_⟩
      obtain ⟨_, s1, g1, g2, g3⟩ := (cho_mem _ _ _ _).1 ha
      obtain ⟨_, s2, k1, k2, k3⟩ := (cho_mem _ _ _ _).1 hb
      subst g2 k2
      cases s2 with
      | nil => exact absurd (by simpa using k3) hc
      | cons z s2 =>
        have hz : z ∈ rest := k1.subset (by simp)
        rw [List.append_assoc]
        exact ahead_pre ch x z s1 s2 (h1 z hz)
/-- the fewest slips that are late, the first list of them -/
def lateG (P : List Int → Bool) (n : Nat) (l : List Int) : List Int := ((List.range n).findSome? fun many => (choF many l []).find? P).getD l
theorem late_best (P : List Int → Bool) (l : List Int) (hl : l.Pairwise (· < ·)) (hP : P l = true) : Best (fun y => y.Sublist l) P (lateG P l.length l) := by
  have inU : ∀ {many : Nat} {y : List Int}, y ∈ choF many l [] ↔ y.Sublist l ∧ y.length = many := fun {many y} => by
    rw [cho_mem]
    constructor
    · rintro ⟨_, sub, h1, h2, h3⟩
      rw [List.nil_append] at h2; subst h2; exact ⟨h1, h3⟩
    · rintro ⟨h1, h2⟩; exact ⟨by simp, y, h1, rfl, h2⟩
  rw [lateG]
  cases hf : (List.range l.length).findSome? fun many => (choF many l []).find? P with
  | none =>
    rw [List.findSome?_eq_none_iff] at hf
    refine ⟨List.Sublist.refl _, hP, fun z h1 h2 => ?_⟩
    cases hb : prefB z l with
    | false => rw [Option.getD_none]; exact hb
    | true =>
      exfalso
      rw [pref_iff] at hb
      have hz : z.length < l.length := by
        rcases hb with hb | ⟨hb, hb'⟩
        · exact hb
        · have := h1.eq_of_length hb
          subst this
          rw [ahead_irr] at hb'; cases hb'
      have := hf z.length (List.mem_range.2 hz)
      rw [List.find?_eq_none] at this
      exact this z (inU.2 ⟨h1, rfl⟩) h2
  | some y =>
    rw [List.findSome?_eq_some_iff] at hf
    obtain ⟨l1, many, l2, e, hy, hb⟩ := hf
    have hmany : many = l1.length := by
      have h1 : (List.range l.length)[l1.length]? = some many := by rw [e, List.getElem?_append_right (Nat.le_refl _), Nat.sub_self]; rfl
      obtain ⟨h2, h3⟩ := List.getElem?_eq_some_iff.1 h1
      rw [List.getElem_range] at h3
      exact h3.symm
    have hl1 : l1 = List.range many := by
      have h1 : l1 = (List.range l.length).take l1.length := by rw [e, List.take_left]
      have h2 : l1.length ≤ l.length := by have := congrArg List.length e; simp at this; omega
      rw [h1, List.take_range, Nat.min_eq_left h2, hmany]
    rw [List.find?_eq_some_iff_append] at hy
    obtain ⟨hP1, l3, l4, hs, hall⟩ := hy
    have hyU : y.Sublist l ∧ y.length = many := inU.1 (by rw [hs]; simp)
    refine ⟨hyU.1, hP1, fun z h1 h2 => ?_⟩
    rw [Option.getD_some]
    cases hb2 : prefB z y with
    | false => rfl
    | true =>
      exfalso
      rw [pref_iff] at hb2
      rcases hb2 with h3 | ⟨h3, h4⟩
      · have := hb z.length (by rw [hl1, List.mem_range]; omega)
        rw [List.find?_eq_none] at this
        exact this z (inU.2 ⟨h1, rfl⟩) h2
      · have hz : z ∈ choF many l [] := inU.2 ⟨h1, by omega⟩
        rw [hs, List.mem_append, List.mem_cons] at hz
        rcases hz with hz | rfl | hz
        · have := hall z hz; rw [h2] at this; cases this
        · rw [ahead_irr] at h4; cases h4
        · have hso := cho_sorted l [] many hl
          rw [hs] at hso
          have h5 := (List.pairwise_cons.1 (List.pairwise_append.1 hso).2.1).1 z hz
          have h6 := ahead_trans _ _ _ h4 h5
          rw [ahead_irr] at h6; cases h6
/-- the same, found by going over some lists one by one -/
def passB (P : List Int → Bool) (best y : List Int) : List Int := if P y && prefB y best then y else best
theorem pass_best (P : List Int → Bool) : ∀ (L : List (List Int)) (best : List Int), P best = true → P (L.foldl (passB P) best) = true ∧ (L.foldl (passB P) best = best ∨ L.foldl (passB P) best ∈ L) ∧ prefB best (L.foldl (passB P) best) = false ∧ ∀ z ∈ L, P z = true → prefB z (L.foldl (passB P) best) = false
  | [], best, h => ⟨h, .inl rfl, pref_irr _, by simp⟩
  | y :: L, best, h => by
    rw [List.foldl_cons]
    have hb : P (passB P best y) = true := by
      rw [passB]
      split
      · rename_i h1; rw [Bool.and_eq_true] at h1; exact h1.1
      · exact h
    obtain ⟨i1, i2, i3, i4⟩ := pass_best P L (passB P best y) hb
    refine ⟨i1, ?_, ?_, ?_⟩
    · rcases i2 with i2 | i2
      · rw [i2, passB]
        split
        · exact .inr (by simp)
        · exact .inl rfl
      · exact .inr (by simp [i2])
    · cases hc : prefB best (L.foldl (passB P) (passB P best y)) with
      | false => rfl
      | true =>
        exfalso
        by_cases h1 : (P y && prefB y best) = true
        · have e : passB P best y = y := by rw [passB, if_pos h1]
          rw [e] at hc i3
          rw [Bool.and_eq_true] at h1
          have := pref_trans h1.2 hc
          rw [i3] at this; cases this
        · have e : passB P best y = best := by rw [passB, if_neg h1]
          rw [e] at hc i3
          rw [i3] at hc; cases hc
    · intro z hz hPz
      rcases List.mem_cons.1 hz with rfl | hz
      · by_cases h1 : (P z && prefB z best) = true
        · have e : passB P best z = z := by rw [passB, if_pos h1]
          rw [e] at i3 ⊢
          exact i3
        · have e : passB P best z = best := by rw [passB, if_neg h1]
          rw [e] at i3 ⊢
          cases hc : prefB z (L.foldl (passB P) best) with
          | false => rfl
          | true =>
            exfalso
            rcases pref_tri z best with e1 | e1 | e1
            · subst e1; rw [i3] at hc; cases hc
            · rw [hPz, e1] at h1; exact h1 rfl
            · have := pref_trans e1 hc
              rw [i3] at this; cases this
      · exact i4 z hz hPz
end Go.Proofs.YtomgnpfpaodpiaaDoor.PM

/- How many steps pieces take: plain mathematics. -/
namespace Go.Proofs.YtomgnpfpaodpiaaDoor.PM
/-- how many steps pieces take, the farthest first, so many at once -/
def stD (C : Nat) : Nat → List Int → Int
  | 0, _ => 0
  | _ + 1, [] => 0
  | n + 1, d :: D => 2 * d + stD C n ((d :: D).drop C)
def cnt (h : Int) (D : List Int) : Nat := D.countP fun d => decide (h ≤ d)
def upD (x C : Nat) : Nat := (x + C - 1) / C
/-- added up from 1 on -/
def sumH (g : Nat → Int) : Nat → Int
  | 0 => 0
  | h + 1 => sumH g h + g (h + 1)
theorem sumH_add (g k : Nat → Int) : ∀ H, sumH (fun h => g h + k h) H = sumH g H + sumH k H
  | 0 => rfl
  | H + 1 => by rw [sumH, sumH, sumH, sumH_add g k H]; omega
theorem sumH_le {g k : Nat → Int} (h : ∀ i, g i ≤ k i) : ∀ H, sumH g H ≤ sumH k H
  | 0 => Int.le_refl _
  | H + 1 => by have := sumH_le h H; have := h (H + 1); rw [sumH, sumH]; omega
theorem sumH_zero : ∀ H, sumH (fun _ => 0) H = 0
  | 0 => rfl
  | H + 1 => by rw [sumH, sumH_zero H]; rfl
theorem sumH_congr {g k : Nat → Int} (H : Nat) (h : ∀ i, 1 ≤ i → i ≤ H → g i = k i) : sumH g H = sumH k H := by
  induction H with
  | zero => rfl
  | succ H ih => rw [sumH, sumH, ih (fun i h1 h2 => h i h1 (by omega)), h (H + 1) (by omega) (Nat.le_refl _)]
/-- a number is how many numbers from 1 on are not above it -/
theorem sumH_one (d : Int) (h0 : 0 ≤ d) : ∀ H : Nat, sumH (fun h => if (h : Int) ≤ d then 1 else 0) H = min d H
  | 0 => by rw [sumH]; omega
  | H + 1 => by
    rw [sumH, sumH_one d h0 H]
    split <;> omega
theorem up_zero {C : Nat} (hC : 1 ≤ C) : upD 0 C = 0 := Nat.div_eq_of_lt (by omega)
theorem up_one {x C : Nat} (h1 : 1 ≤ x) (h2 : x ≤ C) : upD x C = 1 := by
  unfold upD
  rw [show x + C - 1 = (x - 1) + C by omega, Nat.add_div_right _ (by omega), Nat.div_eq_of_lt (by omega)]
theorem up_add {x C : Nat} (hC : 1 ≤ C) : upD (C + x) C = 1 + upD x C := by
  unfold upD
  rw [show C + x + C - 1 = (x + C - 1) + C by omega, Nat.add_div_right _ (by omega)]
  omega
theorem up_le {x k C : Nat} (hC : 1 ≤ C) (h : x ≤ C * k) : upD x C ≤ k := by
  unfold upD
  have : (x + C - 1) / C < k + 1 := Nat.div_lt_of_lt_mul (by rw [Nat.mul_add]; omega)
  omega
theorem up_mono {x C C' : Nat} (hC : 1 ≤ C) (h : C ≤ C') : upD x C' ≤ upD x C := by
  refine up_le (by omega) ?_
  have h1 : x ≤ C * upD x C := by
    unfold upD
    have := Nat.div_add_mod (x + C - 1) C
    have := Nat.mod_lt (x + C - 1) (show 0 < C by omega)
    omega
  exact Nat.le_trans h1 (Nat.mul_le_mul_right _ h)
theorem cnt_app (h : Int) (a b : List Int) : cnt h (a ++ b) = cnt h a + cnt h b := by simp [cnt, List.countP_append]
theorem cnt_le (h : Int) (a : List Int) : cnt h a ≤ a.length := List.countP_le_length
theorem cnt_all {h : Int} {a : List Int} (ha : ∀ x ∈ a, h ≤ x) : cnt h a = a.length := by
  rw [cnt, List.countP_eq_length]
  intro x hx
  simpa using ha x hx
theorem cnt_none {h : Int} {a : List Int} (ha : ∀ x ∈ a, x < h) : cnt h a = 0 := by
  rw [cnt, List.countP_eq_zero]
  intro x hx
  have := ha x hx
  simp; omega
theorem cnt_some {h : Int} {a : List Int} (hc : cnt h a ≠ 0) : ∃ x ∈ a, h ≤ x := by
  rw [cnt] at hc
  obtain ⟨x, hx, hp⟩ := List.countP_pos_iff.1 (by omega : 0 < a.countP fun d => decide (h ≤ d))
  exact ⟨x, hx, by simpa using hp⟩
/-- steps, by how far away they are -/
theorem st_sum {C : Nat} (hC : 1 ≤ C) (H : Nat) : ∀ (n : Nat) (D : List Int), D.length ≤ n → D.Pairwise (· ≥ ·) → (∀ d ∈ D, 0 ≤ d ∧ d ≤ H) → stD C n D = 2 * sumH (fun h => (upD (cnt h D) C : Nat)) H
  | 0, D, hn, _, _ => by
    obtain rfl := List.length_eq_zero_iff.1 (by omega : D.length = 0)
    rw [stD, show (fun h : Nat => ((upD (cnt h []) C : Nat) : Int)) = fun _ => 0 from funext fun h => by simp [cnt, up_zero hC], sumH_zero]; rfl
  | n + 1, [], _, _, _ => by
    rw [stD, show (fun h : Nat => ((upD (cnt h []) C : Nat) : Int)) = fun _ => 0 from funext fun h => by simp [cnt, up_zero hC], sumH_zero]; rfl
  | n + 1, d :: D, hn, hs, hb => by
    have hsub : ((d :: D).drop C).Sublist (d :: D) := List.drop_sublist _ _
    rw [stD, st_sum hC H n _ (by rw [List.length_drop]; simp at hn ⊢; omega) (hs.sublist hsub) (fun x hx => hb x (hsub.subset hx))]
    have key : ∀ h : Nat, ((upD (cnt h (d :: D)) C : Nat) : Int) = (if (h : Int) ≤ d then 1 else 0) + ((upD (cnt h ((d :: D).drop C)) C : Nat) : Int) := fun h => by
      have hsplit : cnt h (d :: D) = cnt h ((d :: D).take C) + cnt h ((d :: D).drop C) := by rw [← cnt_app, List.take_append_drop]
      by_cases hd : (h : Int) ≤ d
      · rw [if_pos hd]
        by_cases h0 : cnt h ((d :: D).drop C) = 0
        · have h1 : 1 ≤ cnt h ((d :: D).take C) := by
            obtain ⟨c, rfl⟩ : ∃ c, C = c + 1 := ⟨C - 1, by omega⟩
            rw [List.take_succ_cons, cnt, List.countP_cons_of_pos (by simpa using hd)]
            omega
          have h2 : cnt h ((d :: D).take C) ≤ C := Nat.le_trans (cnt_le _ _) (by rw [List.length_take]; omega)
          rw [hsplit, h0, Nat.add_zero, up_one h1 h2, up_zero hC]; rfl
        · obtain ⟨x, hx, hxh⟩ := cnt_some h0
          have hall : ∀ y ∈ (d :: D).take C, (h : Int) ≤ y := fun y hy => by
            have hp := hs
            rw [← List.take_append_drop C (d :: D), List.pairwise_append] at hp
            have := hp.2.2 y hy x hx
            omega
          have hlen : ((d :: D).take C).length = C := by
            rw [List.length_take]
            have : 0 < ((d :: D).drop C).length := List.length_pos_of_mem hx
            rw [List.length_drop] at this
            omega
          rw [hsplit, cnt_all hall, hlen, up_add hC]
          omega
      · rw [if_neg hd]
        have h1 : ∀ y ∈ d :: D, y < (h : Int) := fun y hy => by
          rcases List.mem_cons.1 hy with rfl | hy
          · omega
          · have := (List.pairwise_cons.1 hs).1 y hy
            omega
        rw [cnt_none h1, cnt_none (fun y hy => h1 y (hsub.subset hy)), up_zero hC]; rfl
    rw [show (fun h : Nat => ((upD (cnt h (d :: D)) C : Nat) : Int)) = fun h : Nat => (if (h : Int) ≤ d then 1 else 0) + ((upD (cnt h ((d :: D).drop C)) C : Nat) : Int) from funext key, sumH_add, sumH_one d (hb d (by simp)).1]
    have := hb d (by simp)
    omega
/-- who can carry more takes no more steps -/
theorem st_carry {C C' : Nat} (hC : 1 ≤ C) (h : C ≤ C') (H : Nat) (n : Nat) (D : List Int) (hn : D.length ≤ n) (hs : D.Pairwise (· ≥ ·)) (hb : ∀ d ∈ D, 0 ≤ d ∧ d ≤ H) : stD C' n D ≤ stD C n D := by
  rw [st_sum hC H n D hn hs hb, st_sum (by omega) H n D hn hs hb]
  have : sumH (fun h => ((upD (cnt h D) C' : Nat) : Int)) H ≤ sumH (fun h => ((upD (cnt h D) C : Nat) : Int)) H := sumH_le (fun i => by have := @up_mono (cnt i D) C C' hC h; omega) H
  omega
/-- no tours take fewer: each has how far it goes, and its pieces -/
theorem tours_most {C : Nat} (hC : 1 ≤ C) (H : Nat) (n : Nat) (D : List Int) (hn : D.length ≤ n) (hs : D.Pairwise (· ≥ ·)) (hb : ∀ d ∈ D, 0 ≤ d ∧ d ≤ H) (ts : List (Int × List Int)) (h0 : ∀ t ∈ ts, 0 ≤ t.1 ∧ t.1 ≤ H) (hc : ∀ t ∈ ts, t.2.length ≤ C) (hf : ∀ t ∈ ts, ∀ d ∈ t.2, d ≤ t.1) (hp : (ts.flatMap fun t => t.2).Perm D) :
    stD C n D ≤ 2 * (ts.map fun t => t.1).sum := by
  rw [st_sum hC H n D hn hs hb]
  have e1 : ∀ ts : List (Int × List Int), (∀ t ∈ ts, 0 ≤ t.1 ∧ t.1 ≤ H) → (ts.map fun t => t.1).sum = sumH (fun h => ((ts.countP fun t => decide ((h : Int) ≤ t.1) : Nat) : Int)) H := by
    intro ts
    induction ts with
    | nil => intro _; simp only [List.map_nil, List.sum_nil, List.countP_nil]; exact (sumH_zero H).symm
    | cons t ts ih =>
      intro h
      have ht := h t (by simp)
      rw [List.map_cons, List.sum_cons, ih (fun x hx => h x (by simp [hx]))]
      have : (fun h : Nat => (((t :: ts).countP fun t => decide ((h : Int) ≤ t.1) : Nat) : Int)) = fun h : Nat => (if (h : Int) ≤ t.1 then 1 else 0) + ((ts.countP fun t => decide ((h : Int) ≤ t.1) : Nat) : Int) := funext fun h => by
        rw [List.countP_cons]
        simp only [decide_eq_true_eq]
        split <;> omega
      rw [this, sumH_add, sumH_one t.1 ht.1]
      omega
  have e2 : ∀ h : Nat, cnt h D ≤ C * ts.countP fun t => decide ((h : Int) ≤ t.1) := fun h => by
    have : cnt h D = cnt h (ts.flatMap fun t => t.2) := (hp.countP_eq _).symm
    rw [this]
    clear this hp e1 h0 hb hs hn
    induction ts with
    | nil => simp [cnt]
    | cons t ts ih =>
      have ih := ih (fun x hx => hc x (by simp [hx])) (fun x hx => hf x (by simp [hx]))
      rw [List.flatMap_cons, cnt_app, List.countP_cons]
      simp only [decide_eq_true_eq]
      split
      · rename_i hh
        have h1 := cnt_le h t.2
        have h2 := hc t (by simp)
        rw [Nat.mul_add]
        omega
      · rename_i hh
        rw [cnt_none (fun y hy => by have := hf t (by simp) y hy; omega), Nat.add_zero]
        omega
  rw [e1 ts h0]
  have := sumH_le (g := fun h => ((upD (cnt h D) C : Nat) : Int)) (k := fun h => ((ts.countP fun t => decide ((h : Int) ≤ t.1) : Nat) : Int)) (fun i => by have := up_le hC (e2 i); omega) H
  omega
/-- nearer pieces take no more steps -/
theorem st_near {C : Nat} : ∀ (n : Nat) (D E : List Int), D.length = E.length → (∀ (i : Nat) (x y : Int), D[i]? = some x → E[i]? = some y → x ≤ y) → stD C n D ≤ stD C n E
  | 0, _, _, _, _ => Int.le_refl _
  | n + 1, [], [], _, _ => Int.le_refl _
  | n + 1, [], _ :: _, h, _ => by simp at h
  | n + 1, _ :: _, [], h, _ => by simp at h
  | n + 1, d :: D, e :: E, h, k => by
    rw [stD, stD]
    have h1 := k 0 d e rfl rfl
    have h2 := st_near (C := C) n ((d :: D).drop C) ((e :: E).drop C) (by rw [List.length_drop, List.length_drop, h]) (fun i x y hx hy => by
      rw [List.getElem?_drop] at hx hy
      exact k _ x y hx hy)
    omega
end Go.Proofs.YtomgnpfpaodpiaaDoor.PM

/- What a desk's plain forms mean: rosters of so many pickers in which all are in time. -/
namespace Go.Proofs.YtomgnpfpaodpiaaDoor
open Go Go.RowKit
/-- how long a slip takes at most, and until when it may -/
def secF (f : Floor) (s : Nat) : Int := (secsL f)[s]?.getD 0
def dueF (f : Floor) (s : Nat) : Int := keyF f s
theorem sec_nonneg {f : Floor} (hv : validB f = true) (s : Nat) : 0 ≤ secF f s := by
  unfold secF
  by_cases hs : s < f.slips.length
  · obtain ⟨n, h1, h2, _⟩ := secs_range hv hs
    rw [h1]; exact h2
  · rw [List.getElem?_eq_none (by simp [secsL]; omega)]
    exact Int.le_refl _
theorem loop_is (f : Floor) (m : Nat) : ∀ (rest : List Nat) (to : Nat) (sec : Int), loopF f m to sec rest = PM.loopG (secF f) (dueF f) m to sec rest
  | [], _, _ => rfl
  | s :: rest, to, sec => by
    rw [loopF, PM.loopG, loop_is f m rest, loop_is f m rest]
    rfl
theorem can_is (f : Floor) : ∀ (p m : Nat), canF f p m = PM.canG (secF f) (dueF f) (ordN f) p m
  | 0, _ => rfl
  | p + 1, m => by
    rw [canF, PM.canG, givenF, loop_is]
    have : (fun x => canF f p (lessF m x)) = fun x => PM.canG (secF f) (dueF f) (ordN f) p (lessF m x) := funext fun x => can_is f p _
    rw [this]
/-- which slip comes first on a desk -/
def before (f : Floor) (x y : Nat) : Bool := decide (dueF f x < dueF f y ∨ (dueF f x = dueF f y ∧ x ≤ y))
theorem before_iff (f : Floor) (x y : Nat) : before f x y = true ↔ dueF f x < dueF f y ∨ (dueF f x = dueF f y ∧ x ≤ y) := by simp [before]
theorem ord_is (f : Floor) : PM.Ord (dueF f) (before f) := by
  refine ⟨fun x y h => ?_, fun x y z h k => ?_, fun x y h k => ?_, fun x s h => ?_⟩
  · have h : ¬ before f x y = true := by rw [h]; simp
    rw [before_iff] at h ⊢
    omega
  · rw [before_iff] at h k ⊢
    omega
  · rw [before_iff] at h k
    omega
  · rw [before_iff] at h
    omega
/-- not behind, and the greater one of equal ones first -/
def downI (key : Int → Int) (a b : Int) : Prop := key b < key a ∨ (key b = key a ∧ b ≤ a)
theorem insR_sorted (key : Int → Int) (x : Int) : ∀ (l : List Int), l.Pairwise (downI key) → (∀ y ∈ l, y < x) → (insR key x l).Pairwise (downI key)
  | [], _, _ => by simp [insR]
  | z :: l, h, hx => by
    obtain ⟨h1, h2⟩ := List.pairwise_cons.1 h
    have hz := hx z (by simp)
    rw [insR]
    split
    · rename_i hk
      refine List.pairwise_cons.2 ⟨fun y hy => ?_, insR_sorted key x l h2 (fun y hy => hx y (by simp [hy]))⟩
      rcases insR_mem.1 hy with rfl | hy
      · exact .inl hk
      · exact h1 y hy
    · rename_i hk
      refine List.pairwise_cons.2 ⟨fun y hy => ?_, h⟩
      rcases List.mem_cons.1 hy with rfl | hy
      · unfold downI; omega
      · have h3 := h1 y hy
        have h4 := hx y (by simp [hy])
        unfold downI at h3 ⊢
        omega
theorem insF_perm (key : Int → Int) (x : Int) (l : List Int) : (insF key x l).Perm (x :: l) := by
  have key2 : ∀ l : List Int, (insR key x l).Perm (x :: l) := by
    intro l
    induction l with
    | nil => exact List.Perm.refl _
    | cons z l ih =>
      rw [insR]
      split
      · exact (ih.cons z).trans (List.Perm.swap x z l)
      · exact List.Perm.refl _
  rw [insF]
  exact (List.reverse_perm _).trans ((key2 l.reverse).trans ((List.reverse_perm l).cons x))
theorem isort_spec (key : Int → Int) : ∀ (l acc : List Int), l.Pairwise (· < ·) → (∀ x ∈ l, ∀ y ∈ acc, y < x) → acc.Pairwise (fun a b => downI key b a) →
    (l.foldl (fun acc x => insF key x acc) acc).Perm (acc ++ l) ∧ (l.foldl (fun acc x => insF key x acc) acc).Pairwise (fun a b => downI key b a)
  | [], acc, _, _, h => by rw [List.foldl_nil, List.append_nil]; exact ⟨List.Perm.refl _, h⟩
  | x :: l, acc, hl, hx, h => by
    obtain ⟨h1, h2⟩ := List.pairwise_cons.1 hl
    rw [List.foldl_cons]
    have hp := insF_perm key x acc
    obtain ⟨i1, i2⟩ := isort_spec key l (insF key x acc) h2 (fun z hz y hy => by
      rcases List.mem_cons.1 (hp.mem_iff.1 hy) with rfl | hy
      · exact h1 z hz
      · exact hx z (by simp [hz]) y hy) (by
      rw [insF, List.pairwise_reverse]
      exact insR_sorted key x acc.reverse (by rw [List.pairwise_reverse]; exact h) (fun y hy => hx x (by simp) y (List.mem_reverse.1 hy)))
    refine ⟨i1.trans ((hp.append_right l).trans ?_), i2⟩
    exact (List.perm_middle (a := x) (l₁ := acc) (l₂ := l)).symm
theorem desk_is {f : Floor} (h9 : f.slips.length ≤ 9) : PM.Desk (before f) f.slips.length (ordN f) := by
  have e : orderF f = isortF (keyF f) (natsC (List.range f.slips.length)) := by rw [orderF, members_all ⟨f.slips.length, by omega⟩]
  have hlt : (natsC (List.range f.slips.length)).Pairwise (· < ·) := by
    rw [natsC, List.pairwise_map]
    exact List.pairwise_lt_range.imp (fun h => by omega)
  obtain ⟨h1, h2⟩ := isort_spec (keyF f) (natsC (List.range f.slips.length)) [] hlt (by simp) (by simp)
  rw [List.nil_append] at h1
  refine ⟨?_, ?_⟩
  · rw [ordN, e, isortF]
    refine (h1.map Int.toNat).trans ?_
    rw [natsC, List.map_map]
    have : (Int.toNat ∘ fun s : Nat => (s : Int)) = id := funext fun s => by simp
    rw [this, List.map_id]
  · rw [ordN, List.pairwise_map, e, isortF]
    have hm : ∀ x ∈ (natsC (List.range f.slips.length)).foldl (fun acc x => insF (keyF f) x acc) [], 0 ≤ x := fun x hx => by
      obtain ⟨y, _, rfl⟩ := List.mem_map.1 (h1.mem_iff.1 hx)
      omega
    refine List.Pairwise.imp_of_mem (fun {a b} ha hb h => ?_) h2
    have a0 := hm a ha
    have b0 := hm b hb
    rw [before_iff, dueF, dueF, Int.toNat_of_nonneg a0, Int.toNat_of_nonneg b0]
    unfold downI at h
    omega
/-- so many lists of slips of a floor, each in time, that together have just those of a set -/
def FitF (f : Floor) (p m : Nat) : Prop := PM.Fit (secF f) (dueF f) p m
theorem can_fit {f : Floor} (hv : validB f = true) (p m : Nat) (hm : ∀ i, m.testBit i = true → i < f.slips.length) : canF f p m = true ↔ FitF f p m := by
  rw [can_is]
  exact PM.can_fit (desk_is (fine hv).slips9) (ord_is f) (sec_nonneg hv) p m hm
theorem all_bit (f : Floor) (i : Nat) : (allF f).testBit i = decide (i < f.slips.length) := by
  rw [allF, Nat.testBit_two_pow_sub_one]
end Go.Proofs.YtomgnpfpaodpiaaDoor

