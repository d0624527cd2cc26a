/- Contract of Late. -/
import Derived.Test.YtomgnpfpaodpiaaDoorH31
set_option linter.unusedVariables false
set_option linter.unusedSimpArgs false
namespace Go.Proofs.YtomgnpfpaodpiaaDoor
open Go Go.RowKit Go.Shelf
set_option maxHeartbeats 4000000
attribute [local go_sem] Oper.semAt_some
/-- none of those that were tried so far can be late alone -/
def NoneF (f : Floor) (p k : Nat) : Prop := ∀ j, j < k → ∀ y ∈ choF j (slipsF f) [], canLess f p y = false
theorem late_some {f : Floor} {p k : Nat} {d r : List (List Int)} {y : List Int} (hn : NoneF f p k) (hk : k < f.slips.length) (he : choF k (slipsF f) [] = d ++ y :: r) (hd : ∀ z ∈ d, canLess f p z = false) (hy : canLess f p y = true) : lateF f p = y := by
  unfold lateF
  have h1 : (choF k (slipsF f) []).find? (canLess f p) = some y := by
    rw [he, List.find?_append, List.find?_eq_none.2 (fun z hz => by rw [hd z hz]; simp), List.find?_cons, hy]
    rfl
  have h2 : ((List.range f.slips.length).findSome? fun many => (choF many (slipsF f) []).find? (canLess f p)) = some y := by
    rw [List.findSome?_eq_some_iff]
    refine ⟨List.range k, k, (List.range f.slips.length).drop (k + 1), ?_, h1, fun j hj => ?_⟩
    · have e := List.take_append_drop k (List.range f.slips.length)
      rw [List.take_range, Nat.min_eq_left (by omega)] at e
      have e2 : (List.range f.slips.length).drop k = k :: (List.range f.slips.length).drop (k + 1) := by
        rw [List.drop_eq_getElem_cons (by simpa using hk)]
        simp
      rw [← e2, e]
    · rw [List.find?_eq_none]
      intro z hz
      rw [hn j (List.mem_range.1 hj) z hz]; simp
  rw [h2]
  rfl
theorem late_none {f : Floor} {p : Nat} (hn : NoneF f p f.slips.length) : lateF f p = slipsF f := by
  unfold lateF
  have h2 : ((List.range f.slips.length).findSome? fun many => (choF many (slipsF f) []).find? (canLess f p)) = none := by
    rw [List.findSome?_eq_none_iff]
    intro j hj
    rw [List.find?_eq_none]
    intro z hz
    rw [hn j (List.mem_range.1 hj) z hz]; simp
  rw [h2]
  rfl
/-- what is so between rounds of the outer loop -/
structure LateO (f : Floor) (p bm k : Nat) (Ds : List Nat) (W4 X : World) : Prop where
  crew : ∃ μ, CrewMap X bm μ ∧ Inv f 5 μ
  none : NoneF f p k
  cs : CS W4 X
  spare : Spare W4.heap.size bm W4 X
  nodup : Ds.Nodup
  marks : ∀ D ∈ Ds, W4.heap.size ≤ D ∧ X.heap[D]? = some (.deferred (some []))
/-- what is so between rounds of the inner one -/
def LateI (f : Floor) (p bm : Nat) (W0 : World) (pre : List SRow) (X : World) : Prop := (∃ μ, CrewMap X bm μ ∧ Inv f 5 μ) ∧ (∀ y ∈ pre, canLess f p y.slips = false) ∧ CS W0 X ∧ Spare W0.heap.size bm W0 X
def LateX (f : Floor) (p b4 b5 : Nat) (w : World) (Ds : List Nat) (c : Code) (pre : List SRow) (X : World) : Prop :=
  c = .ret ∧ ∃ d x, pre = d ++ [x] ∧ (∀ y ∈ d, canLess f p y.slips = false) ∧ canLess f p x.slips = true ∧ IntsAt X X.heap.size x.ad x.slips.length x.slips ∧ CellsBox X b4 22 [.slice x.ad x.slips.length x.slips.length] ∧ CellsBox X b5 30 [vi 0] ∧ Below w.heap.size w X ∧ ∀ D ∈ Ds, X.heap[D]? = some (.deferred (some []))
theorem own_lateI (f : Floor) (p bm : Nat) (W0 : World) (hbm : bm < W0.heap.size) : OwnFrom W0.heap.size (LateI f p bm W0) := by
  rintro s X Y row ⟨⟨μ, h1, h2⟩, h3, h4, h5⟩ hg hr
  exact ⟨⟨μ, crew_row h1 hbm hg hr, h2⟩, h3, h4.trans (cs_row hg hr), spare_row h5 (Nat.le_refl _) (Nat.le_refl _) hg hr⟩
theorem own_lateX (f : Floor) (p b4 b5 : Nat) (w : World) (Ds : List Nat) (B : Nat) (hw : w.heap.size ≤ B) (hDs : ∀ D ∈ Ds, D < B) (c : Code) : OwnFrom B (LateX f p b4 b5 w Ds c) := by
  rintro s X Y row ⟨hc, d, x, h0, h1, h2, h3, h4, h5, h6, h7⟩ hg hr
  have hcs := cs_row hg hr
  refine ⟨hc, d, x, h0, h1, h2, hcs.rows h3, hcs.box h4, hcs.box h5, ?_, fun D hD => heap_stays hg (fun r e => (hr r e).1) (h7 D hD) (hDs D hD)⟩
  exact ⟨hg.os.trans h6.os, hg.tape.trans h6.tape, hg.output.trans h6.output, Nat.le_trans h6.size hg.size, fun k hk => (hg.block k (by have := h6.size; omega) fun e => by have := (hr k e.symm).1; omega).trans (h6.block k hk)⟩
/-- a box of one cell that is written -/
theorem box_one {W : World} {b : Nat} {t : TypeId} {v u : Value} (h : CellsBox W b t [v]) : CellsBox (W.setCell ⟨b, 0, none⟩ u) b t [u] := h.store 0 u
theorem box_cells {W : World} {b : Nat} {t : TypeId} {v : Value} (h : CellsBox W b t [v]) {o : Nat} {x : Value} (hx : W.cell? ⟨b, o, none⟩ = some x) : o = 0 ∧ x = v := by
  unfold World.cell? at hx
  dsimp only at hx
  rw [show W.heap[b]? = _ from h] at hx
  cases o with
  | zero => simp at hx; exact ⟨rfl, hx.symm⟩
  | succ o => simp at hx
/-- ints lie where they did, when a box is written that holds no int, or what it held -/
theorem ints_box {W : World} {b cap : Nat} {t : TypeId} {v u : Value} {A : Option Addr} {l : List Int} (h : IntsAt W W.heap.size A cap l) (hb : CellsBox W b t [v]) (hv : (∀ n : Int, v ≠ vi n) ∨ u = v) : IntsAt (W.setCell ⟨b, 0, none⟩ u) (W.setCell ⟨b, 0, none⟩ u).heap.size A cap l := by
  refine ⟨h.len, h.cap, h.few, fun hl => ?_⟩
  obtain ⟨b', off, hA, hlt, hc⟩ := h.row hl
  refine ⟨b', off, hA, by simpa using hlt, fun i r hi j x hj hx => ?_⟩
  have h1 := hc i r hi j x hj hx
  by_cases hbb : b' = b
  · subst hbb
    obtain ⟨ho, hxv⟩ := box_cells hb h1
    rcases hv with hv | rfl
    · exfalso
      rw [List.getElem?_map] at hi
      obtain ⟨n, _, rfl⟩ := Option.map_eq_some_iff.1 hi
      cases j with
      | zero => simp at hx; exact hv n (hxv.symm.trans hx.symm)
      | succ j => simp at hx
    · rw [ho, hxv]
      exact (box_one hb).cell (j := 0) rfl
  · have hb2 : b ≠ b' := fun e => hbb e.symm
    unfold World.cell? at h1 ⊢
    dsimp only at h1 ⊢
    rw [heap_setCell_other _ _ b' _ (by simpa using hbb)]
    exact h1
theorem cs_shut : ∀ (Ds : List Nat) (w : World), Ds.Nodup → (∀ D ∈ Ds, w.heap[D]? = some (.deferred (some []))) → CS w (shut w Ds)
  | [], w, _, _ => CS.refl w
  | D :: Ds, w, hn, h => by
    obtain ⟨n1, n2⟩ := List.nodup_cons.1 hn
    exact (CS.turn w D _ _ (h D (by simp)) rfl).trans (cs_shut Ds _ n2 (fun E hE => (World.putObj_heap_other (fun e => by subst e; exact n1 hE)).trans (h E (by simp [hE]))))
theorem below_shut {B : Nat} {w0 : World} : ∀ (Ds : List Nat) (w : World), Below B w0 w → (∀ D ∈ Ds, B ≤ D) → Below B w0 (shut w Ds)
  | [], _, h, _ => h
  | D :: Ds, w, h, k => below_shut Ds _ ⟨h.os, h.tape, h.output, by simpa using h.size, fun j hj => (World.putObj_heap_other (by have := k D (by simp); omega)).trans (h.block j hj)⟩ (fun E hE => k E (by simp [hE]))
set_option maxRecDepth 100000 in
theorem Late_any (f : Floor) (n : Int) (w : World) (hl : Lim w) (h : FloorAt w w.heap.size f) :
    Calls Tryd.prog 30 #[f.val, vi n] w fun e w' => ∃ A, e = .returned (.tuple #[.slice A (LateV f n).1.length (LateV f n).1.length, vi (LateV f n).2]) ∧ IntsAt w' w'.heap.size A (LateV f n).1.length (LateV f n).1 ∧ Below w.heap.size w w' := by
  have HL := Lib.hid hl
  have HF := Lib.hid h
  rcases check_two f with ⟨hc, hv⟩ | ⟨hc, hv⟩
  · have CH := Lib.hid (fun (W : World) hL hW => check_is hc W hL hW)
    have E : LateV f n = ([], 30) := by unfold LateV; rw [if_neg (by omega), hc]
    rw [E]
    clear h hl hc E hv
    refine (callsIn_wide (n := 12)).1 ?_
    refine callsIn_of_wp_marks Tryd.func30 rfl trivial ?_ rfl
    simp only [Tryd.ntmps30, List.size_toArray, List.length_cons, List.length_nil, Nat.reduceAdd, Nat.reduceSub, Array.replicate_succ, Array.replicate_zero, List.push_toArray, List.append_toArray, List.nil_append, List.cons_append]
    gi_wp2_with fail
    refine ⟨trivial, ?_⟩
    refine (callsIn_wide.2 (CH.out _ (HL.out.next (by (repeat (first | exact Below.refl _ _ | refine Below.setCell ?_ (by first | omega | (simp; omega) | (simp; done)) _ | refine Below.alloc ?_ (by first | omega | (simp; omega) | (simp; done)) _ | refine Below.drew ?_ | refine below_drewN ?_ _ | refine Below.trans ?_ (Below.mono (by assumption) (by first | omega | (simp; omega) | (simp; done))))))) (HF.out.to (by (repeat (first | exact Below.refl _ _ | refine Below.setCell ?_ (by first | omega | (simp; omega) | (simp; done)) _ | refine Below.alloc ?_ (by first | omega | (simp; omega) | (simp; done)) _ | refine Below.drew ?_ | refine below_drewN ?_ _ | refine Below.trans ?_ (Below.mono (by assumption) (by first | omega | (simp; omega) | (simp; done))))))))).mono ?_
    rintro e W ⟨rfl, hb⟩
    have HB0 : Below w.heap.size w W := by (repeat (first | exact Below.refl _ _ | refine Below.setCell ?_ (by first | omega | (simp; omega) | (simp; done)) _ | refine Below.alloc ?_ (by first | omega | (simp; omega) | (simp; done)) _ | refine Below.drew ?_ | refine below_drewN ?_ _ | refine Below.trans ?_ (Below.mono (by assumption) (by first | omega | (simp; omega) | (simp; done)))))
    have X4 : CellsBox W (w.heap.size + 1 + 1) 22 [.slice none 0 0] := by
      refine CellsBox.keep (b := w.heap.size + 1 + 1) (t := 22) (cs := [.slice none 0 0]) ?_ hb
      have := (CellsBox.new ((w.alloc (.cells f.cells.toArray 28)).alloc (.cells #[vi n] 3)) 22 [.slice none 0 0]).alloc (.cells #[vi 0] 30)
      simpa using this
    have X5 : CellsBox W (w.heap.size + 1 + 1 + 1) 30 [vi 0] := by
      refine CellsBox.keep (b := w.heap.size + 1 + 1 + 1) (t := 30) (cs := [vi 0]) ?_ hb
      have := CellsBox.new (((w.alloc (.cells f.cells.toArray 28)).alloc (.cells #[vi n] 3)).alloc (.cells #[.slice none 0 0] 22)) 30 [vi 0]
      simpa using this
    have c4 := X4.cell (j := 0) rfl
    have q4 := X4.frozen 0
    have z4 := X4.lt
    have c5 := X5.cell (j := 0) rfl
    have q5 := X5.frozen 0
    have z5 := X5.lt
    have HX4 := Lib.hid X4
    have HX5 := Lib.hid X5
    clear hb X4 X5 CH
    gi_wp2_with fail
    refine (?_ : ∀ Z : World, (Z.cell? ⟨w.heap.size + 1 + 1, 0, none⟩ = some (.slice none 0 0) ∧ Z.cell? ⟨w.heap.size + 1 + 1 + 1, 0, none⟩ = some (vi 30) ∧ Below w.heap.size w Z) → bodyPostM _ _ _ _ _ _ _ Z) _ ⟨?_, ?_, ?_⟩
    · rintro Z ⟨o4, o5, hZ⟩
      exact ⟨.tuple #[.slice none 0 0, vi 30], by simp [results, Tryd.results30, go_sem, o4, o5], none, rfl, rows_nil _ _, hZ⟩
    · have := (((HX4.out.store 0 (.slice none 0 0)).apart ⟨w.heap.size + 1 + 1 + 1, 0, none⟩ (vi 30) (by simp))).cell (j := 0) rfl
      simpa using this
    · have := ((HX5.out.apart ⟨w.heap.size + 1 + 1, 0, none⟩ (.slice none 0 0) (by simp)).store 0 (vi 30)).cell (j := 0) rfl
      simpa using this
    · (repeat (first | exact Below.refl _ _ | refine Below.setCell ?_ (by first | omega | (simp; omega) | (simp; done)) _ | refine Below.alloc ?_ (by first | omega | (simp; omega) | (simp; done)) _ | refine Below.drew ?_ | refine below_drewN ?_ _ | refine Below.trans ?_ (Below.mono (by assumption) (by first | omega | (simp; omega) | (simp; done)))))
  · have CH := Lib.hid (fun (W : World) hL hW => check_is hc W hL hW)
    have HV := Lib.hid hv
    have H9 := Lib.hid (fine hv).slips9
    obtain ⟨hb, hhb⟩ : ∃ hb, hasB 1 5 n = hb := ⟨_, rfl⟩
    have HAS := Lib.hid (fun (W : World) => has_is hhb W)
    have E : Hid (LateV f n = if hb then (lateF f n.toNat, 0) else ([], 31)) := by unfold Hid LateV; rw [if_pos hc, hhb]
    have HHB := Lib.hid hhb
    obtain ⟨RV, hRV⟩ : ∃ RV, RV = LateV f n := ⟨_, rfl⟩
    rw [← hRV] at E ⊢
    clear h hl hc hv hhb hRV
    refine (callsIn_wide (n := 12)).1 ?_
    refine callsIn_of_wp_marks Tryd.func30 rfl trivial ?_ rfl
    simp only [Tryd.ntmps30, List.size_toArray, List.length_cons, List.length_nil, Nat.reduceAdd, Nat.reduceSub, Array.replicate_succ, Array.replicate_zero, List.push_toArray, List.append_toArray, List.nil_append, List.cons_append]
    gi_wp2_with fail
    refine ⟨trivial, ?_⟩
    refine (callsIn_wide.2 (CH.out _ (HL.out.next (by (repeat (first | exact Below.refl _ _ | refine Below.setCell ?_ (by first | omega | (simp; omega) | (simp; done)) _ | refine Below.alloc ?_ (by first | omega | (simp; omega) | (simp; done)) _ | refine Below.drew ?_ | refine below_drewN ?_ _ | refine Below.trans ?_ (Below.mono (by assumption) (by first | omega | (simp; omega) | (simp; done))))))) (HF.out.to (by (repeat (first | exact Below.refl _ _ | refine Below.setCell ?_ (by first | omega | (simp; omega) | (simp; done)) _ | refine Below.alloc ?_ (by first | omega | (simp; omega) | (simp; done)) _ | refine Below.drew ?_ | refine below_drewN ?_ _ | refine Below.trans ?_ (Below.mono (by assumption) (by first | omega | (simp; omega) | (simp; done))))))))).mono ?_
    rintro e W ⟨rfl, hb0⟩
    have HB0 : Below w.heap.size w W := by (repeat (first | exact Below.refl _ _ | refine Below.setCell ?_ (by first | omega | (simp; omega) | (simp; done)) _ | refine Below.alloc ?_ (by first | omega | (simp; omega) | (simp; done)) _ | refine Below.drew ?_ | refine below_drewN ?_ _ | refine Below.trans ?_ (Below.mono (by assumption) (by first | omega | (simp; omega) | (simp; done)))))
    have X2 : CellsBox W w.heap.size 28 f.cells := (((CellsBox.new w 28 f.cells).alloc _).alloc _).alloc _ |>.keep hb0
    have X3 : CellsBox W (w.heap.size + 1) 3 [vi n] := by
      refine CellsBox.keep (b := w.heap.size + 1) (t := 3) (cs := [vi n]) ?_ hb0
      have := ((CellsBox.new (w.alloc (.cells f.cells.toArray 28)) 3 [vi n]).alloc (.cells #[.slice none 0 0] 22)).alloc (.cells #[vi 0] 30)
      simpa using this
    have X4 : CellsBox W (w.heap.size + 1 + 1) 22 [.slice none 0 0] := by
      refine CellsBox.keep (b := w.heap.size + 1 + 1) (t := 22) (cs := [.slice none 0 0]) ?_ hb0
      have := (CellsBox.new ((w.alloc (.cells f.cells.toArray 28)).alloc (.cells #[vi n] 3)) 22 [.slice none 0 0]).alloc (.cells #[vi 0] 30)
      simpa using this
    have X5 : CellsBox W (w.heap.size + 1 + 1 + 1) 30 [vi 0] := by
      refine CellsBox.keep (b := w.heap.size + 1 + 1 + 1) (t := 30) (cs := [vi 0]) ?_ hb0
      have := CellsBox.new (((w.alloc (.cells f.cells.toArray 28)).alloc (.cells #[vi n] 3)).alloc (.cells #[.slice none 0 0] 22)) 30 [vi 0]
      simpa using this
    have HLW := HL.out.next HB0
    have l0 := (HLW.row 9 (by omega) (a := 1) (b := 5) (by decide) (by decide)).1
    have l1 := (HLW.row 9 (by omega) (a := 1) (b := 5) (by decide) (by decide)).2
    have zL := HLW.pos
    have n0 := X3.cell (j := 0) rfl
    have zn := X3.lt
    have HX2 := Lib.hid X2
    have HX3 := Lib.hid X3
    have HX4 := Lib.hid X4
    have HX5 := Lib.hid X5
    have HLW := Lib.hid HLW
    clear hb0 X2 X3 X4 X5 CH
    gi_wp2_with fail
    refine ⟨trivial, ?_⟩
    refine (callsIn_wide.2 (HAS.out _)).mono ?_
    rintro e W1 ⟨rfl, hb1⟩
    have HB1 : Below w.heap.size w W1 := HB0.trans (hb1.mono HB0.size)
    have HX2 := Lib.hid (HX2.out.keep hb1)
    have HX3 := Lib.hid (HX3.out.keep hb1)
    have HX4 := Lib.hid (HX4.out.keep hb1)
    have HX5 := Lib.hid (HX5.out.keep hb1)
    clear l0 l1 zL n0 zn hb1
    rcases hb with _ | _
    · have c4 := HX4.out.cell (j := 0) rfl
      have q4 := HX4.out.frozen 0
      have z4 := HX4.out.lt
      have c5 := HX5.out.cell (j := 0) rfl
      have q5 := HX5.out.frozen 0
      have z5 := HX5.out.lt
      gi_wp2_with fail
      refine (?_ : ∀ Z : World, (Z.cell? ⟨w.heap.size + 1 + 1, 0, none⟩ = some (.slice none 0 0) ∧ Z.cell? ⟨w.heap.size + 1 + 1 + 1, 0, none⟩ = some (vi 31) ∧ Below w.heap.size w Z) → bodyPostM _ _ _ _ _ _ _ Z) _ ⟨?_, ?_, ?_⟩
      · rintro Z ⟨o4, o5, hZ⟩
        refine ⟨.tuple #[.slice none 0 0, vi 31], by simp [results, Tryd.results30, go_sem, o4, o5], none, ?_, ?_, hZ⟩
        · rw [E.out]; rfl
        · rw [E.out]; exact rows_nil _ _
      · have := (((HX4.out.store 0 (.slice none 0 0)).apart ⟨w.heap.size + 1 + 1 + 1, 0, none⟩ (vi 31) (by simp))).cell (j := 0) rfl
        simpa using this
      · have := ((HX5.out.apart ⟨w.heap.size + 1 + 1, 0, none⟩ (.slice none 0 0) (by simp)).store 0 (vi 31)).cell (j := 0) rfl
        simpa using this
      · (repeat (first | exact Below.refl _ _ | refine Below.setCell ?_ (by first | omega | (simp; omega) | (simp; done)) _ | refine Below.alloc ?_ (by first | omega | (simp; omega) | (simp; done)) _ | refine Below.drew ?_ | refine below_drewN ?_ _ | refine Below.trans ?_ (Below.mono (by assumption) (by first | omega | (simp; omega) | (simp; done)))))
    · have EV : Hid (RV = (lateF f n.toNat, 0)) := by unfold Hid; rw [E.out]; rfl
      obtain ⟨p, hp⟩ : ∃ p : Nat, n = p := ⟨n.toNat, by have := hasB_iff.1 HHB.out; omega⟩
      have hp5 : 1 ≤ p ∧ p ≤ 5 := by have := hasB_iff.1 HHB.out; omega
      subst hp
      have a0 := HX2.out.cell (j := 0) rfl
      have a1 := HX2.out.cell (j := 1) rfl
      have a2 := HX2.out.cell (j := 2) rfl
      have a3 := HX2.out.cell (j := 3) rfl
      have a4 := HX2.out.cell (j := 4) rfl
      have a5 := HX2.out.cell (j := 5) rfl
      have z2 := HX2.out.lt
      gi_wp2_with fail
      refine ⟨trivial, ?_⟩
      refine (callsIn_wide.2 (desk_any f HV.out _ (HF.out.to HB1))).mono ?_
      rintro e W2 ⟨oA, qA, qC, bm, rfl, hD, hbm, hb2⟩
      have HB2 : Below w.heap.size w W2 := HB1.trans (hb2.mono HB1.size)
      have hz1 := HB1.size
      have hz2 := hb2.size
      have HD := Lib.hid (hD.into (HF.out.to HB2))
      have hMt := (Array.getElem?_eq_some_iff.1 hD.map).1
      have HM := Lib.hid (CrewMap.new hD.map)
      have HX3 := Lib.hid (HX3.out.keep hb2)
      have HX4 := Lib.hid (HX4.out.keep hb2)
      have HX5 := Lib.hid (HX5.out.keep hb2)
      have AL := Lib.hid (fun X => all_any f H9.out X)
      have E0 : (2 ^ f.slips.length - 1 : Nat) = allF f := rfl
      rw [E0] at AL
      have hmem : membersF (allF f) = List.range f.slips.length := members_all ⟨f.slips.length, by have := H9.out; omega⟩
      have MEM : Hid (∀ X : World, Calls Tryd.prog 74 #[vi (allF f)] X fun e w' => ∃ A, e = .returned (.slice A f.slips.length f.slips.length) ∧ IntsAt w' w'.heap.size A f.slips.length (slipsF f) ∧ Below X.heap.size X w') := fun X => by
        refine (members_any (allF f) (allF_lt H9.out) X).mono ?_
        rintro e w' ⟨A, rfl, h1, _, h3⟩
        rw [hmem] at h1 ⊢
        rw [List.length_range] at h1 ⊢
        exact ⟨A, rfl, h1, h3⟩
      clear hb2 hD a0 a1 a2 a3 a4 a5 z2 E0 HX2 hmem
      gi_wp2_with fail
      obtain ⟨V, hV⟩ : ∃ V, V = W2.alloc (.cells #[.slice f.fA f.far.length f.fC, vi f.slo, vi f.shi, .slice f.pA f.picks.length f.pC, vi f.carry, .slice f.sA f.slips.length f.sC, .slice oA f.slips.length f.slips.length, .slice qA f.slips.length qC, .map (some bm)] 108) := ⟨_, rfl⟩
      have hbV : Below W2.heap.size W2 V := by rw [hV]; (repeat (first | exact Below.refl _ _ | refine Below.setCell ?_ (by first | omega | (simp; omega) | (simp; done)) _ | refine Below.alloc ?_ (by first | omega | (simp; omega) | (simp; done)) _ | refine Below.drew ?_ | refine below_drewN ?_ _ | refine Below.trans ?_ (Below.mono (by assumption) (by first | omega | (simp; omega) | (simp; done)))))
      have X7 : CellsBox V W2.heap.size 108 (deskC f oA f.slips.length qA f.slips.length qC bm) := by rw [hV]; exact CellsBox.new W2 _ _
      rw [← hV]
      clear hV
      refine ⟨trivial, ?_⟩
      refine (callsIn_wide.2 (AL.out _)).mono ?_
      rintro e W3 ⟨rfl, hb3⟩
      gi_wp2_with fail
      refine ⟨trivial, ?_⟩
      refine (callsIn_wide.2 (MEM.out _)).mono ?_
      rintro e W4 ⟨mA, rfl, hMI, hb4⟩
      have hb24 : Below W2.heap.size W2 W4 := hbV.trans ((gr_trans hb3 hb4).mono hbV.size)
      have HB4 : Below w.heap.size w W4 := HB2.trans (hb24.mono HB2.size)
      have HX7 : Hid (CellsBox W4 W2.heap.size 108 (deskC f oA f.slips.length qA f.slips.length qC bm)) := X7.keep (gr_trans hb3 hb4)
      have HX3 := Lib.hid (HX3.out.keep hb24)
      have HX4 := Lib.hid (HX4.out.keep hb24)
      have HX5 := Lib.hid (HX5.out.keep hb24)
      have HD := Lib.hid (HD.out.cs (cs_of_below hb24))
      have HM := Lib.hid (HM.out.below hb24)
      have HMI := Lib.hid hMI
      have hz4 := hb24.size
      have hL9 : f.slips.length ≤ 9 := H9.out
      clear hb3 hb4 hbV hb24 X7 hMI
      gi_wp2_with fail
      obtain ⟨fv, hfv⟩ : ∃ fv, fv = f.val := ⟨_, rfl⟩
      refine wpIn_loop (fun a' w' => ∃ (u9 u30 u31 u32 u33 u34 u35 u53 : Value) (k : Nat) (Ds : List Nat), (k ≤ f.slips.length ∧ u30 = vi k ∧ LateO f p bm k Ds W4 w') ∧ a' = Act.mk #[f.val, vi p, .pointer (some ⟨w.heap.size, 0, none⟩), .pointer (some ⟨w.heap.size + 1, 0, none⟩), .pointer (some ⟨w.heap.size + 1 + 1, 0, none⟩), .pointer (some ⟨w.heap.size + 1 + 1 + 1, 0, none⟩), vi 0, .pointer (some ⟨W2.heap.size, 0, none⟩), .slice mA f.slips.length f.slips.length, u9, undef,
          f.val, vi 0, vi 0, .bool false, undef, .pointer (some ⟨0, 18, none⟩), .agg #[vi 1, vi 5], vi p, .bool true, .bool false, f.val, f.val,
          .agg #[.slice f.fA f.far.length f.fC, vi f.slo, vi f.shi, .slice f.pA f.picks.length f.pC, vi f.carry, .slice f.sA f.slips.length f.sC, .slice oA f.slips.length f.slips.length, .slice qA f.slips.length qC, .map (some bm)], .pointer (some ⟨W2.heap.size, 0, none⟩), f.val, vi (allF f), .slice mA f.slips.length f.slips.length, .slice mA f.slips.length f.slips.length, vi f.slips.length, u30, u31, u32, u33, u34, u35,
          undef, undef, undef, undef, undef, undef, undef, undef, undef, undef, undef, undef, undef, undef, undef, undef, undef, u53, undef] (marksOf Ds)) (fun a' _ => f.slips.length - (intOf (a'.tmps.getD 30 undef)).toNat) ?start ?round
      case start =>
        exact ⟨_, _, _, _, _, _, _, _, 0, [], ⟨Nat.zero_le _, rfl, ⟨⟨_, HM.out, Inv.empty f 5⟩, fun j hj => absurd hj (by omega), CS.refl _, Spare.refl _ _ _, List.nodup_nil, fun D hD => by simp at hD⟩⟩, rfl⟩
      case round =>
        rintro _ wr ⟨u9, u30, u31, u32, u33, u34, u35, u53, k, Ds, ⟨hk, rfl, hO⟩, rfl⟩
        have HO := Lib.hid hO
        clear hO
        by_cases hlt : k < f.slips.length
        · have hkI : (k : Int) < f.slips.length := by omega
          have hwk : IntKind.wrap .i64 ((k : Int) + 1) = (k : Int) + 1 := wrapI (by omega) (by omega)
          have HMk : Hid (IntsAt wr wr.heap.size mA f.slips.length (slipsF f)) := HO.out.cs.rows HMI.out
          have hsl : (slipsF f).length = f.slips.length := by simp [slipsF]
          have OF := Lib.hid (of_any k (slipsF f) mA f.slips.length wr HMk.out)
          rw [hsl] at OF
          clear hsl
          gi_wp2_with fail
          refine ⟨trivial, ?_⟩
          refine (callsIn_wide.2 OF.out).mono ?_
          rintro e W5 ⟨pM, pL, rfl, hOA, hb5⟩
          have HOA := Lib.hid hOA
          have HB5 := Lib.hid hb5
          clear hOA hb5 OF
          gi_wp2_with fail
          have hz5 := HB5.out.size
          have hzO := HO.out.cs.size
          have hbm4 : bm < W4.heap.size := by omega
          have hbm5 : bm < W5.heap.size := by omega
          have HDs : Hid (∀ D ∈ Ds, W4.heap.size ≤ D ∧ D < W5.heap.size ∧ W5.heap[D]? = some (.deferred (some []))) := fun D hD => by
            obtain ⟨d1, d2⟩ := HO.out.marks D hD
            have d3 := (Array.getElem?_eq_some_iff.1 d2).1
            exact ⟨d1, by omega, (HB5.out.block D d3).trans d2⟩
          have HI0 : Hid (LateI f p bm W5 [] W5) := by
            obtain ⟨μ, m1, m2⟩ := HO.out.crew
            exact ⟨⟨μ, m1.below HB5.out, m2⟩, (fun y hy => by simp at hy), CS.refl _, Spare.refl _ _ _⟩
          have HC5 : Hid (CS W4 W5) := HO.out.cs.trans (cs_of_below HB5.out)
          have HW5 : Hid (Below w.heap.size w W5) := by
            have s1 := HB4.size
            refine ⟨HC5.out.os.trans HB4.os, HC5.out.tape.trans HB4.tape, HC5.out.output.trans HB4.output, by omega, fun j hj => ?_⟩
            rw [HB5.out.block j (by omega), HO.out.spare.block j (by omega) (by omega)]
            exact HB4.block j hj
          have hsl : (slipsF f).length = f.slips.length := by simp [slipsF]
          have EW : ∀ X : World, CS W5 X → Spare W5.heap.size bm W5 X → Below w.heap.size w X := fun X h1 h2 => by
            have s1 := HW5.out.size
            have s2 := HB4.size
            exact ⟨h1.os.trans HW5.out.os, h1.tape.trans HW5.out.tape, h1.output.trans HW5.out.output, by have := h1.size; omega, fun j hj => (h2.block j (by omega) (by have := HB2.size; omega)).trans (HW5.out.block j hj)⟩
          have HEW := Lib.hid EW
          clear EW
          refine' range_outerM rfl (by omega) (gf := 106) (lb := #[.pointer (some ⟨pM, 0, none⟩), .pointer (some ⟨pL, 0, none⟩)]) rfl trivial (enters_of Tryd.func106 (by kernel_rfl) rfl)
            (of_seq k (by omega) (slipsF f) (by omega) mA f.slips.length pM pL W5 HOA.out _) (fun x A B hc hr => ⟨hc.rows hr.1, hr.2⟩) (Below.refl _ _) (fun _ => rfl)
            (LateI f p bm W5) (LateX f p (w.heap.size + 1 + 1) (w.heap.size + 1 + 1 + 1) w Ds) (own_lateI f p bm W5 hbm5) (fun c => own_lateX f p _ _ w Ds _ HW5.out.size (fun D hD => (HDs.out D hD).2.1) c) HI0.out ?_ ?assign ?body ?done ?stop
          case assign =>
            intro l x X K hK
            gi_wp2
            exact hK
          case body =>
            rintro l pre ⟨xA, xC, xl⟩ X hlB ⟨⟨μ1, h1, h2⟩, h3, h4, h5⟩ ⟨hx1, hx2, hx3⟩ hlen
            have hzX := h4.size
            have HCX : Hid (CS W4 X) := HC5.out.trans h4
            have HX3 := Lib.hid (HCX.out.box HX3.out)
            have HX7 := Lib.hid (HCX.out.box HX7.out)
            have hxs : ∀ s ∈ xl.map Int.toNat, s < f.slips.length := fun s hs => by
              obtain ⟨y, hy, rfl⟩ := List.mem_map.1 hs
              have := hx3 y hy
              simp only [slipsF, List.mem_map, List.mem_range] at this
              obtain ⟨j, hj, rfl⟩ := this
              simpa using hj
            have hxn : natsC (xl.map Int.toNat) = xl := by
              rw [natsC, List.map_map]
              conv => rhs; rw [← List.map_id xl]
              apply List.map_congr_left
              intro y hy
              have := hx3 y hy
              simp only [slipsF, List.mem_map, List.mem_range] at this
              obtain ⟨j, hj, rfl⟩ := this
              simp
            obtain ⟨sx, hsx⟩ : ∃ sx, sx = setF (xl.map Int.toNat) := ⟨_, rfl⟩
            have hsx5 : sx < 512 := by rw [hsx]; exact setF_lt _ (fun s hs => by have := hxs s hs; omega)
            have HXA := Lib.hid hx1
            have SET : Hid (∀ Y, CS X Y → Calls Tryd.prog 77 #[.slice xA xl.length xC] Y fun e w' => e = .returned (vi sx) ∧ Below Y.heap.size Y w') := fun Y hY => by
              have g1 : IntsAt Y Y.heap.size xA xC xl := hY.rows hx1
              have g2 : IntsAt Y Y.heap.size xA (xl.map Int.toNat).length (natsC (xl.map Int.toNat)) := by
                rw [hxn, List.length_map]
                exact g1.short
              have g3 := setOf_any xA xC (xl.map Int.toNat) (fun s hs => by have := hxs s hs; omega) Y g2
              rw [← hsx, List.length_map] at g3
              exact g3
            have hbits := less_fact (allF f) sx (allF_lt H9.out) hsx5
            obtain ⟨cb, hcb⟩ : ∃ cb, cb = canLess f p xl := ⟨_, rfl⟩
            have hcl : canF f p (lessF (allF f) sx) = cb := by rw [hcb, canLess, hsx]
            have CAN := Lib.hid (fun Y hY hM hI => can_any f HV.out oA qA f.slips.length qC bm p (lessF (allF f) sx) hp5.2 (less_lt (allF_lt H9.out) sx) Y μ1 hY hM hI)
            rw [hcl] at CAN
            obtain ⟨lx, hlx⟩ : ∃ lx, lx = lessF (allF f) sx := ⟨_, rfl⟩
            rw [← hlx] at CAN hbits
            obtain ⟨fa, hfa⟩ : ∃ fa, fa = allF f := ⟨_, rfl⟩
            rw [← hfa] at AL hbits
            have HCB := Lib.hid hcb
            have H1 := Lib.hid h1
            have H2 := Lib.hid h2
            have H3 := Lib.hid h3
            have H4 := Lib.hid h4
            have H5 := Lib.hid h5
            have HDX := Lib.hid (HD.out.cs HCX.out)
            clear hcb hcl hlx hsx hxs hxn h1 h2 h3 h4 h5 hx1 hx2 hx3 hfa
            gi_wp2_with fail
            refine' wp_region_box_round (fun w' => CS X w') (fun a b h h' => h.trans (cs_of_below h')) rfl ?hno [0, 1, 2, 3, 4, 5, 6, 7, 8] 1 55 (by kernel_rfl) (by kernel_rfl) rfl (by kernel_rfl) (by kernel_rfl) rfl (by kernel_rfl) ?hl5 (CS.refl _) ?hq5 ?hr5
            case hno => exact fun _ _ h => h
            case hl5 =>
              simp only [List.map_cons, List.map_nil, List.getD_cons_zero, List.getD_cons_succ]
              exact rfl
            case hq5 =>
              intro w0 K
              have Y := K.box HX7.out
              have f0 := Y.cell (j := 0) rfl
              have f1 := Y.cell (j := 1) rfl
              have f2 := Y.cell (j := 2) rfl
              have f3 := Y.cell (j := 3) rfl
              have f4 := Y.cell (j := 4) rfl
              have f5 := Y.cell (j := 5) rfl
              have f6 := Y.cell (j := 6) rfl
              have f7 := Y.cell (j := 7) rfl
              have f8 := Y.cell (j := 8) rfl
              have zf := Y.lt
              have n0 := (K.box HX3.out).cell (j := 0) rfl
              have zn := (K.box HX3.out).lt
              (repeat (go_big_quiet_step (first | (go_at_call 71; refine Calls.grow_of (AL.out _)) | (go_at_call 77; refine Calls.grow_of (SET.out _ (K.trans (cs_of_below (plus_below _ _))))))))
              exact wpQuiet_nil rfl
            case hr5 =>
              refine wpUp_one (i := 9) (by kernel_rfl) rfl rfl (fun wa a1 a2 Ka hKa => ?_)
              go_simp
              refine (CAN.out wa (HDX.out.cs a2) (H1.out.below a1) (H2.out.less hp5.2)).mono ?_
              rintro e X2 ⟨rfl, μ2, hP⟩
              refine hKa _ _ (a2.trans hP.cs) (wpUp_done (by kernel_rfl) (fun W8 g1 g2 => NoPanic.normal ?_))
              have hz1 := a1.size
              have hz2 := hP.cs.size
              have HC8 : Hid (CS X W8) := a2.trans (hP.cs.trans (cs_of_below g1))
              have HBL : Hid (∀ j, j < X.heap.size → j ≠ bm → W8.heap[j]? = X.heap[j]?) := fun j hj hne => by
                rw [g1.block j (by omega), hP.spare.block j (by omega) hne, a1.block j hj]
              have HK8 : Hid (KeepsFrom W5.heap.size X W8) := ⟨HC8.out.size, fun j o hj ho _ => (HBL.out j (Array.getElem?_eq_some_iff.1 ho).1 (by omega)).trans ho⟩
              have HS8 : Hid (Spare W5.heap.size bm W5 W8) := by
                have hc := HC8.out
                exact ⟨hc.os.trans H5.out.os, hc.tape.trans H5.out.tape, hc.output.trans H5.out.output, Nat.le_trans H5.out.size hc.size, fun j hj hne => (HBL.out j (by omega) hne).trans (H5.out.block j hj hne)⟩
              have HM8 : Hid (∃ μ, CrewMap W8 bm μ ∧ Inv f 5 μ) := ⟨μ2, hP.map.below g1, H2.out.widen hP.inv hP.grows hp5.2⟩
              clear hP g1 g2 a1 a2 hKa
              rcases cb with _ | _
              · gi_wp2_with fail
                refine ⟨HK8.out, HC8.out, HM8.out, fun y hy => ?_, H4.out.trans HC8.out, HS8.out⟩
                rcases List.mem_append.1 hy with hy | hy
                · exact H3.out y hy
                · rw [List.mem_singleton] at hy; subst hy; exact HCB.out.symm
              · have Y4 : Hid (CellsBox W8 (w.heap.size + 1 + 1) 22 [.slice none 0 0]) := (HCX.out.trans HC8.out).box HX4.out
                have Y5 : Hid (CellsBox W8 (w.heap.size + 1 + 1 + 1) 30 [vi 0]) := (HCX.out.trans HC8.out).box HX5.out
                have c4 := Y4.out.cell (j := 0) rfl
                have q4 := Y4.out.frozen 0
                have z4 := Y4.out.lt
                have c5 := Y5.out.cell (j := 0) rfl
                have q5 := Y5.out.frozen 0
                have z5 := Y5.out.lt
                have hxc : xl.length ≤ xC := HXA.out.lens.1
                have HXI : Hid (IntsAt W8 W8.heap.size xA xl.length xl) := (HC8.out.rows HXA.out).short
                have HBW : Hid (Below w.heap.size w W8) := HEW.out W8 (H4.out.trans HC8.out) HS8.out
                clear hxc
                have hxc0 : (0 : Int) ≤ xl.length := by omega
                have hxc1 : (xl.length : Int) ≤ xC := by have := HXA.out.lens.1; simp only at this; omega
                have hs2 := HB4.size
                gi_wp2_with fail
                have hs5 : w.heap.size + 1 + 1 + 1 < W4.heap.size := HX5.out.lt
                have hs6 := HC5.out.size
                have HBX1 := box_one (u := .slice xA xl.length xl.length) Y4.out
                have HBY1 := Y5.out.apart ⟨w.heap.size + 1 + 1, 0, none⟩ (.slice xA xl.length xl.length) (by simp)
                refine ⟨⟨by have := HC8.out.size; simp; omega, fun j o hj ho hc => ?_⟩, ⟨by have := HC8.out.size; simp; omega, fun j c t z hj ho => ?_⟩, rfl, pre, ⟨xA, xC, xl⟩, rfl, H3.out, HCB.out.symm, ?_, ?_, ?_, ?_, ?_⟩
                · rw [heap_setCell_other _ _ j _ (by simp only; omega), heap_setCell_other _ _ j _ (by simp only; omega)]
                  exact HK8.out.same j o hj ho hc
                · rw [heap_setCell_other _ _ j _ (by simp only; omega), heap_setCell_other _ _ j _ (by simp only; omega)]
                  exact HC8.out.boxes j c t z ho
                · exact ints_box (ints_box HXI.out Y4.out (.inl (fun n => by simp))) HBY1 (.inr rfl)
                · exact HBX1.apart ⟨w.heap.size + 1 + 1 + 1, 0, none⟩ (vi 0) (by simp)
                · exact box_one HBY1
                · exact (HBW.out.setCell (by simp only; omega) _).setCell (by simp only; omega) _
                · intro D hD
                  obtain ⟨d1, d2, d3⟩ := HDs.out D hD
                  rw [heap_setCell_other _ _ D _ (by simp only; omega), heap_setCell_other _ _ D _ (by simp only; omega), HS8.out.block D d2 (by omega)]
                  exact d3
          case done =>
            rintro D xs W9 hD hS ⟨hcrew, h3, h4, h5⟩ hDf
            have HL9 : Hid (LateO f p bm (k + 1) (D :: Ds) W4 W9) := by
              refine ⟨hcrew, fun j hj y hy => ?_, HC5.out.trans h4, ?_, List.nodup_cons.2 ⟨fun hm => by have := (HDs.out D hm).2.1; omega, HO.out.nodup⟩, fun D' hD' => ?_⟩
              · by_cases e : j = k
                · subst e
                  rw [← hS] at hy
                  obtain ⟨z, hz, rfl⟩ := List.mem_map.1 hy
                  exact h3 z hz
                · exact HO.out.none j (by omega) y hy
              · have hc := HC5.out.trans h4
                exact ⟨hc.os, hc.tape, hc.output, hc.size, fun j hj hne => by rw [h5.block j (by omega) hne, HB5.out.block j (by omega), HO.out.spare.block j hj hne]⟩
              · rcases List.mem_cons.1 hD' with rfl | hD'
                · exact ⟨by omega, hDf⟩
                · obtain ⟨d1, d2, d3⟩ := HDs.out D' hD'
                  exact ⟨d1, (h5.block D' d2 (by omega)).trans d3⟩
            clear hcrew h3 h4 h5 hDf hS
            gi_wp2_with fail
            refine ⟨⟨_, _, _, _, _, _, _, _, k + 1, D :: Ds, ⟨by omega, by go_num, HL9.out⟩, rfl⟩, ?_⟩
            simp [intOf]; omega
          case stop =>
            rintro D c pre X hD ⟨d, r, xs, x, hpre, hcho, hxs⟩ ⟨rfl, d', x', hpre', g1, g2, g3, g4, g5, g6, g7⟩ hDf
            have hdd : xs = d' ∧ x = x' := by
              have h1 := List.append_inj' (hpre.symm.trans hpre') rfl
              exact ⟨h1.1, by simpa using h1.2⟩
            obtain ⟨rfl, rfl⟩ := hdd
            have hlate : lateF f p = x.slips := late_some HO.out.none hlt hcho (fun z hz => by
              rw [← hxs] at hz
              obtain ⟨y, hy, rfl⟩ := List.mem_map.1 hz
              exact g1 y hy) g2
            have hns : (D :: Ds).Nodup := List.nodup_cons.2 ⟨fun hm => by have := (HDs.out D hm).2.1; omega, HO.out.nodup⟩
            have hsz := HW5.out.size
            have hnb : ∀ E ∈ D :: Ds, W4.heap.size ≤ E := fun E hE => by
              rcases List.mem_cons.1 hE with rfl | hE
              · have := HO.out.cs.size; have := HB5.out.size; omega
              · exact (HDs.out E hE).1
            have hmk : ∀ E ∈ D :: Ds, X.heap[E]? = some (.deferred (some [])) := fun E hE => by
              rcases List.mem_cons.1 hE with rfl | hE
              · exact hDf
              · exact g7 E hE
            have HSH : Hid (CS X (shut X (D :: Ds))) := cs_shut _ _ hns hmk
            have o4 := (HSH.out.box g4).cell (j := 0) rfl
            have o5 := (HSH.out.box g5).cell (j := 0) rfl
            have HBS : Hid (Below w.heap.size w (shut X (D :: Ds))) := below_shut _ _ g6 (fun E hE => by have := hnb E hE; have := HB4.size; omega)
            have HXI := Lib.hid (HSH.out.rows g3)
            have EV2 : Hid (RV = (x.slips, 0)) := by unfold Hid; rw [EV.out, Int.toNat_natCast, hlate]
            have HNS := Lib.hid hns
            have HMK := Lib.hid hmk
            have O4 := Lib.hid o4
            have O5 := Lib.hid o5
            clear hlate hns hmk g1 g2 g3 g4 g5 g6 g7 o4 o5 hDf hnb hpre hpre' hcho hxs
            gi_wp2
            refine leaves_marks (D :: Ds) X HNS.out HMK.out ?_
            have o4 := O4.out
            have o5 := O5.out
            refine ⟨.tuple #[.slice x.ad x.slips.length x.slips.length, vi 0], by simp [results, Tryd.results30, go_sem, o4, o5], x.ad, ?_, ?_, HBS.out⟩
            · rw [EV2.out]
            · rw [EV2.out]; exact HXI.out
        · have hke : k = f.slips.length := by omega
          subst hke
          have hlate := late_none HO.out.none
          have EV2 : Hid (RV = (slipsF f, 0)) := by unfold Hid; rw [EV.out, Int.toNat_natCast, hlate]
          have hsl : (slipsF f).length = f.slips.length := by simp [slipsF]
          have HMk : Hid (IntsAt wr wr.heap.size mA f.slips.length (slipsF f)) := HO.out.cs.rows HMI.out
          have Y4 : Hid (CellsBox wr (w.heap.size + 1 + 1) 22 [.slice none 0 0]) := HO.out.cs.box HX4.out
          have Y5 : Hid (CellsBox wr (w.heap.size + 1 + 1 + 1) 30 [vi 0]) := HO.out.cs.box HX5.out
          have c4 := Y4.out.cell (j := 0) rfl
          have q4 := Y4.out.frozen 0
          have z4 := Y4.out.lt
          have c5 := Y5.out.cell (j := 0) rfl
          have q5 := Y5.out.frozen 0
          have z5 := Y5.out.lt
          have HSL := Lib.hid hsl
          clear hsl hlate
          gi_wp2_with fail
          have HBX1 := box_one (u := .slice mA f.slips.length f.slips.length) Y4.out
          have HBY1 := Y5.out.apart ⟨w.heap.size + 1 + 1, 0, none⟩ (.slice mA f.slips.length f.slips.length) (by simp)
          have HBX2 := HBX1.apart ⟨w.heap.size + 1 + 1 + 1, 0, none⟩ (vi 0) (by simp)
          have HBY2 := box_one (u := vi 0) HBY1
          have HI2 := ints_box (ints_box HMk.out Y4.out (.inl (fun n => by simp))) HBY1 (.inr rfl)
          obtain ⟨Z, hZ⟩ : ∃ Z, Z = (wr.setCell ⟨w.heap.size + 1 + 1, 0, none⟩ (.slice mA f.slips.length f.slips.length)).setCell ⟨w.heap.size + 1 + 1 + 1, 0, none⟩ (vi 0) := ⟨_, rfl⟩
          rw [← hZ] at HBX2 HBY2 HI2
          have hoth : ∀ j, j ≠ w.heap.size + 1 + 1 → j ≠ w.heap.size + 1 + 1 + 1 → Z.heap[j]? = wr.heap[j]? := fun j h1 h2 => by
            rw [hZ, heap_setCell_other _ _ j _ (by simp only; omega), heap_setCell_other _ _ j _ (by simp only; omega)]
          have hBZ : Below w.heap.size w Z := by
            have hc := HO.out.cs
            have s2 := HB4.size
            have s3 := HB2.size
            have hW : Below w.heap.size w wr := ⟨hc.os.trans HB4.os, hc.tape.trans HB4.tape, hc.output.trans HB4.output, by have := hc.size; omega, fun j hj => (HO.out.spare.block j (by omega) (by have := HB1.size; omega)).trans (HB4.block j hj)⟩
            rw [hZ]
            exact (hW.setCell (by simp only; omega) _).setCell (by simp only; omega) _
          have hs4 : w.heap.size + 1 + 1 + 1 < W4.heap.size := HX5.out.lt
          have hmk : ∀ E ∈ Ds, Z.heap[E]? = some (.deferred (some [])) := fun E hE => by
            obtain ⟨d1, d2⟩ := HO.out.marks E hE
            rw [hoth E (by omega) (by omega)]
            exact d2
          have HSH := cs_shut _ _ HO.out.nodup hmk
          have o4 := (HSH.box HBX2).cell (j := 0) rfl
          have o5 := (HSH.box HBY2).cell (j := 0) rfl
          refine (?_ : ∀ Z' : World, Z = Z' → bodyPostM _ _ _ _ _ _ _ Z') _ hZ
          rintro _ rfl
          refine leaves_marks Ds Z HO.out.nodup hmk ?_
          refine ⟨.tuple #[.slice mA f.slips.length f.slips.length, vi 0], by simp [results, Tryd.results30, go_sem, o4, o5], mA, ?_, ?_, below_shut _ _ hBZ (fun E hE => by have := (HO.out.marks E hE).1; have := HB4.size; omega)⟩
          · rw [EV2.out, HSL.out]
          · rw [EV2.out]
            have := HSH.rows HI2
            rwa [HSL.out]
end Go.Proofs.YtomgnpfpaodpiaaDoor

