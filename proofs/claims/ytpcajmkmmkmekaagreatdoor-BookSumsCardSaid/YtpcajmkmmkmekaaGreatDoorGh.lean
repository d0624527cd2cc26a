/- Contracts of Price. -/
import Derived.Test.YtpcajmkmmkmekaaGreatDoorGg
set_option linter.unusedVariables false
set_option linter.unusedSimpArgs false
namespace Go.Proofs.YtpcajmkmmkmekaaGreatDoor
open Go Go.RowKit
set_option maxHeartbeats 2000000
theorem RowsOut.map_ {sz : Nat} {α : Type} {f : α → List Value} {l : List α} {w w' : World} {v : Value} (h : RowsOut sz (l.map f) w v w') : ∃ A cap, v = .slice A l.length cap ∧ RowsAt w' w'.heap.size sz A cap (l.map f) := by
  obtain ⟨A, c, rfl, h1⟩ := h.at_
  exact ⟨A, c, by rw [List.length_map], h1⟩
theorem valid_four {r : Rack} (h : validB r = true) : r.issues.length ≤ 4 := by
  simp only [validB, Bool.and_eq_true, limB, decide_eq_true_eq] at h
  have := h.1.2.2
  simp [limHi] at this
  omega
theorem item_colour {r : Rack} {it : Item} (h : itemB r it = true) : 0 ≤ it.colour ∧ it.colour ≤ 3 := by
  simp only [itemB, Bool.and_eq_true, limB, decide_eq_true_eq] at h
  have := h.2.2
  simpa [limLo, limHi] using this
theorem priceOn_is {d : Int} {l : List (Issue × Int)} {o : Option Int} (ho : priceF l d = o) (A : Option Addr) (cap : Nat) (w : World) (h : RowsAt w w.heap.size 5 A cap (l.map offC)) :
    Calls Tryz.prog 56 #[.slice A l.length cap, vi d] w fun e w' => e = .returned (maybeV o) ∧ Below w.heap.size w w' := by
  subst ho
  exact priceOn_any d A cap l w h
def offersOn (r : Rack) (a b : Int) (it : Item) : List (Issue × Int) := offersL it (bk r.issues (holdsQ a b) r.issues.length)
theorem offersOn_any (r : Rack) (a b : Int) (it : Item) (w : World) (h : RackAt w w.heap.size r) (hn4 : r.issues.length ≤ 4) (hc : 0 ≤ it.colour ∧ it.colour ≤ 3) :
    Calls Tryz.prog 57 #[r.val, .agg #[vi a, vi b], it.val] w fun e w' => ∃ A cap, e = .returned (.slice A (offersOn r a b it).length cap) ∧ RowsAt w' w'.heap.size 5 A cap ((offersOn r a b it).map offC) ∧ Below w.heap.size w w' := by
  refine (offers_any r a b it w h hn4 hc.1 hc.2).mono ?_
  rintro e w' ⟨v, rfl, hv⟩
  obtain ⟨A, c, rfl, h1⟩ := hv.map_
  exact ⟨A, c, rfl, h1, hv.2⟩
def priceO (r : Rack) (d : Int) (it : Item) : Option Int := priceF (offersOn r d d it) d
def priceAsk (r : Rack) (d : Int) (it : Item) : Bool := limB 3 d && itemB r it
def priceErr (r : Rack) (d : Int) (it : Item) : Int := if validB r then if priceAsk r d it then if (priceO r d it).isSome then 0 else 4 else 11 else 10
def priceV (r : Rack) (d : Int) (it : Item) : Int := if validB r && priceAsk r d it then (priceO r d it).getD 0 else 0
theorem Price_any (r : Rack) (d : Int) (it : Item) (w : World) (hl : Lim w) (hr : RackAt w w.heap.size r) :
    Calls Tryz.prog 17 #[r.val, vi d, it.val] w fun e w' => e = .returned (.tuple #[vi (priceV r d it), vi (priceErr r d it)]) ∧ Below w.heap.size w w' := by
  rcases hv : validB r with _ | _
  · have E : Hid (priceErr r d it = 10 ∧ priceV r d it = 0) := by simp [priceErr, priceV, hv, Hid]
    go_enter Tryz.func17, Tryz.ntmps17
    go_wp2_with (go_at_call 9; refine (check_bad r _ (by repeat (first | assumption | refine Lim.alloc ?_ _ | refine Lim.setCell ?_ (by first | (simp; done) | (simp; omega) | omega) _ | refine Lim.drew ?_)) (hr.to (by (repeat (first | exact Below.refl _ _ | refine Below.setCell ?_ (by first | omega | (simp; omega) | (simp; done)) _ | refine Below.alloc ?_ (by first | omega | (simp; omega) | (simp; done)) _ | refine Below.drew ?_ | refine below_drewN ?_ _ | refine Below.trans ?_ (Below.mono (by assumption) (by first | omega | (simp; omega) | (simp; done))))))) hv).mono ?_; rintro e w1 ⟨rfl, hb1⟩; obtain ⟨⟨hc1, hf1, hs1⟩, hz1⟩ := after hb1; (try simp only [World.size_alloc, World.size_setCell, World.size_drew] at hz1))
    go_ret2
    refine ⟨by rw [E.out.1, E.out.2]; rfl, ?_⟩
    (repeat (first | exact Below.refl _ _ | refine Below.setCell ?_ (by first | omega | (simp; omega) | (simp; done)) _ | refine Below.alloc ?_ (by first | omega | (simp; omega) | (simp; done)) _ | refine Below.drew ?_ | refine below_drewN ?_ _ | refine Below.trans ?_ (Below.mono (by assumption) (by first | omega | (simp; omega) | (simp; done)))))
  rcases h1 : limB 3 d with _ | _
  · have E : Hid (priceErr r d it = 11 ∧ priceV r d it = 0) := by simp [priceErr, priceV, priceAsk, hv, h1, Hid]
    go_enter Tryz.func17, Tryz.ntmps17
    go_wp2_with (first | (go_at_call 9; refine (check_ok r _ (by repeat (first | assumption | refine Lim.alloc ?_ _ | refine Lim.setCell ?_ (by first | (simp; done) | (simp; omega) | omega) _ | refine Lim.drew ?_)) (hr.to (by (repeat (first | exact Below.refl _ _ | refine Below.setCell ?_ (by first | omega | (simp; omega) | (simp; done)) _ | refine Below.alloc ?_ (by first | omega | (simp; omega) | (simp; done)) _ | refine Below.drew ?_ | refine below_drewN ?_ _ | refine Below.trans ?_ (Below.mono (by assumption) (by first | omega | (simp; omega) | (simp; done))))))) hv).mono ?_; rintro e w1 ⟨rfl, hb1⟩; obtain ⟨⟨hc1, hf1, hs1⟩, hz1⟩ := after hb1; (try simp only [World.size_alloc, World.size_setCell, World.size_drew] at hz1); have hl1 : Lim w1 := Lim.next (by repeat (first | assumption | refine Lim.alloc ?_ _ | refine Lim.setCell ?_ (by first | (simp; done) | (simp; omega) | omega) _ | refine Lim.drew ?_)) hb1; have hq1 : w.heap.size < w1.heap.size := (by omega); have hq2 : w.heap.size + 1 < w1.heap.size := (by omega)) | (go_at_call 28; refine (within_any _ _ _ (by omega) (by omega) (by repeat (first | assumption | refine Lim.alloc ?_ _ | refine Lim.setCell ?_ (by first | (simp; done) | (simp; omega) | omega) _ | refine Lim.drew ?_))).mono ?_; rintro e w1 ⟨rfl, hb1⟩; obtain ⟨⟨hc1, hf1, hs1⟩, hz1⟩ := after hb1; (try simp only [World.size_alloc, World.size_setCell, World.size_drew] at hz1); have hl1 : Lim w1 := Lim.next (by repeat (first | assumption | refine Lim.alloc ?_ _ | refine Lim.setCell ?_ (by first | (simp; done) | (simp; omega) | omega) _ | refine Lim.drew ?_)) hb1; have hq1 : w.heap.size < w1.heap.size := (by omega); have hq2 : w.heap.size + 1 < w1.heap.size := (by omega)) | (go_at_call 55; refine (isItem_any r it _ (by repeat (first | assumption | refine Lim.alloc ?_ _ | refine Lim.setCell ?_ (by first | (simp; done) | (simp; omega) | omega) _ | refine Lim.drew ?_))).mono ?_; rintro e w1 ⟨rfl, hb1⟩; obtain ⟨⟨hc1, hf1, hs1⟩, hz1⟩ := after hb1; (try simp only [World.size_alloc, World.size_setCell, World.size_drew] at hz1); have hl1 : Lim w1 := Lim.next (by repeat (first | assumption | refine Lim.alloc ?_ _ | refine Lim.setCell ?_ (by first | (simp; done) | (simp; omega) | omega) _ | refine Lim.drew ?_)) hb1; have hq1 : w.heap.size < w1.heap.size := (by omega); have hq2 : w.heap.size + 1 < w1.heap.size := (by omega)))
    go_ret2
    refine ⟨by rw [E.out.1, E.out.2]; rfl, ?_⟩
    (repeat (first | exact Below.refl _ _ | refine Below.setCell ?_ (by first | omega | (simp; omega) | (simp; done)) _ | refine Below.alloc ?_ (by first | omega | (simp; omega) | (simp; done)) _ | refine Below.drew ?_ | refine below_drewN ?_ _ | refine Below.trans ?_ (Below.mono (by assumption) (by first | omega | (simp; omega) | (simp; done)))))
  rcases h2 : itemB r it with _ | _
  · have E : Hid (priceErr r d it = 11 ∧ priceV r d it = 0) := by simp [priceErr, priceV, priceAsk, hv, h1, h2, Hid]
    obtain ⟨ig, is, ic⟩ := it
    go_enter Tryz.func17, Tryz.ntmps17
    go_wp2_with fail
    refine (check_ok r _ (by repeat (first | assumption | refine Lim.alloc ?_ _ | refine Lim.setCell ?_ (by first | (simp; done) | (simp; omega) | omega) _ | refine Lim.drew ?_)) (hr.to (by (repeat (first | exact Below.refl _ _ | refine Below.setCell ?_ (by first | omega | (simp; omega) | (simp; done)) _ | refine Below.alloc ?_ (by first | omega | (simp; omega) | (simp; done)) _ | refine Below.drew ?_ | refine below_drewN ?_ _ | refine Below.trans ?_ (Below.mono (by assumption) (by first | omega | (simp; omega) | (simp; done))))))) hv).mono ?_
    rintro e wA ⟨rfl, hbA⟩
    have zA : w.heap.size + 1 < wA.heap.size := by have := hbA.size; simp at this; omega
    have zA2 : w.heap.size + 1 < wA.heap.size + 1 := by omega
    have zA3 : w.heap.size < wA.heap.size := by omega
    have zA4 : w.heap.size < wA.heap.size + 1 := by omega
    have a0 := (hbA.cell (p := ⟨w.heap.size, 0, none⟩) (by first | omega | (simp; omega) | (simp; done))).trans (by simp [go_sem] : _ = some (vi r.goods))
    have a1 := (hbA.cell (p := ⟨w.heap.size, 1, none⟩) (by first | omega | (simp; omega) | (simp; done))).trans (by simp [go_sem] : _ = some r.slice)
    have b0 := (hbA.cell (p := ⟨w.heap.size + 1, 0, none⟩) (by simp)).trans (by simp [go_sem] : _ = some (vi ig))
    have b1 := (hbA.cell (p := ⟨w.heap.size + 1, 1, none⟩) (by simp)).trans (by simp [go_sem] : _ = some (vi is))
    have b2 := (hbA.cell (p := ⟨w.heap.size + 1, 2, none⟩) (by simp)).trans (by simp [go_sem] : _ = some (vi ic))
    have HA : Below w.heap.size w wA := by (repeat (first | exact Below.refl _ _ | refine Below.setCell ?_ (by first | omega | (simp; omega) | (simp; done)) _ | refine Below.alloc ?_ (by first | omega | (simp; omega) | (simp; done)) _ | refine Below.drew ?_ | refine below_drewN ?_ _ | refine Below.trans ?_ (Below.mono (by assumption) (by first | omega | (simp; omega) | (simp; done)))))
    have hlA : Lim wA := hl.next HA
    have hw0 := HA.size
    clear hbA
    go_wp2_with (first | (go_at_call 28; refine (within_any _ _ _ (by omega) (by omega) (by repeat (first | assumption | refine Lim.alloc ?_ _ | refine Lim.setCell ?_ (by first | (simp; done) | (simp; omega) | omega) _ | refine Lim.drew ?_))).mono ?_; rintro e w1 ⟨rfl, hb1⟩; obtain ⟨⟨hc1, hf1, hs1⟩, hz1⟩ := after hb1; (try simp only [World.size_alloc, World.size_setCell, World.size_drew] at hz1); have hl1 : Lim w1 := Lim.next (by repeat (first | assumption | refine Lim.alloc ?_ _ | refine Lim.setCell ?_ (by first | (simp; done) | (simp; omega) | omega) _ | refine Lim.drew ?_)) hb1; have hq1 : wA.heap.size < w1.heap.size := (by omega)) | (go_at_call 55; refine (isItem_any r ⟨ig, is, ic⟩ _ (by repeat (first | assumption | refine Lim.alloc ?_ _ | refine Lim.setCell ?_ (by first | (simp; done) | (simp; omega) | omega) _ | refine Lim.drew ?_))).mono ?_; rintro e w1 ⟨rfl, hb1⟩; obtain ⟨⟨hc1, hf1, hs1⟩, hz1⟩ := after hb1; (try simp only [World.size_alloc, World.size_setCell, World.size_drew] at hz1); have hl1 : Lim w1 := Lim.next (by repeat (first | assumption | refine Lim.alloc ?_ _ | refine Lim.setCell ?_ (by first | (simp; done) | (simp; omega) | omega) _ | refine Lim.drew ?_)) hb1; have hq1 : wA.heap.size < w1.heap.size := (by omega)))
    go_ret2
    refine ⟨by rw [E.out.1, E.out.2]; rfl, ?_⟩
    (repeat (first | exact Below.refl _ _ | refine Below.setCell ?_ (by first | omega | (simp; omega) | (simp; done)) _ | refine Below.alloc ?_ (by first | omega | (simp; omega) | (simp; done)) _ | refine Below.drew ?_ | refine below_drewN ?_ _ | refine Below.trans ?_ (Below.mono (by assumption) (by first | omega | (simp; omega) | (simp; done)))))
  have hn4 := valid_four hv
  have hic := item_colour h2
  obtain ⟨ig, is, ic⟩ := it
  rcases hpo : priceO r d ⟨ig, is, ic⟩ with _ | pr
  · have E : Hid (priceErr r d ⟨ig, is, ic⟩ = 4 ∧ priceV r d ⟨ig, is, ic⟩ = 0) := by simp [priceErr, priceV, priceAsk, hv, h1, h2, hpo, Hid]
    go_enter Tryz.func17, Tryz.ntmps17
    go_wp2_with fail
    refine (check_ok r _ (by repeat (first | assumption | refine Lim.alloc ?_ _ | refine Lim.setCell ?_ (by first | (simp; done) | (simp; omega) | omega) _ | refine Lim.drew ?_)) (hr.to (by (repeat (first | exact Below.refl _ _ | refine Below.setCell ?_ (by first | omega | (simp; omega) | (simp; done)) _ | refine Below.alloc ?_ (by first | omega | (simp; omega) | (simp; done)) _ | refine Below.drew ?_ | refine below_drewN ?_ _ | refine Below.trans ?_ (Below.mono (by assumption) (by first | omega | (simp; omega) | (simp; done))))))) hv).mono ?_
    rintro e wA ⟨rfl, hbA⟩
    have zA : w.heap.size + 1 < wA.heap.size := by have := hbA.size; simp at this; omega
    have zA2 : w.heap.size + 1 < wA.heap.size + 1 := by omega
    have zA3 : w.heap.size < wA.heap.size := by omega
    have zA4 : w.heap.size < wA.heap.size + 1 := by omega
    have a0 := (hbA.cell (p := ⟨w.heap.size, 0, none⟩) (by first | omega | (simp; omega) | (simp; done))).trans (by simp [go_sem] : _ = some (vi r.goods))
    have a1 := (hbA.cell (p := ⟨w.heap.size, 1, none⟩) (by first | omega | (simp; omega) | (simp; done))).trans (by simp [go_sem] : _ = some r.slice)
    have b0 := (hbA.cell (p := ⟨w.heap.size + 1, 0, none⟩) (by simp)).trans (by simp [go_sem] : _ = some (vi ig))
    have b1 := (hbA.cell (p := ⟨w.heap.size + 1, 1, none⟩) (by simp)).trans (by simp [go_sem] : _ = some (vi is))
    have b2 := (hbA.cell (p := ⟨w.heap.size + 1, 2, none⟩) (by simp)).trans (by simp [go_sem] : _ = some (vi ic))
    have HA : Below w.heap.size w wA := by (repeat (first | exact Below.refl _ _ | refine Below.setCell ?_ (by first | omega | (simp; omega) | (simp; done)) _ | refine Below.alloc ?_ (by first | omega | (simp; omega) | (simp; done)) _ | refine Below.drew ?_ | refine below_drewN ?_ _ | refine Below.trans ?_ (Below.mono (by assumption) (by first | omega | (simp; omega) | (simp; done)))))
    have hlA : Lim wA := hl.next HA
    have hw0 := HA.size
    clear hbA
    go_wp2_with (first | (go_at_call 28; refine (within_any _ _ _ (by omega) (by omega) (by repeat (first | assumption | refine Lim.alloc ?_ _ | refine Lim.setCell ?_ (by first | (simp; done) | (simp; omega) | omega) _ | refine Lim.drew ?_))).mono ?_; rintro e w1 ⟨rfl, hb1⟩; obtain ⟨⟨hc1, hf1, hs1⟩, hz1⟩ := after hb1; (try simp only [World.size_alloc, World.size_setCell, World.size_drew] at hz1); have hl1 : Lim w1 := Lim.next (by repeat (first | assumption | refine Lim.alloc ?_ _ | refine Lim.setCell ?_ (by first | (simp; done) | (simp; omega) | omega) _ | refine Lim.drew ?_)) hb1; have hq1 : wA.heap.size < w1.heap.size := (by omega)) | (go_at_call 55; refine (isItem_any r ⟨ig, is, ic⟩ _ (by repeat (first | assumption | refine Lim.alloc ?_ _ | refine Lim.setCell ?_ (by first | (simp; done) | (simp; omega) | omega) _ | refine Lim.drew ?_))).mono ?_; rintro e w1 ⟨rfl, hb1⟩; obtain ⟨⟨hc1, hf1, hs1⟩, hz1⟩ := after hb1; (try simp only [World.size_alloc, World.size_setCell, World.size_drew] at hz1); have hl1 : Lim w1 := Lim.next (by repeat (first | assumption | refine Lim.alloc ?_ _ | refine Lim.setCell ?_ (by first | (simp; done) | (simp; omega) | omega) _ | refine Lim.drew ?_)) hb1; have hq1 : wA.heap.size < w1.heap.size := (by omega)))
    have HB2 : Below (wA.heap.size + 1) (wA.alloc (.cells #[vi r.goods, r.slice] 56)) w1 := by (repeat (first | exact Below.refl _ _ | refine Below.setCell ?_ (by first | omega | (simp; omega) | (simp; done)) _ | refine Below.alloc ?_ (by first | omega | (simp; omega) | (simp; done)) _ | refine Below.drew ?_ | refine below_drewN ?_ _ | refine Below.trans ?_ (Below.mono (by assumption) (by first | omega | (simp; omega) | (simp; done)))))
    have R0 := (HB2.cell (p := ⟨wA.heap.size, 0, none⟩) (by first | omega | (simp; omega) | (simp; done))).trans (by simp [go_sem] : _ = some (vi r.goods))
    have R1 := (HB2.cell (p := ⟨wA.heap.size, 1, none⟩) (by first | omega | (simp; omega) | (simp; done))).trans (by simp [go_sem] : _ = some r.slice)
    have I0 := (HB2.cell (p := ⟨w.heap.size + 1, 0, none⟩) (by first | omega | (simp; omega) | (simp; done))).trans (by simp [go_sem, zA, b0] : _ = some (vi ig))
    have I1 := (HB2.cell (p := ⟨w.heap.size + 1, 1, none⟩) (by first | omega | (simp; omega) | (simp; done))).trans (by simp [go_sem, zA, b1] : _ = some (vi is))
    have I2 := (HB2.cell (p := ⟨w.heap.size + 1, 2, none⟩) (by first | omega | (simp; omega) | (simp; done))).trans (by simp [go_sem, zA, b2] : _ = some (vi ic))
    have HBw : Below w.heap.size w w1 := HA.trans (((Below.refl _ wA).alloc (Nat.le_refl _) _).trans (HB2.mono (by omega)) |>.mono (by omega))
    have hz1 : wA.heap.size < w1.heap.size := hq1
    have hz2 : w.heap.size + 1 < w1.heap.size := by omega
    have hz0 : w.heap.size ≤ w1.heap.size := by omega
    have hpo' : priceF (offersOn r d d ⟨ig, is, ic⟩) d = none := hpo
    clear a0 a1 b0 b1 b2 hc1 hf1 hb1
    go_region_with (first | (go_at_call 58; refine (oneDay_any _ _).mono ?_; rintro e wa ⟨rfl, hba⟩; have hza := hba.size; (try simp only [World.size_drew] at hza); have R0a := (hba.cell (p := ⟨wA.heap.size, 0, none⟩) (by first | omega | (simp; omega) | (simp; done))).trans (by simp [go_sem, R0] : _ = some (vi r.goods)); have R1a := (hba.cell (p := ⟨wA.heap.size, 1, none⟩) (by first | omega | (simp; omega) | (simp; done))).trans (by simp [go_sem, R1] : _ = some r.slice); have I0a := (hba.cell (p := ⟨w.heap.size + 1, 0, none⟩) (by first | omega | (simp; omega) | (simp; done))).trans (by simp [go_sem, I0] : _ = some (vi ig)); have I1a := (hba.cell (p := ⟨w.heap.size + 1, 1, none⟩) (by first | omega | (simp; omega) | (simp; done))).trans (by simp [go_sem, I1] : _ = some (vi is)); have I2a := (hba.cell (p := ⟨w.heap.size + 1, 2, none⟩) (by first | omega | (simp; omega) | (simp; done))).trans (by simp [go_sem, I2] : _ = some (vi ic))) | (go_at_call 57; refine (offersOn_any r d d ⟨ig, is, ic⟩ _ (RackAt.to hr (by (repeat (first | exact Below.refl _ _ | refine Below.setCell ?_ (by first | omega | (simp; omega) | (simp; done)) _ | refine Below.alloc ?_ (by first | omega | (simp; omega) | (simp; done)) _ | refine Below.drew ?_ | refine below_drewN ?_ _ | refine Below.trans ?_ (Below.mono (by assumption) (by first | omega | (simp; omega) | (simp; done))))))) hn4 hic).mono ?_; rintro e wb ⟨A, cp, rfl, hrb, hbb⟩; have hzb := hbb.size) | (go_at_call 56; refine (priceOn_is hpo' A cp _ (hrb.to (by (repeat (first | exact Below.refl _ _ | refine Below.setCell ?_ (by first | omega | (simp; omega) | (simp; done)) _ | refine Below.alloc ?_ (by first | omega | (simp; omega) | (simp; done)) _ | refine Below.drew ?_ | refine below_drewN ?_ _ | refine Below.trans ?_ (Below.mono (by assumption) (by first | omega | (simp; omega) | (simp; done)))))))).mono ?_; rintro e wc ⟨rfl, hbc⟩; have hzc := hbc.size))
    all_goals go_wp2
    all_goals go_ret2
    all_goals refine ⟨by rw [E.out.1, E.out.2]; rfl, ?_⟩
    all_goals (repeat (first | exact Below.refl _ _ | refine Below.setCell ?_ (by first | omega | (simp; omega) | (simp; done)) _ | refine Below.alloc ?_ (by first | omega | (simp; omega) | (simp; done)) _ | refine Below.drew ?_ | refine below_drewN ?_ _ | refine Below.trans ?_ (Below.mono (by assumption) (by first | omega | (simp; omega) | (simp; done)))))
  · have E : Hid (priceErr r d ⟨ig, is, ic⟩ = 0 ∧ priceV r d ⟨ig, is, ic⟩ = pr) := by simp [priceErr, priceV, priceAsk, hv, h1, h2, hpo, Hid]
    go_enter Tryz.func17, Tryz.ntmps17
    go_wp2_with fail
    refine (check_ok r _ (by repeat (first | assumption | refine Lim.alloc ?_ _ | refine Lim.setCell ?_ (by first | (simp; done) | (simp; omega) | omega) _ | refine Lim.drew ?_)) (hr.to (by (repeat (first | exact Below.refl _ _ | refine Below.setCell ?_ (by first | omega | (simp; omega) | (simp; done)) _ | refine Below.alloc ?_ (by first | omega | (simp; omega) | (simp; done)) _ | refine Below.drew ?_ | refine below_drewN ?_ _ | refine Below.trans ?_ (Below.mono (by assumption) (by first | omega | (simp; omega) | (simp; done))))))) hv).mono ?_
    rintro e wA ⟨rfl, hbA⟩
    have zA : w.heap.size + 1 < wA.heap.size := by have := hbA.size; simp at this; omega
    have zA2 : w.heap.size + 1 < wA.heap.size + 1 := by omega
    have zA3 : w.heap.size < wA.heap.size := by omega
    have zA4 : w.heap.size < wA.heap.size + 1 := by omega
    have a0 := (hbA.cell (p := ⟨w.heap.size, 0, none⟩) (by first | omega | (simp; omega) | (simp; done))).trans (by simp [go_sem] : _ = some (vi r.goods))
    have a1 := (hbA.cell (p := ⟨w.heap.size, 1, none⟩) (by first | omega | (simp; omega) | (simp; done))).trans (by simp [go_sem] : _ = some r.slice)
    have b0 := (hbA.cell (p := ⟨w.heap.size + 1, 0, none⟩) (by simp)).trans (by simp [go_sem] : _ = some (vi ig))
    have b1 := (hbA.cell (p := ⟨w.heap.size + 1, 1, none⟩) (by simp)).trans (by simp [go_sem] : _ = some (vi is))
    have b2 := (hbA.cell (p := ⟨w.heap.size + 1, 2, none⟩) (by simp)).trans (by simp [go_sem] : _ = some (vi ic))
    have HA : Below w.heap.size w wA := by (repeat (first | exact Below.refl _ _ | refine Below.setCell ?_ (by first | omega | (simp; omega) | (simp; done)) _ | refine Below.alloc ?_ (by first | omega | (simp; omega) | (simp; done)) _ | refine Below.drew ?_ | refine below_drewN ?_ _ | refine Below.trans ?_ (Below.mono (by assumption) (by first | omega | (simp; omega) | (simp; done)))))
    have hlA : Lim wA := hl.next HA
    have hw0 := HA.size
    clear hbA
    go_wp2_with (first | (go_at_call 28; refine (within_any _ _ _ (by omega) (by omega) (by repeat (first | assumption | refine Lim.alloc ?_ _ | refine Lim.setCell ?_ (by first | (simp; done) | (simp; omega) | omega) _ | refine Lim.drew ?_))).mono ?_; rintro e w1 ⟨rfl, hb1⟩; obtain ⟨⟨hc1, hf1, hs1⟩, hz1⟩ := after hb1; (try simp only [World.size_alloc, World.size_setCell, World.size_drew] at hz1); have hl1 : Lim w1 := Lim.next (by repeat (first | assumption | refine Lim.alloc ?_ _ | refine Lim.setCell ?_ (by first | (simp; done) | (simp; omega) | omega) _ | refine Lim.drew ?_)) hb1; have hq1 : wA.heap.size < w1.heap.size := (by omega)) | (go_at_call 55; refine (isItem_any r ⟨ig, is, ic⟩ _ (by repeat (first | assumption | refine Lim.alloc ?_ _ | refine Lim.setCell ?_ (by first | (simp; done) | (simp; omega) | omega) _ | refine Lim.drew ?_))).mono ?_; rintro e w1 ⟨rfl, hb1⟩; obtain ⟨⟨hc1, hf1, hs1⟩, hz1⟩ := after hb1; (try simp only [World.size_alloc, World.size_setCell, World.size_drew] at hz1); have hl1 : Lim w1 := Lim.next (by repeat (first | assumption | refine Lim.alloc ?_ _ | refine Lim.setCell ?_ (by first | (simp; done) | (simp; omega) | omega) _ | refine Lim.drew ?_)) hb1; have hq1 : wA.heap.size < w1.heap.size := (by omega)))
    have HB2 : Below (wA.heap.size + 1) (wA.alloc (.cells #[vi r.goods, r.slice] 56)) w1 := by (repeat (first | exact Below.refl _ _ | refine Below.setCell ?_ (by first | omega | (simp; omega) | (simp; done)) _ | refine Below.alloc ?_ (by first | omega | (simp; omega) | (simp; done)) _ | refine Below.drew ?_ | refine below_drewN ?_ _ | refine Below.trans ?_ (Below.mono (by assumption) (by first | omega | (simp; omega) | (simp; done)))))
    have R0 := (HB2.cell (p := ⟨wA.heap.size, 0, none⟩) (by first | omega | (simp; omega) | (simp; done))).trans (by simp [go_sem] : _ = some (vi r.goods))
    have R1 := (HB2.cell (p := ⟨wA.heap.size, 1, none⟩) (by first | omega | (simp; omega) | (simp; done))).trans (by simp [go_sem] : _ = some r.slice)
    have I0 := (HB2.cell (p := ⟨w.heap.size + 1, 0, none⟩) (by first | omega | (simp; omega) | (simp; done))).trans (by simp [go_sem, zA, b0] : _ = some (vi ig))
    have I1 := (HB2.cell (p := ⟨w.heap.size + 1, 1, none⟩) (by first | omega | (simp; omega) | (simp; done))).trans (by simp [go_sem, zA, b1] : _ = some (vi is))
    have I2 := (HB2.cell (p := ⟨w.heap.size + 1, 2, none⟩) (by first | omega | (simp; omega) | (simp; done))).trans (by simp [go_sem, zA, b2] : _ = some (vi ic))
    have HBw : Below w.heap.size w w1 := HA.trans (((Below.refl _ wA).alloc (Nat.le_refl _) _).trans (HB2.mono (by omega)) |>.mono (by omega))
    have hz1 : wA.heap.size < w1.heap.size := hq1
    have hz2 : w.heap.size + 1 < w1.heap.size := by omega
    have hz0 : w.heap.size ≤ w1.heap.size := by omega
    have hpo' : priceF (offersOn r d d ⟨ig, is, ic⟩) d = some pr := hpo
    clear a0 a1 b0 b1 b2 hc1 hf1 hb1
    go_region_with (first | (go_at_call 58; refine (oneDay_any _ _).mono ?_; rintro e wa ⟨rfl, hba⟩; have hza := hba.size; (try simp only [World.size_drew] at hza); have R0a := (hba.cell (p := ⟨wA.heap.size, 0, none⟩) (by first | omega | (simp; omega) | (simp; done))).trans (by simp [go_sem, R0] : _ = some (vi r.goods)); have R1a := (hba.cell (p := ⟨wA.heap.size, 1, none⟩) (by first | omega | (simp; omega) | (simp; done))).trans (by simp [go_sem, R1] : _ = some r.slice); have I0a := (hba.cell (p := ⟨w.heap.size + 1, 0, none⟩) (by first | omega | (simp; omega) | (simp; done))).trans (by simp [go_sem, I0] : _ = some (vi ig)); have I1a := (hba.cell (p := ⟨w.heap.size + 1, 1, none⟩) (by first | omega | (simp; omega) | (simp; done))).trans (by simp [go_sem, I1] : _ = some (vi is)); have I2a := (hba.cell (p := ⟨w.heap.size + 1, 2, none⟩) (by first | omega | (simp; omega) | (simp; done))).trans (by simp [go_sem, I2] : _ = some (vi ic))) | (go_at_call 57; refine (offersOn_any r d d ⟨ig, is, ic⟩ _ (RackAt.to hr (by (repeat (first | exact Below.refl _ _ | refine Below.setCell ?_ (by first | omega | (simp; omega) | (simp; done)) _ | refine Below.alloc ?_ (by first | omega | (simp; omega) | (simp; done)) _ | refine Below.drew ?_ | refine below_drewN ?_ _ | refine Below.trans ?_ (Below.mono (by assumption) (by first | omega | (simp; omega) | (simp; done))))))) hn4 hic).mono ?_; rintro e wb ⟨A, cp, rfl, hrb, hbb⟩; have hzb := hbb.size) | (go_at_call 56; refine (priceOn_is hpo' A cp _ (hrb.to (by (repeat (first | exact Below.refl _ _ | refine Below.setCell ?_ (by first | omega | (simp; omega) | (simp; done)) _ | refine Below.alloc ?_ (by first | omega | (simp; omega) | (simp; done)) _ | refine Below.drew ?_ | refine below_drewN ?_ _ | refine Below.trans ?_ (Below.mono (by assumption) (by first | omega | (simp; omega) | (simp; done)))))))).mono ?_; rintro e wc ⟨rfl, hbc⟩; have hzc := hbc.size))
    all_goals go_wp2
    all_goals go_ret2
    all_goals refine ⟨by rw [E.out.1, E.out.2]; rfl, ?_⟩
    all_goals (repeat (first | exact Below.refl _ _ | refine Below.setCell ?_ (by first | omega | (simp; omega) | (simp; done)) _ | refine Below.alloc ?_ (by first | omega | (simp; omega) | (simp; done)) _ | refine Below.drew ?_ | refine below_drewN ?_ _ | refine Below.trans ?_ (Below.mono (by assumption) (by first | omega | (simp; omega) | (simp; done)))))
end Go.Proofs.YtpcajmkmmkmekaaGreatDoor

