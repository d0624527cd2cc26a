/- Contracts of last. -/
import Derived.Test.YtpcajmkmmkmekaaGreatDoorGh
set_option linter.unusedVariables false
set_option linter.unusedSimpArgs false
namespace Go.Proofs.YtpcajmkmmkmekaaGreatDoor
open Go Go.RowKit
set_option maxHeartbeats 2000000
def lastF (l : List (Issue × Int)) : Int := l.foldl (fun m o => max m o.1.held) 0
theorem lastF_succ {l : List (Issue × Int)} {k : Nat} {x : Issue × Int} (h : l[k]? = some x) : lastF (l.take (k + 1)) = max (lastF (l.take k)) x.1.held := by
  obtain ⟨hk, rfl⟩ := List.getElem?_eq_some_iff.1 h
  rw [List.take_succ_eq_append_getElem hk, lastF, List.foldl_append]
  rfl
def lastOn (r : Rack) (it : Item) : List (Issue × Int) := offersOn r 0 20000 it
theorem offersOn_is {r : Rack} {a b : Int} {it : Item} {l : List (Issue × Int)} (hL : offersOn r a b it = l) (w : World) (h : RackAt w w.heap.size r) (hn4 : r.issues.length ≤ 4) (hc : 0 ≤ it.colour ∧ it.colour ≤ 3) :
    Calls Tryz.prog 57 #[r.val, .agg #[vi a, vi b], it.val] w fun e w' => ∃ A cap, e = .returned (.slice A l.length cap) ∧ RowsAt w' w'.heap.size 5 A cap (l.map offC) ∧ Below w.heap.size w w' := by
  subst hL
  exact offersOn_any r a b it w h hn4 hc
theorem last_any (r : Rack) (it : Item) (w : World) (hl : Lim w) (h : RackAt w w.heap.size r) (hn4 : r.issues.length ≤ 4) (hc : 0 ≤ it.colour ∧ it.colour ≤ 3) :
    Calls Tryz.prog 63 #[r.val, it.val] w fun e w' => e = .returned (.tuple #[vi (lastF (lastOn r it)), .bool (decide (0 < (lastOn r it).length))]) ∧ Below w.heap.size w w' := by
  obtain ⟨ig, is, ic⟩ := it
  unfold lastOn
  generalize hL : offersOn r 0 20000 ⟨ig, is, ic⟩ = l
  have l0 : w.cell? ⟨0, 6, none⟩ = some (vi 0) := hl.lo 3 (by omega)
  have l1 : w.cell? ⟨0, 7, none⟩ = some (vi 20000) := hl.hi 3 (by omega)
  have z0 := hl.pos
  have z1 : ¬ (0 = w.heap.size) := by omega
  go_enter Tryz.func63, Tryz.ntmps63
  go_wp2_with (go_at_call 57; refine (offersOn_is hL _ (RackAt.to h (by (repeat (first | exact Below.refl _ _ | refine Below.setCell ?_ (by first | omega | (simp; omega) | (simp; done)) _ | refine Below.alloc ?_ (by first | omega | (simp; omega) | (simp; done)) _ | refine Below.drew ?_ | refine below_drewN ?_ _ | refine Below.trans ?_ (Below.mono (by assumption) (by first | omega | (simp; omega) | (simp; done))))))) hn4 hc).mono ?_; rintro e wb ⟨A, cp, rfl, hrb, hbb⟩; have hzb := hbb.size)
  have HB0 : Below w.heap.size w wb := by (repeat (first | exact Below.refl _ _ | refine Below.setCell ?_ (by first | omega | (simp; omega) | (simp; done)) _ | refine Below.alloc ?_ (by first | omega | (simp; omega) | (simp; done)) _ | refine Below.drew ?_ | refine below_drewN ?_ _ | refine Below.trans ?_ (Below.mono (by assumption) (by first | omega | (simp; omega) | (simp; done)))))
  have hlen := hrb.len
  have hcap := hrb.cap
  rw [List.length_map] at hlen
  clear hbb l0 l1
  go_loopw [7, 17] (fun m i wr => ∃ k : Nat, k ≤ l.length ∧ i = .int .i64 k ∧ m = vi (lastF (l.take k)) ∧ Below wb.heap.size wb wr) (fun _ i _ => l.length - (intOf i).toNat)
  case atStart => exact ⟨0, Nat.zero_le _, rfl, by simp [lastF], Below.refl _ _⟩
  case round =>
    obtain ⟨k, hk, rfl, rfl, hB⟩ := hrel
    have hbs := hB.size
    by_cases hlt : k < l.length
    · obtain ⟨x, hx⟩ : ∃ x, l[k]? = some x := ⟨_, List.getElem?_eq_getElem hlt⟩
      have HX := Lib.hid (lastF_succ hx)
      obtain ⟨x, n⟩ := x
      obtain ⟨bb, off, rfl, hb, c0, c1, c2, c3, c4⟩ := row5 (hrb.row.keep fun p hp => hB.cell hp) hx rfl
      have zb : bb < wr.heap.size := by omega
      clear hx
      by_cases hm : lastF (l.take k) < x.held
      · have E : Hid (lastF (l.take (k + 1)) = x.held) := by unfold Hid; rw [HX.out]; simp; omega
        have hm2 : decide (lastF (l.take k) < x.held) = true := by simpa using hm
        go_wp2
        go_roundw
        case rel => exact ⟨k + 1, by omega, by go_num, by rw [E.out], by (repeat (first | exact Below.refl _ _ | refine Below.setCell ?_ (by first | omega | (simp; omega) | (simp; done)) _ | refine Below.alloc ?_ (by first | omega | (simp; omega) | (simp; done)) _ | refine Below.drew ?_ | refine below_drewN ?_ _ | refine Below.trans ?_ (Below.mono (by assumption) (by first | omega | (simp; omega) | (simp; done)))))⟩
        case measure => simp [intOf]; omega
      · have E : Hid (lastF (l.take (k + 1)) = lastF (l.take k)) := by unfold Hid; rw [HX.out]; simp; omega
        have hm2 : decide (lastF (l.take k) < x.held) = false := by simpa using hm
        have hm3 : x.held ≤ lastF (l.take k) := by omega
        go_wp2
        go_roundw
        case rel => exact ⟨k + 1, by omega, by go_num, by rw [E.out], by (repeat (first | exact Below.refl _ _ | refine Below.setCell ?_ (by first | omega | (simp; omega) | (simp; done)) _ | refine Below.alloc ?_ (by first | omega | (simp; omega) | (simp; done)) _ | refine Below.drew ?_ | refine below_drewN ?_ _ | refine Below.trans ?_ (Below.mono (by assumption) (by first | omega | (simp; omega) | (simp; done)))))⟩
        case measure => simp [intOf]; omega
    · obtain rfl : k = l.length := by omega
      have E : Hid (l.take l.length = l) := List.take_length
      go_wp2
      go_ret2
      refine ⟨congrArg (fun m => Ending.returned (.tuple #[vi (lastF m), .bool (decide (0 < l.length))])) E.out, ?_⟩
      exact HB0.trans (hB.mono HB0.size)
theorem last_is {r : Rack} {it : Item} {m : Int} {ok : Bool} (hm : lastF (lastOn r it) = m) (ho : decide (0 < (lastOn r it).length) = ok) (w : World) (hl : Lim w) (h : RackAt w w.heap.size r) (hn4 : r.issues.length ≤ 4) (hc : 0 ≤ it.colour ∧ it.colour ≤ 3) :
    Calls Tryz.prog 63 #[r.val, it.val] w fun e w' => e = .returned (.tuple #[vi m, .bool ok]) ∧ Below w.heap.size w w' := by
  subst hm ho
  exact last_any r it w hl h hn4 hc
def lastErr (r : Rack) (it : Item) : Int := if validB r then if itemB r it then if decide (0 < (lastOn r it).length) then 0 else 4 else 11 else 10
def lastV (r : Rack) (it : Item) : Int := if validB r && itemB r it then if decide (0 < (lastOn r it).length) then lastF (lastOn r it) else 0 else 0
theorem Last_any (r : Rack) (it : Item) (w : World) (hl : Lim w) (hr : RackAt w w.heap.size r) :
    Calls Tryz.prog 21 #[r.val, it.val] w fun e w' => e = .returned (.tuple #[vi (lastV r it), vi (lastErr r it)]) ∧ Below w.heap.size w w' := by
  rcases hv : validB r with _ | _
  · have E : Hid (lastErr r it = 10 ∧ lastV r it = 0) := by simp [lastErr, lastV, hv, Hid]
    go_enter Tryz.func21, Tryz.ntmps21
    go_wp2_with (go_at_call 9; refine (check_bad r _ (by repeat (first | assumption | refine Lim.alloc ?_ _ | refine Lim.setCell ?_ (by first | (simp; done) | (simp; omega) | omega) _ | refine Lim.drew ?_)) (hr.to (by (repeat (first | exact Below.refl _ _ | refine Below.setCell ?_ (by first | omega | (simp; omega) | (simp; done)) _ | refine Below.alloc ?_ (by first | omega | (simp; omega) | (simp; done)) _ | refine Below.drew ?_ | refine below_drewN ?_ _ | refine Below.trans ?_ (Below.mono (by assumption) (by first | omega | (simp; omega) | (simp; done))))))) hv).mono ?_; rintro e w1 ⟨rfl, hb1⟩; obtain ⟨⟨hc1, hf1, hs1⟩, hz1⟩ := after hb1; (try simp only [World.size_alloc, World.size_setCell, World.size_drew] at hz1))
    go_ret2
    refine ⟨by rw [E.out.1, E.out.2]; rfl, ?_⟩
    (repeat (first | exact Below.refl _ _ | refine Below.setCell ?_ (by first | omega | (simp; omega) | (simp; done)) _ | refine Below.alloc ?_ (by first | omega | (simp; omega) | (simp; done)) _ | refine Below.drew ?_ | refine below_drewN ?_ _ | refine Below.trans ?_ (Below.mono (by assumption) (by first | omega | (simp; omega) | (simp; done)))))
  rcases h2 : itemB r it with _ | _
  · have E : Hid (lastErr r it = 11 ∧ lastV r it = 0) := by simp [lastErr, lastV, hv, h2, Hid]
    obtain ⟨ig, is, ic⟩ := it
    go_enter Tryz.func21, Tryz.ntmps21
    go_wp2_with fail
    refine (check_ok r _ (by repeat (first | assumption | refine Lim.alloc ?_ _ | refine Lim.setCell ?_ (by first | (simp; done) | (simp; omega) | omega) _ | refine Lim.drew ?_)) (hr.to (by (repeat (first | exact Below.refl _ _ | refine Below.setCell ?_ (by first | omega | (simp; omega) | (simp; done)) _ | refine Below.alloc ?_ (by first | omega | (simp; omega) | (simp; done)) _ | refine Below.drew ?_ | refine below_drewN ?_ _ | refine Below.trans ?_ (Below.mono (by assumption) (by first | omega | (simp; omega) | (simp; done))))))) hv).mono ?_
    rintro e wA ⟨rfl, hbA⟩
    have zA : w.heap.size + 1 < wA.heap.size := by have := hbA.size; simp at this; omega
    have zA2 : w.heap.size + 1 < wA.heap.size + 1 := by omega
    have zA3 : w.heap.size < wA.heap.size := by omega
    have zA4 : w.heap.size < wA.heap.size + 1 := by omega
    have a0 := (hbA.cell (p := ⟨w.heap.size, 0, none⟩) (by first | omega | (simp; omega) | (simp; done))).trans (by simp [go_sem] : _ = some (vi r.goods))
    have a1 := (hbA.cell (p := ⟨w.heap.size, 1, none⟩) (by first | omega | (simp; omega) | (simp; done))).trans (by simp [go_sem] : _ = some r.slice)
    have b0 := (hbA.cell (p := ⟨w.heap.size + 1, 0, none⟩) (by simp)).trans (by simp [go_sem] : _ = some (vi ig))
    have b1 := (hbA.cell (p := ⟨w.heap.size + 1, 1, none⟩) (by simp)).trans (by simp [go_sem] : _ = some (vi is))
    have b2 := (hbA.cell (p := ⟨w.heap.size + 1, 2, none⟩) (by simp)).trans (by simp [go_sem] : _ = some (vi ic))
    have HA : Below w.heap.size w wA := by (repeat (first | exact Below.refl _ _ | refine Below.setCell ?_ (by first | omega | (simp; omega) | (simp; done)) _ | refine Below.alloc ?_ (by first | omega | (simp; omega) | (simp; done)) _ | refine Below.drew ?_ | refine below_drewN ?_ _ | refine Below.trans ?_ (Below.mono (by assumption) (by first | omega | (simp; omega) | (simp; done)))))
    have hlA : Lim wA := hl.next HA
    have hw0 := HA.size
    clear hbA
    go_wp2_with (first | (go_at_call 55; refine (isItem_any r ⟨ig, is, ic⟩ _ (by repeat (first | assumption | refine Lim.alloc ?_ _ | refine Lim.setCell ?_ (by first | (simp; done) | (simp; omega) | omega) _ | refine Lim.drew ?_))).mono ?_; rintro e w1 ⟨rfl, hb1⟩; obtain ⟨⟨hc1, hf1, hs1⟩, hz1⟩ := after hb1; (try simp only [World.size_alloc, World.size_setCell, World.size_drew] at hz1); have hl1 : Lim w1 := Lim.next (by repeat (first | assumption | refine Lim.alloc ?_ _ | refine Lim.setCell ?_ (by first | (simp; done) | (simp; omega) | omega) _ | refine Lim.drew ?_)) hb1; have hq1 : wA.heap.size < w1.heap.size := (by omega)) | (go_at_call 63; refine (last_is hm hok _ (by repeat (first | assumption | refine Lim.alloc ?_ _ | refine Lim.setCell ?_ (by first | (simp; done) | (simp; omega) | omega) _ | refine Lim.drew ?_)) (RackAt.to hr (by (repeat (first | exact Below.refl _ _ | refine Below.setCell ?_ (by first | omega | (simp; omega) | (simp; done)) _ | refine Below.alloc ?_ (by first | omega | (simp; omega) | (simp; done)) _ | refine Below.drew ?_ | refine below_drewN ?_ _ | refine Below.trans ?_ (Below.mono (by assumption) (by first | omega | (simp; omega) | (simp; done))))))) hn4 hic).mono ?_; rintro e wb ⟨rfl, hbb⟩; have hzb := hbb.size))
    go_ret2
    refine ⟨by rw [E.out.1, E.out.2]; rfl, ?_⟩
    (repeat (first | exact Below.refl _ _ | refine Below.setCell ?_ (by first | omega | (simp; omega) | (simp; done)) _ | refine Below.alloc ?_ (by first | omega | (simp; omega) | (simp; done)) _ | refine Below.drew ?_ | refine below_drewN ?_ _ | refine Below.trans ?_ (Below.mono (by assumption) (by first | omega | (simp; omega) | (simp; done)))))
  have hn4 := valid_four hv
  have hic := item_colour h2
  obtain ⟨ig, is, ic⟩ := it
  rcases hok : decide (0 < (lastOn r ⟨ig, is, ic⟩).length) with _ | _
  · have E : Hid (lastErr r ⟨ig, is, ic⟩ = 4 ∧ lastV r ⟨ig, is, ic⟩ = 0) := by simp only [lastErr, lastV, hv, h2, hok, Hid]; exact ⟨rfl, rfl⟩
    generalize hm : lastF (lastOn r ⟨ig, is, ic⟩) = m at *
    go_enter Tryz.func21, Tryz.ntmps21
    go_wp2_with fail
    refine (check_ok r _ (by repeat (first | assumption | refine Lim.alloc ?_ _ | refine Lim.setCell ?_ (by first | (simp; done) | (simp; omega) | omega) _ | refine Lim.drew ?_)) (hr.to (by (repeat (first | exact Below.refl _ _ | refine Below.setCell ?_ (by first | omega | (simp; omega) | (simp; done)) _ | refine Below.alloc ?_ (by first | omega | (simp; omega) | (simp; done)) _ | refine Below.drew ?_ | refine below_drewN ?_ _ | refine Below.trans ?_ (Below.mono (by assumption) (by first | omega | (simp; omega) | (simp; done))))))) hv).mono ?_
    rintro e wA ⟨rfl, hbA⟩
    have zA : w.heap.size + 1 < wA.heap.size := by have := hbA.size; simp at this; omega
    have zA2 : w.heap.size + 1 < wA.heap.size + 1 := by omega
    have zA3 : w.heap.size < wA.heap.size := by omega
    have zA4 : w.heap.size < wA.heap.size + 1 := by omega
    have a0 := (hbA.cell (p := ⟨w.heap.size, 0, none⟩) (by first | omega | (simp; omega) | (simp; done))).trans (by simp [go_sem] : _ = some (vi r.goods))
    have a1 := (hbA.cell (p := ⟨w.heap.size, 1, none⟩) (by first | omega | (simp; omega) | (simp; done))).trans (by simp [go_sem] : _ = some r.slice)
    have b0 := (hbA.cell (p := ⟨w.heap.size + 1, 0, none⟩) (by simp)).trans (by simp [go_sem] : _ = some (vi ig))
    have b1 := (hbA.cell (p := ⟨w.heap.size + 1, 1, none⟩) (by simp)).trans (by simp [go_sem] : _ = some (vi is))
    have b2 := (hbA.cell (p := ⟨w.heap.size + 1, 2, none⟩) (by simp)).trans (by simp [go_sem] : _ = some (vi ic))
    have HA : Below w.heap.size w wA := by (repeat (first | exact Below.refl _ _ | refine Below.setCell ?_ (by first | omega | (simp; omega) | (simp; done)) _ | refine Below.alloc ?_ (by first | omega | (simp; omega) | (simp; done)) _ | refine Below.drew ?_ | refine below_drewN ?_ _ | refine Below.trans ?_ (Below.mono (by assumption) (by first | omega | (simp; omega) | (simp; done)))))
    have hlA : Lim wA := hl.next HA
    have hw0 := HA.size
    clear hbA
    go_wp2_with (first | (go_at_call 55; refine (isItem_any r ⟨ig, is, ic⟩ _ (by repeat (first | assumption | refine Lim.alloc ?_ _ | refine Lim.setCell ?_ (by first | (simp; done) | (simp; omega) | omega) _ | refine Lim.drew ?_))).mono ?_; rintro e w1 ⟨rfl, hb1⟩; obtain ⟨⟨hc1, hf1, hs1⟩, hz1⟩ := after hb1; (try simp only [World.size_alloc, World.size_setCell, World.size_drew] at hz1); have hl1 : Lim w1 := Lim.next (by repeat (first | assumption | refine Lim.alloc ?_ _ | refine Lim.setCell ?_ (by first | (simp; done) | (simp; omega) | omega) _ | refine Lim.drew ?_)) hb1; have hq1 : wA.heap.size < w1.heap.size := (by omega)) | (go_at_call 63; refine (last_is hm hok _ (by repeat (first | assumption | refine Lim.alloc ?_ _ | refine Lim.setCell ?_ (by first | (simp; done) | (simp; omega) | omega) _ | refine Lim.drew ?_)) (RackAt.to hr (by (repeat (first | exact Below.refl _ _ | refine Below.setCell ?_ (by first | omega | (simp; omega) | (simp; done)) _ | refine Below.alloc ?_ (by first | omega | (simp; omega) | (simp; done)) _ | refine Below.drew ?_ | refine below_drewN ?_ _ | refine Below.trans ?_ (Below.mono (by assumption) (by first | omega | (simp; omega) | (simp; done))))))) hn4 hic).mono ?_; rintro e wb ⟨rfl, hbb⟩; have hzb := hbb.size))
    go_ret2
    refine ⟨by rw [E.out.1, E.out.2]; rfl, ?_⟩
    (repeat (first | exact Below.refl _ _ | refine Below.setCell ?_ (by first | omega | (simp; omega) | (simp; done)) _ | refine Below.alloc ?_ (by first | omega | (simp; omega) | (simp; done)) _ | refine Below.drew ?_ | refine below_drewN ?_ _ | refine Below.trans ?_ (Below.mono (by assumption) (by first | omega | (simp; omega) | (simp; done)))))
  · have E : Hid (lastErr r ⟨ig, is, ic⟩ = 0 ∧ lastV r ⟨ig, is, ic⟩ = lastF (lastOn r ⟨ig, is, ic⟩)) := by simp only [lastErr, lastV, hv, h2, hok, Hid]; exact ⟨rfl, rfl⟩
    generalize hm : lastF (lastOn r ⟨ig, is, ic⟩) = m at *
    go_enter Tryz.func21, Tryz.ntmps21
    go_wp2_with fail
    refine (check_ok r _ (by repeat (first | assumption | refine Lim.alloc ?_ _ | refine Lim.setCell ?_ (by first | (simp; done) | (simp; omega) | omega) _ | refine Lim.drew ?_)) (hr.to (by (repeat (first | exact Below.refl _ _ | refine Below.setCell ?_ (by first | omega | (simp; omega) | (simp; done)) _ | refine Below.alloc ?_ (by first | omega | (simp; omega) | (simp; done)) _ | refine Below.drew ?_ | refine below_drewN ?_ _ | refine Below.trans ?_ (Below.mono (by assumption) (by first | omega | (simp; omega) | (simp; done))))))) hv).mono ?_
    rintro e wA ⟨rfl, hbA⟩
    have zA : w.heap.size + 1 < wA.heap.size := by have := hbA.size; simp at this; omega
    have zA2 : w.heap.size + 1 < wA.heap.size + 1 := by omega
    have zA3 : w.heap.size < wA.heap.size := by omega
    have zA4 : w.heap.size < wA.heap.size + 1 := by omega
    have a0 := (hbA.cell (p := ⟨w.heap.size, 0, none⟩) (by first | omega | (simp; omega) | (simp; done))).trans (by simp [go_sem] : _ = some (vi r.goods))
    have a1 := (hbA.cell (p := ⟨w.heap.size, 1, none⟩) (by first | omega | (simp; omega) | (simp; done))).trans (by simp [go_sem] : _ = some r.slice)
    have b0 := (hbA.cell (p := ⟨w.heap.size + 1, 0, none⟩) (by simp)).trans (by simp [go_sem] : _ = some (vi ig))
    have b1 := (hbA.cell (p := ⟨w.heap.size + 1, 1, none⟩) (by simp)).trans (by simp [go_sem] : _ = some (vi is))
    have b2 := (hbA.cell (p := ⟨w.heap.size + 1, 2, none⟩) (by simp)).trans (by simp [go_sem] : _ = some (vi ic))
    have HA : Below w.heap.size w wA := by (repeat (first | exact Below.refl _ _ | refine Below.setCell ?_ (by first | omega | (simp; omega) | (simp; done)) _ | refine Below.alloc ?_ (by first | omega | (simp; omega) | (simp; done)) _ | refine Below.drew ?_ | refine below_drewN ?_ _ | refine Below.trans ?_ (Below.mono (by assumption) (by first | omega | (simp; omega) | (simp; done)))))
    have hlA : Lim wA := hl.next HA
    have hw0 := HA.size
    clear hbA
    go_wp2_with (first | (go_at_call 55; refine (isItem_any r ⟨ig, is, ic⟩ _ (by repeat (first | assumption | refine Lim.alloc ?_ _ | refine Lim.setCell ?_ (by first | (simp; done) | (simp; omega) | omega) _ | refine Lim.drew ?_))).mono ?_; rintro e w1 ⟨rfl, hb1⟩; obtain ⟨⟨hc1, hf1, hs1⟩, hz1⟩ := after hb1; (try simp only [World.size_alloc, World.size_setCell, World.size_drew] at hz1); have hl1 : Lim w1 := Lim.next (by repeat (first | assumption | refine Lim.alloc ?_ _ | refine Lim.setCell ?_ (by first | (simp; done) | (simp; omega) | omega) _ | refine Lim.drew ?_)) hb1; have hq1 : wA.heap.size < w1.heap.size := (by omega)) | (go_at_call 63; refine (last_is hm hok _ (by repeat (first | assumption | refine Lim.alloc ?_ _ | refine Lim.setCell ?_ (by first | (simp; done) | (simp; omega) | omega) _ | refine Lim.drew ?_)) (RackAt.to hr (by (repeat (first | exact Below.refl _ _ | refine Below.setCell ?_ (by first | omega | (simp; omega) | (simp; done)) _ | refine Below.alloc ?_ (by first | omega | (simp; omega) | (simp; done)) _ | refine Below.drew ?_ | refine below_drewN ?_ _ | refine Below.trans ?_ (Below.mono (by assumption) (by first | omega | (simp; omega) | (simp; done))))))) hn4 hic).mono ?_; rintro e wb ⟨rfl, hbb⟩; have hzb := hbb.size))
    go_ret2
    refine ⟨by rw [E.out.1, E.out.2]; rfl, ?_⟩
    (repeat (first | exact Below.refl _ _ | refine Below.setCell ?_ (by first | omega | (simp; omega) | (simp; done)) _ | refine Below.alloc ?_ (by first | omega | (simp; omega) | (simp; done)) _ | refine Below.drew ?_ | refine below_drewN ?_ _ | refine Below.trans ?_ (Below.mono (by assumption) (by first | omega | (simp; omega) | (simp; done)))))
end Go.Proofs.YtpcajmkmmkmekaaGreatDoor

/- Contracts of areLines. -/
namespace Go.Proofs.YtpcajmkmmkmekaaGreatDoor
open Go Go.RowKit
set_option maxHeartbeats 2000000
def lineB (r : Rack) (l : Line) : Bool := itemB r l.item && limB 11 l.many
def linesB (r : Rack) (ls : List Line) : Bool := limB 10 ls.length && ls.all (lineB r)
theorem LinesAt.to' {w w' : World} {cap : Nat} {A : Option Addr} {l : List Line} (h : LinesAt w w.heap.size A cap l) (hb : Below w.heap.size w w') : LinesAt w' w'.heap.size A cap l := h.to hb
theorem lines_no {r : Rack} {ls : List Line} {k : Nat} {x : Line} (hx : ls[k]? = some x) (h : lineB r x = false) : linesB r ls = false := by
  unfold linesB
  rw [Bool.and_eq_false_iff]
  right
  rw [List.all_eq_false]
  exact ⟨x, List.mem_of_getElem? hx, by simp [h]⟩
theorem areLines_any (r : Rack) (A : Option Addr) (cap : Nat) (ls : List Line) (w : World) (hl : Lim w) (h : LinesAt w w.heap.size A cap ls) :
    Calls Tryz.prog 64 #[.slice A ls.length cap, .func (.func 55) #[r.val] #[]] w fun e w' => e = .returned (.bool (linesB r ls)) ∧ Below w.heap.size w w' := by
  have hcap := h.cap
  have hlen := h.len
  rcases h1 : limB 10 ls.length with _ | _
  · have E : Hid (linesB r ls = false) := by simp [linesB, h1, Hid]
    go_enter Tryz.func64, Tryz.ntmps64
    go_wp2_with (go_at_call 28; refine (within_any _ _ _ (by omega) (by omega) (by repeat (first | assumption | refine Lim.alloc ?_ _ | refine Lim.setCell ?_ (by first | (simp; done) | (simp; omega) | omega) _ | refine Lim.drew ?_))).mono ?_; rintro e w1 ⟨rfl, hb1⟩; obtain ⟨⟨hc1, hf1, hs1⟩, hz1⟩ := after hb1; (try simp only [World.size_alloc, World.size_setCell, World.size_drew] at hz1))
    go_ret
    refine ⟨retB E.out.symm, ?_⟩
    (repeat (first | exact Below.refl _ _ | refine Below.setCell ?_ (by first | omega | (simp; omega) | (simp; done)) _ | refine Below.alloc ?_ (by first | omega | (simp; omega) | (simp; done)) _ | refine Below.drew ?_ | refine below_drewN ?_ _ | refine Below.trans ?_ (Below.mono (by assumption) (by first | omega | (simp; omega) | (simp; done)))))
  have H1 := Lib.hid h1
  go_enter Tryz.func64, Tryz.ntmps64
  go_wp2_with (go_at_call 28; refine (within_any _ _ _ (by omega) (by omega) (by repeat (first | assumption | refine Lim.alloc ?_ _ | refine Lim.setCell ?_ (by first | (simp; done) | (simp; omega) | omega) _ | refine Lim.drew ?_))).mono ?_; rintro e w1 ⟨rfl, hb1⟩; obtain ⟨⟨hc1, hf1, hs1⟩, hz1⟩ := after hb1; (try simp only [World.size_alloc, World.size_setCell, World.size_drew] at hz1); have hl1 : Lim w1 := Lim.next (by repeat (first | assumption | refine Lim.alloc ?_ _ | refine Lim.setCell ?_ (by first | (simp; done) | (simp; omega) | omega) _ | refine Lim.drew ?_)) hb1)
  clear h1
  go_loopw [13] (fun i wr => ∃ k : Nat, k ≤ ls.length ∧ i = .int .i64 k ∧ Below w1.heap.size w1 wr ∧ Hid ((ls.take k).all (lineB r) = true)) (fun i _ => ls.length - (intOf i).toNat)
  case atStart => exact ⟨0, Nat.zero_le _, rfl, Below.refl _ _, by simp [Hid]⟩
  case round =>
    obtain ⟨k, hk, rfl, hB, hall⟩ := hrel
    have hbs := hB.size
    have hlw : Lim wr := hl1.next hB
    by_cases hlt : k < ls.length
    · obtain ⟨x, hx⟩ : ∃ x, ls[k]? = some x := ⟨_, List.getElem?_eq_getElem hlt⟩
      have h' := (h.to hb1).to hB
      obtain ⟨⟨ig, is, ic⟩, many⟩ := x
      obtain ⟨bb, off, rfl, hb, c0, c1, c2, c3⟩ := row4 h'.row hx rfl
      have Hx := Lib.hid hx
      clear hx
      rcases h2 : itemB r ⟨ig, is, ic⟩ with _ | _
      · have E : Hid (linesB r ls = false) := lines_no Hx.out (by simp [lineB, h2])
        go_wp2_with (go_at_call 55; refine (isItem_any r ⟨ig, is, ic⟩ _ (by repeat (first | assumption | refine Lim.alloc ?_ _ | refine Lim.setCell ?_ (by first | (simp; done) | (simp; omega) | omega) _ | refine Lim.drew ?_))).mono ?_; rintro e w3 ⟨rfl, hb3⟩; obtain ⟨⟨hc3, hf3, hs3⟩, hz3⟩ := after hb3)
        go_ret
        refine ⟨retB E.out.symm, ?_⟩
        (repeat (first | exact Below.refl _ _ | refine Below.setCell ?_ (by first | omega | (simp; omega) | (simp; done)) _ | refine Below.alloc ?_ (by first | omega | (simp; omega) | (simp; done)) _ | refine Below.drew ?_ | refine below_drewN ?_ _ | refine Below.trans ?_ (Below.mono (by assumption) (by first | omega | (simp; omega) | (simp; done)))))
      · rcases h3 : limB 11 many with _ | _
        · have E : Hid (linesB r ls = false) := lines_no Hx.out (by simp [lineB, h3])
          go_wp2_with (first | (go_at_call 55; refine (isItem_any r ⟨ig, is, ic⟩ _ (by repeat (first | assumption | refine Lim.alloc ?_ _ | refine Lim.setCell ?_ (by first | (simp; done) | (simp; omega) | omega) _ | refine Lim.drew ?_))).mono ?_; rintro e w3 ⟨rfl, hb3⟩; obtain ⟨⟨hc3, hf3, hs3⟩, hz3⟩ := after hb3; (try simp only [World.size_alloc] at hz3); have hl3 : Lim w3 := Lim.next (by repeat (first | assumption | refine Lim.alloc ?_ _ | refine Lim.setCell ?_ (by first | (simp; done) | (simp; omega) | omega) _ | refine Lim.drew ?_)) hb3) | (go_at_call 28; refine (within_any _ _ _ (by omega) (by omega) (by repeat (first | assumption | refine Lim.alloc ?_ _ | refine Lim.setCell ?_ (by first | (simp; done) | (simp; omega) | omega) _ | refine Lim.drew ?_))).mono ?_; rintro e w4 ⟨rfl, hb4⟩; have hz4 := hb4.size; (try simp only [World.size_alloc] at hz4)))
          go_ret
          refine ⟨retB E.out.symm, ?_⟩
          (repeat (first | exact Below.refl _ _ | refine Below.setCell ?_ (by first | omega | (simp; omega) | (simp; done)) _ | refine Below.alloc ?_ (by first | omega | (simp; omega) | (simp; done)) _ | refine Below.drew ?_ | refine below_drewN ?_ _ | refine Below.trans ?_ (Below.mono (by assumption) (by first | omega | (simp; omega) | (simp; done)))))
        · have hst : Hid ((ls.take (k + 1)).all (lineB r) = true) := by
            obtain ⟨hk', hx'⟩ := List.getElem?_eq_some_iff.1 Hx.out
            unfold Hid
            rw [List.take_succ_eq_append_getElem hk', List.all_append, hall.out, hx']
            simp [lineB, h2, h3]
          go_wp2_with (first | (go_at_call 55; refine (isItem_any r ⟨ig, is, ic⟩ _ (by repeat (first | assumption | refine Lim.alloc ?_ _ | refine Lim.setCell ?_ (by first | (simp; done) | (simp; omega) | omega) _ | refine Lim.drew ?_))).mono ?_; rintro e w3 ⟨rfl, hb3⟩; obtain ⟨⟨hc3, hf3, hs3⟩, hz3⟩ := after hb3; (try simp only [World.size_alloc] at hz3); have hl3 : Lim w3 := Lim.next (by repeat (first | assumption | refine Lim.alloc ?_ _ | refine Lim.setCell ?_ (by first | (simp; done) | (simp; omega) | omega) _ | refine Lim.drew ?_)) hb3) | (go_at_call 28; refine (within_any _ _ _ (by omega) (by omega) (by repeat (first | assumption | refine Lim.alloc ?_ _ | refine Lim.setCell ?_ (by first | (simp; done) | (simp; omega) | omega) _ | refine Lim.drew ?_))).mono ?_; rintro e w4 ⟨rfl, hb4⟩; have hz4 := hb4.size; (try simp only [World.size_alloc] at hz4)))
          go_roundw
          case rel => exact ⟨k + 1, by omega, by go_num, by (repeat (first | exact Below.refl _ _ | refine Below.setCell ?_ (by first | omega | (simp; omega) | (simp; done)) _ | refine Below.alloc ?_ (by first | omega | (simp; omega) | (simp; done)) _ | refine Below.drew ?_ | refine below_drewN ?_ _ | refine Below.trans ?_ (Below.mono (by assumption) (by first | omega | (simp; omega) | (simp; done))))), hst⟩
          case measure => simp [intOf]; omega
    · obtain rfl : k = ls.length := by omega
      have E : Hid (linesB r ls = true) := by have := hall.out; rw [List.take_length] at this; unfold Hid linesB; rw [H1.out, this]; rfl
      go_wp2
      go_ret
      refine ⟨retB E.out.symm, ?_⟩
      (repeat (first | exact Below.refl _ _ | refine Below.setCell ?_ (by first | omega | (simp; omega) | (simp; done)) _ | refine Below.alloc ?_ (by first | omega | (simp; omega) | (simp; done)) _ | refine Below.drew ?_ | refine below_drewN ?_ _ | refine Below.trans ?_ (Below.mono (by assumption) (by first | omega | (simp; omega) | (simp; done)))))
end Go.Proofs.YtpcajmkmmkmekaaGreatDoor

/- Contracts of sumOn. -/
namespace Go.Proofs.YtpcajmkmmkmekaaGreatDoor
open Go Go.RowKit
set_option maxHeartbeats 2000000
structure Quote where
  ad : Option Addr
  cap : Nat
  offs : List (Issue × Int)
  paid : Int
abbrev Quote.slice (q : Quote) : Value := .slice q.ad q.offs.length q.cap
def Quote.cells (q : Quote) : List Value := [q.slice, vi q.paid]
structure QuotesAt (w : World) (B : Nat) (A : Option Addr) (cap : Nat) (l : List Quote) : Prop where
  len : l.length ≤ cap
  cap : cap ≤ 17592186044416
  row : RowAt w B 2 A (l.map Quote.cells)
  each : ∀ q, q ∈ l → RowsAt w B 5 q.ad q.cap (q.offs.map offC)
theorem RowsAt.keep {w w' : World} {B sz cap : Nat} {A : Option Addr} {m : List (List Value)} (h : RowsAt w B sz A cap m) (hk : ∀ p : Addr, p.block < B → w'.cell? p = w.cell? p) : RowsAt w' B sz A cap m := ⟨h.len, h.cap, h.row.keep hk⟩
theorem RowsAt.more {w : World} {B B' sz cap : Nat} {A : Option Addr} {m : List (List Value)} (h : RowsAt w B sz A cap m) (hB : B ≤ B') : RowsAt w B' sz A cap m := ⟨h.len, h.cap, h.row.more hB⟩
theorem QuotesAt.to {w w' : World} {cap : Nat} {A : Option Addr} {l : List Quote} (h : QuotesAt w w.heap.size A cap l) (hb : Below w.heap.size w w') : QuotesAt w' w'.heap.size A cap l :=
  ⟨h.len, h.cap, (h.row.keep fun p hp => hb.cell hp).more hb.size, fun q hq => (h.each q hq).to hb⟩
theorem row2 {w : World} {B : Nat} {A : Option Addr} {α : Type} {enc : α → List Value} {l : List α} (h : RowAt w B 2 A (l.map enc)) {k : Nat} {x : α} {c0 c1 : Value} (hx : l[k]? = some x) (he : enc x = [c0, c1]) :
    ∃ b off, A = some ⟨b, off, none⟩ ∧ b < B ∧ w.cell? ⟨b, off + k * 2, none⟩ = some c0 ∧ w.cell? ⟨b, off + k * 2 + 1, none⟩ = some c1 := by
  have hk : k < l.length := (List.getElem?_eq_some_iff.1 hx).1
  obtain ⟨b, off, hA, hb, hc⟩ := h (by rw [List.length_map]; omega)
  have hr : (l.map enc)[k]? = some [c0, c1] := by rw [List.getElem?_map, hx]; simp [he]
  exact ⟨b, off, hA, hb, hc k _ hr 0 c0 (by omega) rfl, hc k _ hr 1 c1 (by omega) rfl⟩
def sumS (d : Int) (acc : Option Int) (q : Quote) : Option Int := match acc, priceF q.offs d with | some s, some p => some (wrap64 (s + wrap64 (p * q.paid))) | _, _ => none
def sumF (l : List Quote) (d : Int) : Option Int := l.foldl (sumS d) (some 0)
theorem sumF_succ {l : List Quote} {k : Nat} {x : Quote} (h : l[k]? = some x) (d : Int) : sumF (l.take (k + 1)) d = sumS d (sumF (l.take k) d) x := by
  obtain ⟨hk, rfl⟩ := List.getElem?_eq_some_iff.1 h
  rw [List.take_succ_eq_append_getElem hk, sumF, List.foldl_append]
  rfl
theorem sumF_none (d : Int) (l : List Quote) : l.foldl (sumS d) none = none := by
  induction l with
  | nil => rfl
  | cons x l ih => exact ih
theorem sumF_stop {l : List Quote} {k : Nat} {d : Int} (h : sumF (l.take k) d = none) : sumF l d = none := by
  have e : sumF l d = (l.drop k).foldl (sumS d) (sumF (l.take k) d) := by
    unfold sumF
    rw [← List.foldl_append, List.take_append_drop]
  rw [e, h, sumF_none]
theorem sumOn_any (d : Int) (A : Option Addr) (cap : Nat) (l : List Quote) (w : World) (h : QuotesAt w w.heap.size A cap l) :
    Calls Tryz.prog 65 #[.slice A l.length cap, vi d] w fun e w' => e = .returned (maybeV (sumF l d)) ∧ Below w.heap.size w w' := by
  have hcap := h.cap
  have hlen := h.len
  go_enter Tryz.func65, Tryz.ntmps65
  go_wp2
  go_loopw [6, 13] (fun s i wr => ∃ k : Nat, k ≤ l.length ∧ i = .int .i64 k ∧ Below w.heap.size w wr ∧ ∃ n, s = vi n ∧ Hid (sumF (l.take k) d = some n)) (fun _ i _ => l.length - (intOf i).toNat)
  case atStart => exact ⟨0, Nat.zero_le _, rfl, Below.refl _ _, 0, rfl, by simp [Hid, sumF]⟩
  case round =>
    obtain ⟨k, hk, rfl, hB, n, rfl, hS⟩ := hrel
    have hbs := hB.size
    by_cases hlt : k < l.length
    · obtain ⟨x, hx⟩ : ∃ x, l[k]? = some x := ⟨_, List.getElem?_eq_getElem hlt⟩
      have HX := Lib.hid (sumF_succ hx d)
      have hq := ((h.to hB).each x (List.mem_of_getElem? hx))
      obtain ⟨qA, qc, ql, paid⟩ := x
      obtain ⟨bb, off, rfl, hb, c0, c1⟩ := row2 (h.to hB).row hx rfl
      clear hx
      rcases hp : priceF ql d with _ | p
      · have E : Hid (sumF l d = none) := sumF_stop (k := k + 1) (by rw [HX.out, hS.out]; simp [sumS, hp])
        go_wp2_with (go_at_call 56; refine (priceOn_is hp qA qc _ (hq.to (by (repeat (first | exact Below.refl _ _ | refine Below.setCell ?_ (by first | omega | (simp; omega) | (simp; done)) _ | refine Below.alloc ?_ (by first | omega | (simp; omega) | (simp; done)) _ | refine Below.drew ?_ | refine below_drewN ?_ _ | refine Below.trans ?_ (Below.mono (by assumption) (by first | omega | (simp; omega) | (simp; done)))))))).mono ?_; rintro e w3 ⟨rfl, hb3⟩; obtain ⟨⟨hc3, hf3, hs3⟩, hz3⟩ := after hb3; (try simp only [World.size_alloc] at hz3))
        go_ret2
        refine ⟨by rw [E.out]; rfl, ?_⟩
        (repeat (first | exact Below.refl _ _ | refine Below.setCell ?_ (by first | omega | (simp; omega) | (simp; done)) _ | refine Below.alloc ?_ (by first | omega | (simp; omega) | (simp; done)) _ | refine Below.drew ?_ | refine below_drewN ?_ _ | refine Below.trans ?_ (Below.mono (by assumption) (by first | omega | (simp; omega) | (simp; done)))))
      · have E : Hid (sumF (l.take (k + 1)) d = some (wrap64 (n + wrap64 (p * paid)))) := by unfold Hid; rw [HX.out, hS.out]; simp [sumS, hp]
        go_wp2_with (go_at_call 56; refine (priceOn_is hp qA qc _ (hq.to (by (repeat (first | exact Below.refl _ _ | refine Below.setCell ?_ (by first | omega | (simp; omega) | (simp; done)) _ | refine Below.alloc ?_ (by first | omega | (simp; omega) | (simp; done)) _ | refine Below.drew ?_ | refine below_drewN ?_ _ | refine Below.trans ?_ (Below.mono (by assumption) (by first | omega | (simp; omega) | (simp; done)))))))).mono ?_; rintro e w3 ⟨rfl, hb3⟩; obtain ⟨⟨hc3, hf3, hs3⟩, hz3⟩ := after hb3; (try simp only [World.size_alloc] at hz3); have hq3 : wr.heap.size < w3.heap.size := (by omega))
        go_roundw
        case rel => exact ⟨k + 1, by omega, by go_num, by (repeat (first | exact Below.refl _ _ | refine Below.setCell ?_ (by first | omega | (simp; omega) | (simp; done)) _ | refine Below.alloc ?_ (by first | omega | (simp; omega) | (simp; done)) _ | refine Below.drew ?_ | refine below_drewN ?_ _ | refine Below.trans ?_ (Below.mono (by assumption) (by first | omega | (simp; omega) | (simp; done))))), _, rfl, E⟩
        case measure => simp [intOf]; omega
    · obtain rfl : k = l.length := by omega
      have E : Hid (sumF l d = some n) := by have := hS.out; rwa [List.take_length] at this
      go_wp2
      go_ret2
      refine ⟨by rw [E.out]; rfl, ?_⟩
      (repeat (first | exact Below.refl _ _ | refine Below.setCell ?_ (by first | omega | (simp; omega) | (simp; done)) _ | refine Below.alloc ?_ (by first | omega | (simp; omega) | (simp; done)) _ | refine Below.drew ?_ | refine below_drewN ?_ _ | refine Below.trans ?_ (Below.mono (by assumption) (by first | omega | (simp; omega) | (simp; done)))))
end Go.Proofs.YtpcajmkmmkmekaaGreatDoor

