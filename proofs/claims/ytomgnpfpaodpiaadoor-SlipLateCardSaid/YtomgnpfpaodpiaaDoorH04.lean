/- Contracts of areShelves, isValid, Check, checkSlip. -/
import Derived.Test.YtomgnpfpaodpiaaDoorH03
set_option linter.unusedVariables false
set_option linter.unusedSimpArgs false
namespace Go.Proofs.YtomgnpfpaodpiaaDoor
open Go Go.RowKit
set_option maxHeartbeats 4000000
def climbsAt (l : List Int) (k : Nat) (x : Int) : Bool := match k with | 0 => true | i + 1 => (match l[i]? with | some p => decide (p ≤ x) | none => true)
theorem goodShelf_of {f : Floor} {k : Nat} {x : Int} {q : Int × Int} (h : f.far[k]? = some x) (h2 : f.picks[k]? = some q) : goodShelf f k = ((hasB 0 500 x && climbsAt f.far k x) && withinB 0 300 q.1 q.2) := by
  unfold goodShelf
  rw [h, h2]
  rfl
set_option maxRecDepth 100000 in
theorem areShelves_any (f : Floor) (w : World) (hl : Lim w) (h : FloorAt w w.heap.size f) :
    Calls Tryd.prog 89 #[f.val] w fun e w' => e = .returned (.bool (shelvesB f)) ∧ Below w.heap.size w w' := by
  have h1l := h.far.lens
  have h2l := h.picks.lens
  have c1 := h.far.cap
  have c2 := h.picks.cap
  have HL := Lib.hid hl
  have HF := Lib.hid h.far
  have HP := Lib.hid h.picks
  have GS : Hid (∀ (k : Nat) (x : Int) (q : Int × Int), f.far[k]? = some x → f.picks[k]? = some q → goodShelf f k = ((hasB 0 500 x && climbsAt f.far k x) && withinB 0 300 q.1 q.2)) := fun k x q a b => goodShelf_of a b
  have HSB : Hid (shelvesB f = ((hasB 1 12 f.far.length && decide ((f.picks.length : Int) = f.far.length)) && (List.range f.far.length).all (goodShelf f))) := rfl
  obtain ⟨gs, hgs⟩ : ∃ gs, gs = goodShelf f := ⟨_, rfl⟩
  obtain ⟨an, han⟩ : ∃ an, an = shelvesB f := ⟨_, rfl⟩
  rw [← hgs] at GS HSB
  rw [← han] at HSB ⊢
  clear h hgs han
  obtain ⟨fA, fC, ff, slo, shi, pA, pC, fp, fc, sA, sC, fs⟩ := f
  simp only at h1l h2l c1 c2 HF HP GS HSB
  show Calls Tryd.prog 89 #[.agg #[.slice fA ff.length fC, vi slo, vi shi, .slice pA fp.length pC, vi fc, .slice sA fs.length sC]] w fun e w' => e = .returned (.bool an) ∧ Below w.heap.size w w'
  obtain ⟨r0, r1⟩ := hl.row 0 (by omega) (a := 1) (b := 12) (by decide) (by decide)
  have hp := hl.pos
  rcases h1 : hasB 1 12 ff.length with _ | _
  · have E : Hid (an = false) := by unfold Hid; rw [HSB.out, h1]; rfl
    have H1 := Lib.hid h1
    clear h1
    go_enter Tryd.func89, Tryd.ntmps89
    go_wp2_with (go_at_call 73; refine (has_is H1.out _).mono ?_; rintro e w1 ⟨rfl, hb1⟩; obtain ⟨⟨hc1, hf1, hs1⟩, hz1⟩ := after hb1; (try simp only [World.size_alloc, World.size_setCell, World.size_drew] at hz1))
    go_ret
    refine ⟨retB E.out.symm, ?_⟩
    (repeat (first | exact Below.refl _ _ | refine Below.setCell ?_ (by first | omega | (simp; omega) | (simp; done)) _ | refine Below.alloc ?_ (by first | omega | (simp; omega) | (simp; done)) _ | refine Below.drew ?_ | refine below_drewN ?_ _ | refine Below.trans ?_ (Below.mono (by assumption) (by first | omega | (simp; omega) | (simp; done)))))
  have H1 := Lib.hid h1
  by_cases hpl : fp.length = ff.length
  · have FIN : Hid ((∀ k, k < ff.length → gs k = true) → an = true) := fun ha => by rw [HSB.out, h1]; exact all_yes (by simp [hpl]) ha
    have BAD : Hid (∀ k, k < ff.length → gs k = false → an = false) := fun k hk hg => by rw [HSB.out]; exact all_no hk hg
    have HPL := Lib.hid hpl
    have hpe : ((fp.length : Int) != (ff.length : Int)) = false := by simp [hpl]
    have hpe2 : ((fp.length : Int) == (ff.length : Int)) = true := by simp [hpl]
    clear h1 HSB hpl
    go_enter Tryd.func89, Tryd.ntmps89
    go_wp2_with fail
    refine (has_is H1.out _).mono ?_
    rintro e W ⟨rfl, hb⟩
    have HB0 : Below w.heap.size w W := by (repeat (first | exact Below.refl _ _ | refine Below.setCell ?_ (by first | omega | (simp; omega) | (simp; done)) _ | refine Below.alloc ?_ (by first | omega | (simp; omega) | (simp; done)) _ | refine Below.drew ?_ | refine below_drewN ?_ _ | refine Below.trans ?_ (Below.mono (by assumption) (by first | omega | (simp; omega) | (simp; done)))))
    have a0 : W.cell? ⟨w.heap.size, 0, none⟩ = some (.slice fA ff.length fC) := cell_keep hb (by simp [go_sem])
    have a3 : W.cell? ⟨w.heap.size, 3, none⟩ = some (.slice pA fp.length pC) := cell_keep hb (by simp [go_sem])
    have za := cell_lt a0
    clear hb r0 r1 hp
    go_wp2_with fail
    go_loopw [28] (fun i wr => ∃ k : Nat, k ≤ ff.length ∧ i = .int .i64 k ∧ Below W.heap.size W wr ∧ Hid (∀ j, j < k → gs j = true)) (fun i _ => ff.length - (intOf i).toNat)
    case atStart => exact ⟨0, Nat.zero_le _, rfl, Below.refl _ _, fun j hj => absurd hj (by omega)⟩
    clear za
    obtain ⟨k, hk, rfl, hB, HA⟩ := hrel
    have HBr : Below w.heap.size w wr := HB0.trans (hB.mono HB0.size)
    have hLr : Lim wr := HL.out.next HBr
    obtain ⟨r0, r1⟩ := hLr.row 1 (by omega) (a := 0) (b := 500) (by decide) (by decide)
    have hp := hLr.pos
    have a0r := cell_keep hB a0
    have a3r := cell_keep hB a3
    have za : w.heap.size < wr.heap.size := cell_lt a0r
    by_cases hlt : k < ff.length
    · obtain ⟨x, hx⟩ : ∃ x, ff[k]? = some x := ⟨_, List.getElem?_eq_getElem hlt⟩
      obtain ⟨q, hq⟩ : ∃ q, fp[k]? = some q := ⟨_, List.getElem?_eq_getElem (by have := HPL.out; omega)⟩
      obtain ⟨bb, off, rfl, hbb, x0⟩ := ints_at (HF.out.to HBr) hx
      obtain ⟨pb, po, rfl, hpb, q0, q1⟩ := row2 (HP.out.to HBr).row hq rfl
      have G := Lib.hid (GS.out k x q hx hq)
      have hkI : (k : Int) < ff.length := by omega
      have hkP : (k : Int) < fp.length := by have := HPL.out; omega
      have h0k : (0 : Int) ≤ k := by omega
      have zbb : bb < wr.heap.size := cell_lt x0
      have zpb : pb < wr.heap.size := cell_lt q0
      obtain ⟨q1v, q2v⟩ := q
      simp only at q0 q1 G
      rcases g1 : hasB 0 500 x with _ | _
      · have E : Hid (an = false) := BAD.out k hlt (by rw [G.out, g1]; simp)
        have G1 := Lib.hid g1
        clear g1 hx hq
        go_wp2_with (go_at_call 73; refine (has_is G1.out _).mono ?_; rintro e w1 ⟨rfl, hb1⟩; obtain ⟨⟨hc1, hf1, hs1⟩, hz1⟩ := after hb1; (try simp only [World.size_alloc, World.size_setCell, World.size_drew] at hz1))
        go_ret
        refine ⟨retB E.out.symm, ?_⟩
        (repeat (first | exact Below.refl _ _ | refine Below.setCell ?_ (by first | omega | (simp; omega) | (simp; done)) _ | refine Below.alloc ?_ (by first | omega | (simp; omega) | (simp; done)) _ | refine Below.drew ?_ | refine below_drewN ?_ _ | refine Below.trans ?_ (Below.mono (by assumption) (by first | omega | (simp; omega) | (simp; done)))))
      have G1 := Lib.hid g1
      -- the shelf before it
      have KEY : Hid (∀ wq : World, Below wr.heap.size wr wq → climbsAt ff k x = false → k ≠ 0 ∧ ∃ y : Int, wq.cell? ⟨bb, off + (k - 1), none⟩ = some (vi y) ∧ x < y) := by
        intro wq hwq hc
        rcases k with _ | i
        · simp [climbsAt] at hc
        · have hy : ff[i]? = some ff[i] := List.getElem?_eq_getElem (by omega)
          simp only [climbsAt, hy, decide_eq_false_iff_not] at hc
          obtain ⟨b2, o2, he, _, y0⟩ := ints_at (HF.out.to HBr) hy
          simp only [Option.some.injEq, Addr.mk.injEq, and_true] at he
          obtain ⟨rfl, rfl⟩ := he
          exact ⟨by omega, ff[i], cell_keep hwq (by simpa using y0), by omega⟩
      have KEY2 : Hid (∀ wq : World, Below wr.heap.size wr wq → climbsAt ff k x = true → k ≠ 0 → ∃ y : Int, wq.cell? ⟨bb, off + (k - 1), none⟩ = some (vi y) ∧ y ≤ x) := by
        intro wq hwq hc hk0
        rcases k with _ | i
        · exact absurd rfl hk0
        · have hy : ff[i]? = some ff[i] := List.getElem?_eq_getElem (by omega)
          simp only [climbsAt, hy, decide_eq_true_eq] at hc
          obtain ⟨b2, o2, he, _, y0⟩ := ints_at (HF.out.to HBr) hy
          simp only [Option.some.injEq, Addr.mk.injEq, and_true] at he
          obtain ⟨rfl, rfl⟩ := he
          exact ⟨ff[i], cell_keep hwq (by simpa using y0), hc⟩
      clear hx hq
      go_wp2_with fail
      refine (has_is G1.out _).mono ?_
      rintro e w1 ⟨rfl, hb1⟩
      have hB1 : Below W.heap.size W w1 := gr_trans hB hb1
      have HB1 : Below w.heap.size w w1 := HBr.trans (hb1.mono HBr.size)
      have hL1 : Lim w1 := HL.out.next HB1
      obtain ⟨s0, s1⟩ := hL1.row 3 (by omega) (a := 0) (b := 300) (by decide) (by decide)
      have hp1 := hL1.pos
      have a01 := cell_keep hb1 a0r
      have a31 := cell_keep hb1 a3r
      have q01 := cell_keep hb1 q0
      have q11 := cell_keep hb1 q1
      have x01 := cell_keep hb1 x0
      have za1 : w.heap.size < w1.heap.size := cell_lt a01
      have zp1 : pb < w1.heap.size := cell_lt q01
      have zb1 : bb < w1.heap.size := cell_lt x01
      rcases hc : climbsAt ff k x with _ | _
      · obtain ⟨hk0, y, hy, hxy⟩ := KEY.out w1 hb1 hc
        have E : Hid (an = false) := BAD.out k hlt (by rw [G.out, hc]; simp)
        obtain ⟨i, rfl⟩ : ∃ i, k = i + 1 := ⟨k - 1, by omega⟩
        have hy' : w1.cell? ⟨bb, off + i, none⟩ = some (vi y) := by simpa using hy
        have hgt : (0 : Int) < (i : Int) + 1 := by omega
        have hiI : (i : Int) < ff.length := by omega
        have h0i : (0 : Int) ≤ i := by omega
        have hd : decide (x < y) = true := by simpa using hxy
        clear hy hxy hc hk0 g1 KEY KEY2 HA hLr hL1 hb1
        go_wp2_with fail
        go_ret
        exact ⟨retB E.out.symm, HB1⟩
      · obtain ⟨v, g3⟩ : ∃ v, withinB 0 300 q1v q2v = v := ⟨_, rfl⟩
        have G3 := Lib.hid g3
        have EV : Hid (gs k = v) := by unfold Hid; rw [G.out, g1, hc, g3]; rfl
        clear g3
        rcases Nat.eq_zero_or_pos k with hk0 | hk0
        · subst hk0
          simp only [Nat.zero_mul, Nat.add_zero] at q01 q11 x01
          clear hc g1 KEY KEY2 hLr hL1
          rcases v with _ | _
          · have E : Hid (an = false) := BAD.out 0 hlt EV.out
            go_wp2_with fail
            (refine wp_region_grow_lit (by kernel_rfl) (by kernel_rfl) ?_; (repeat (go_big_quiet_step ((go_at_call 90; refine Calls.grow_of (within_is G3.out _))))); refine wpQuiet_nil ?_; intro w1 hw1; have hb1 := below_of_plus hw1; clear hw1; obtain ⟨⟨hc1, hf1, hs1⟩, hz1⟩ := after hb1; (try simp only [World.size_alloc, World.size_setCell, World.size_drew] at hz1))
            have hbk : Below w.heap.size w w1 := HB1.trans (hb1.mono HB1.size)
            clear hc1 hf1 hs1 hz1 hb1
            go_wp2_with fail
            go_ret
            exact ⟨retB E.out.symm, hbk⟩
          · have HA2 : Hid (∀ j, j < 0 + 1 → gs j = true) := upto_succ HA.out EV.out
            go_wp2_with fail
            (refine wp_region_grow_lit (by kernel_rfl) (by kernel_rfl) ?_; (repeat (go_big_quiet_step ((go_at_call 90; refine Calls.grow_of (within_is G3.out _))))); refine wpQuiet_nil ?_; intro w1 hw1; have hb1 := below_of_plus hw1; clear hw1; obtain ⟨⟨hc1, hf1, hs1⟩, hz1⟩ := after hb1; (try simp only [World.size_alloc, World.size_setCell, World.size_drew] at hz1))
            have hbk : Below W.heap.size W w1 := gr_trans hB1 (by (repeat (first | exact Below.refl _ _ | refine Below.setCell ?_ (by first | omega | (simp; omega) | (simp; done)) _ | refine Below.alloc ?_ (by first | omega | (simp; omega) | (simp; done)) _ | refine Below.drew ?_ | refine below_drewN ?_ _ | refine Below.trans ?_ (Below.mono (by assumption) (by first | omega | (simp; omega) | (simp; done))))))
            clear hc1 hf1 hs1 hz1 hb1
            go_wp2_with fail
            go_roundw
            case rel => exact ⟨1, by omega, by go_num, hbk, HA2.out⟩
            case measure => simp [intOf]; omega
        · obtain ⟨y, hy, hxy⟩ := KEY2.out w1 hb1 hc (by omega)
          obtain ⟨i, rfl⟩ : ∃ i, k = i + 1 := ⟨k - 1, by omega⟩
          have hy' : w1.cell? ⟨bb, off + i, none⟩ = some (vi y) := by simpa using hy
          have hgt : (0 : Int) < (i : Int) + 1 := by omega
          have hiI : (i : Int) < ff.length := by omega
          have h0i : (0 : Int) ≤ i := by omega
          have hd : decide (x < y) = false := by simp; omega
          have hkP' : (i : Int) + 1 < fp.length := by omega
          clear hy hxy hc hk0 g1 KEY KEY2 hLr hL1 hb1
          rcases v with _ | _
          · have E : Hid (an = false) := BAD.out (i + 1) hlt EV.out
            go_wp2_with fail
            (refine wp_region_grow_lit (by kernel_rfl) (by kernel_rfl) ?_; (repeat (go_big_quiet_step ((go_at_call 90; refine Calls.grow_of (within_is G3.out _))))); refine wpQuiet_nil ?_; intro w1 hw1; have hb1 := below_of_plus hw1; clear hw1; obtain ⟨⟨hc1, hf1, hs1⟩, hz1⟩ := after hb1; (try simp only [World.size_alloc, World.size_setCell, World.size_drew] at hz1))
            have hbk : Below w.heap.size w w1 := HB1.trans (hb1.mono HB1.size)
            clear hc1 hf1 hs1 hz1 hb1
            go_wp2_with fail
            go_ret
            exact ⟨retB E.out.symm, hbk⟩
          · have HA2 : Hid (∀ j, j < i + 1 + 1 → gs j = true) := upto_succ HA.out EV.out
            go_wp2_with fail
            (refine wp_region_grow_lit (by kernel_rfl) (by kernel_rfl) ?_; (repeat (go_big_quiet_step ((go_at_call 90; refine Calls.grow_of (within_is G3.out _))))); refine wpQuiet_nil ?_; intro w1 hw1; have hb1 := below_of_plus hw1; clear hw1; obtain ⟨⟨hc1, hf1, hs1⟩, hz1⟩ := after hb1; (try simp only [World.size_alloc, World.size_setCell, World.size_drew] at hz1))
            have hbk : Below W.heap.size W w1 := gr_trans hB1 (by (repeat (first | exact Below.refl _ _ | refine Below.setCell ?_ (by first | omega | (simp; omega) | (simp; done)) _ | refine Below.alloc ?_ (by first | omega | (simp; omega) | (simp; done)) _ | refine Below.drew ?_ | refine below_drewN ?_ _ | refine Below.trans ?_ (Below.mono (by assumption) (by first | omega | (simp; omega) | (simp; done))))))
            clear hc1 hf1 hs1 hz1 hb1
            go_wp2_with fail
            go_roundw
            case rel => exact ⟨i + 2, by omega, by go_num, hbk, HA2.out⟩
            case measure => simp [intOf]; omega
    · obtain rfl : k = ff.length := by omega
      have E : Hid (an = true) := FIN.out HA.out
      go_wp2_with fail
      go_ret
      exact ⟨retB E.out.symm, HBr⟩
  · have E : Hid (an = false) := by unfold Hid; rw [HSB.out]; have : ¬ (fp.length : Int) = ff.length := (by omega); simp [this]
    have hpe : ((fp.length : Int) != (ff.length : Int)) = true := by simp; omega
    have hpe2 : ((fp.length : Int) == (ff.length : Int)) = false := by simp; omega
    clear h1 hpl
    go_enter Tryd.func89, Tryd.ntmps89
    go_wp2_with fail
    refine (has_is H1.out _).mono ?_
    rintro e W ⟨rfl, hb⟩
    have HB0 : Below w.heap.size w W := by (repeat (first | exact Below.refl _ _ | refine Below.setCell ?_ (by first | omega | (simp; omega) | (simp; done)) _ | refine Below.alloc ?_ (by first | omega | (simp; omega) | (simp; done)) _ | refine Below.drew ?_ | refine below_drewN ?_ _ | refine Below.trans ?_ (Below.mono (by assumption) (by first | omega | (simp; omega) | (simp; done)))))
    have a0 : W.cell? ⟨w.heap.size, 0, none⟩ = some (.slice fA ff.length fC) := cell_keep hb (by simp [go_sem])
    have a3 : W.cell? ⟨w.heap.size, 3, none⟩ = some (.slice pA fp.length pC) := cell_keep hb (by simp [go_sem])
    have za := cell_lt a0
    clear hb r0 r1 hp
    go_wp2_with fail
    go_ret
    exact ⟨retB E.out.symm, HB0⟩
end Go.Proofs.YtomgnpfpaodpiaaDoor

