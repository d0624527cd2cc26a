/- Contracts of the specification's Price and Last. -/
import Derived.Test.YtpcajmkmmkmekaaGreatDoorXE6
import Derived.Test.YtpcajmkmmkmekaaGreatDoorXD5
import Derived.Test.YtpcajmkmmkmekaaGreatDoorXD4
set_option linter.unusedVariables false
set_option linter.unusedSimpArgs false
namespace Go.Proofs.YtpcajmkmmkmekaaGreatDoor
open Go Go.RowKit
set_option maxHeartbeats 4000000
theorem cost_is' {r : Rack} {d : Int} {it : Item} {c : Int} (hc : costN r.issues d it = c) (hok : RackOk r) (hc0 : 0 ≤ it.colour) (hc3 : it.colour ≤ 3) (w : World) (h : RackAt w w.heap.size r) :
    Calls Tryz.prog 60 #[r.val, vi d, it.val] w fun e w' => e = .returned (vi c) ∧ Below w.heap.size w w' := by
  subst hc
  exact cost_any r d it hok hc0 hc3 w h
theorem cost_cases {r : Rack} (hok : RackOk r) (d : Int) (it : Item) : (costN r.issues d it = 0 ∧ priceO r d it = none) ∨ ∃ p, 1 ≤ p ∧ costN r.issues d it = p ∧ priceO r d it = some p := by
  have h := cost_is hok d it
  cases hp : priceO r d it with
  | none => rw [hp] at h; exact .inl ⟨h, rfl⟩
  | some p => rw [hp] at h; exact .inr ⟨p, (price_pos hok hp).1, h, rfl⟩
theorem price_ref (r : Rack) (d : Int) (it : Item) : askedE r (limB 3 d && rItemB r.goods it) = if validB r then if priceAsk r d it then 0 else 11 else 10 := by
  unfold askedE
  cases hv : validB r with
  | false => rfl
  | true => rw [rItem_is hv]; rfl
set_option maxRecDepth 100000 in
theorem rPrice_any (r : Rack) (d : Int) (it : Item) (w : World) (h : RackAt w w.heap.size r) :
    Calls Tryz.prog 18 #[r.val, vi d, it.val] w fun e' w' => e' = .returned (.tuple #[vi (priceV r d it), vi (priceErr r d it)]) ∧ Below w.heap.size w w' := by
  by_cases hv : validB r = true
  · by_cases ha : priceAsk r d it = true
    · have he : askedE r true = 0 := by simp [askedE, hv]
      have HE := Lib.hid he
      have hok := rack_ok hv
      have OK := Lib.hid hok
      have HR := Lib.hid h
      have hrs : priceErr r d it = (if (priceO r d it).isSome then 0 else 4) ∧ priceV r d it = (priceO r d it).getD 0 := by simp [priceErr, priceV, hv, ha]
      rw [priceAsk, Bool.and_eq_true] at ha
      have hcol := item_colour ha.2
      have Q1 := Lib.hid ha.1
      have Q2 : Hid (rItemB r.goods it = true) := by unfold Hid; rw [rItem_is hv]; exact ha.2
      have hcap := IssuesAt.cap h
      have hlen := IssuesAt.len h
      have hcs := cost_cases hok d it
      rw [hrs.1, hrs.2]
      clear he ha hv hrs hok h
      rcases hcs with ⟨k1, k2⟩ | ⟨p, k0, k1, k2⟩
      · rw [k2]
        have HC := Lib.hid k1
        clear k1 k2
        obtain ⟨rg, rA, rcap, ri⟩ := r
        obtain ⟨ig, is, ic⟩ := it
        simp only at hcap hlen hcol
        show Calls Tryz.prog 18 #[.agg #[vi rg, .slice rA ri.length rcap], vi d, .agg #[vi ig, vi is, vi ic]] w _
        go_enter Tryz.func18, Tryz.ntmps18
        go_wp2_with fail
        (refine wp_region_grow_lit (by kernel_rfl) (by kernel_rfl) ?_; (repeat (go_big_quiet_step (first | (go_at_call 45; refine Calls.grow_same (risDay_is Q1.out _)) | (go_at_call 59; refine Calls.grow_of (risItem_is (r := ⟨rg, rA, rcap, ri⟩) (it := ⟨ig, is, ic⟩) Q2.out _)) | (go_at_call 30; refine Calls.grow_of (asked_is HE.out _ (HR.out.to (by (repeat (first | exact Below.refl _ _ | refine Below.setCell ?_ (by first | omega | (simp; omega) | (simp; done)) _ | refine Below.alloc ?_ (by first | omega | (simp; omega) | (simp; done)) _ | refine Below.drew ?_ | refine below_drewN ?_ _ | refine Below.trans ?_ (Below.mono (plus_below _ _) (by first | omega | (simp; omega) | (simp; done))) | refine Below.trans ?_ (Below.mono (by assumption) (by first | omega | (simp; omega) | (simp; done)))))))))))); refine wpQuiet_nil ?_; intro w1 hw1; have hb1 := below_of_plus hw1; clear hw1; obtain ⟨⟨hc1, hf1, hs1⟩, hz1⟩ := after hb1; (try simp only [World.size_alloc, World.size_setCell, World.size_drew] at hz1))
        have HB1 : Below w.heap.size w w1 := by (repeat (first | exact Below.refl _ _ | refine Below.setCell ?_ (by first | omega | (simp; omega) | (simp; done)) _ | refine Below.alloc ?_ (by first | omega | (simp; omega) | (simp; done)) _ | refine Below.drew ?_ | refine below_drewN ?_ _ | refine Below.trans ?_ (Below.mono (by assumption) (by first | omega | (simp; omega) | (simp; done)))))
        have a0 : w1.cell? ⟨w.heap.size, 0, none⟩ = some (vi rg) := cell_keep hb1 (by simp [go_sem])
        have a1 : w1.cell? ⟨w.heap.size, 1, none⟩ = some (.slice rA ri.length rcap) := cell_keep hb1 (by simp [go_sem])
        have b0 : w1.cell? ⟨w.heap.size + 1, 0, none⟩ = some (vi ig) := cell_keep hb1 (by simp [go_sem])
        have b1 : w1.cell? ⟨w.heap.size + 1, 1, none⟩ = some (vi is) := cell_keep hb1 (by simp [go_sem])
        have b2 : w1.cell? ⟨w.heap.size + 1, 2, none⟩ = some (vi ic) := cell_keep hb1 (by simp [go_sem])
        have za := cell_lt a0
        have zb := cell_lt b0
        clear hc1 hf1 hs1 hb1 hz1
        go_wp2_with fail
        refine (cost_is' (r := ⟨rg, rA, rcap, ri⟩) (it := ⟨ig, is, ic⟩) HC.out OK.out hcol.1 hcol.2 _ (HR.out.to HB1)).mono ?_
        rintro e w2 ⟨rfl, hb2⟩
        go_wp2_with fail
        go_ret2
        exact ⟨rfl, HB1.trans (hb2.mono HB1.size)⟩
      · rw [k2]
        have HC := Lib.hid k1
        have hp0 : (p == 0) = false := by simp; omega
        clear k1 k2 k0
        obtain ⟨rg, rA, rcap, ri⟩ := r
        obtain ⟨ig, is, ic⟩ := it
        simp only at hcap hlen hcol
        show Calls Tryz.prog 18 #[.agg #[vi rg, .slice rA ri.length rcap], vi d, .agg #[vi ig, vi is, vi ic]] w _
        go_enter Tryz.func18, Tryz.ntmps18
        go_wp2_with fail
        (refine wp_region_grow_lit (by kernel_rfl) (by kernel_rfl) ?_; (repeat (go_big_quiet_step (first | (go_at_call 45; refine Calls.grow_same (risDay_is Q1.out _)) | (go_at_call 59; refine Calls.grow_of (risItem_is (r := ⟨rg, rA, rcap, ri⟩) (it := ⟨ig, is, ic⟩) Q2.out _)) | (go_at_call 30; refine Calls.grow_of (asked_is HE.out _ (HR.out.to (by (repeat (first | exact Below.refl _ _ | refine Below.setCell ?_ (by first | omega | (simp; omega) | (simp; done)) _ | refine Below.alloc ?_ (by first | omega | (simp; omega) | (simp; done)) _ | refine Below.drew ?_ | refine below_drewN ?_ _ | refine Below.trans ?_ (Below.mono (plus_below _ _) (by first | omega | (simp; omega) | (simp; done))) | refine Below.trans ?_ (Below.mono (by assumption) (by first | omega | (simp; omega) | (simp; done)))))))))))); refine wpQuiet_nil ?_; intro w1 hw1; have hb1 := below_of_plus hw1; clear hw1; obtain ⟨⟨hc1, hf1, hs1⟩, hz1⟩ := after hb1; (try simp only [World.size_alloc, World.size_setCell, World.size_drew] at hz1))
        have HB1 : Below w.heap.size w w1 := by (repeat (first | exact Below.refl _ _ | refine Below.setCell ?_ (by first | omega | (simp; omega) | (simp; done)) _ | refine Below.alloc ?_ (by first | omega | (simp; omega) | (simp; done)) _ | refine Below.drew ?_ | refine below_drewN ?_ _ | refine Below.trans ?_ (Below.mono (by assumption) (by first | omega | (simp; omega) | (simp; done)))))
        have a0 : w1.cell? ⟨w.heap.size, 0, none⟩ = some (vi rg) := cell_keep hb1 (by simp [go_sem])
        have a1 : w1.cell? ⟨w.heap.size, 1, none⟩ = some (.slice rA ri.length rcap) := cell_keep hb1 (by simp [go_sem])
        have b0 : w1.cell? ⟨w.heap.size + 1, 0, none⟩ = some (vi ig) := cell_keep hb1 (by simp [go_sem])
        have b1 : w1.cell? ⟨w.heap.size + 1, 1, none⟩ = some (vi is) := cell_keep hb1 (by simp [go_sem])
        have b2 : w1.cell? ⟨w.heap.size + 1, 2, none⟩ = some (vi ic) := cell_keep hb1 (by simp [go_sem])
        have za := cell_lt a0
        have zb := cell_lt b0
        clear hc1 hf1 hs1 hb1 hz1
        go_wp2_with fail
        refine (cost_is' (r := ⟨rg, rA, rcap, ri⟩) (it := ⟨ig, is, ic⟩) HC.out OK.out hcol.1 hcol.2 _ (HR.out.to HB1)).mono ?_
        rintro e w2 ⟨rfl, hb2⟩
        go_wp2_with fail
        go_ret2
        exact ⟨rfl, HB1.trans (hb2.mono HB1.size)⟩
    · have ha' : priceAsk r d it = false := by simpa using ha
      have hrs : priceErr r d it = 11 ∧ priceV r d it = 0 := by simp [priceErr, priceV, hv, ha']
      rw [hrs.1, hrs.2]
      exact rPrice_err r d it 11 (by rw [price_ref, if_pos hv, ha']; rfl) (.inr rfl) w h
  · have hv' : validB r = false := by simpa using hv
    have hrs : priceErr r d it = 10 ∧ priceV r d it = 0 := by simp [priceErr, priceV, hv']
    rw [hrs.1, hrs.2]
    exact rPrice_err r d it 10 (by rw [price_ref, hv']; rfl) (.inl rfl) w h
theorem last_ref (r : Rack) (it : Item) : askedE r (rItemB r.goods it) = if validB r then if itemB r it then 0 else 11 else 10 := by
  unfold askedE
  cases hv : validB r with
  | false => rfl
  | true => rw [rItem_is hv]
set_option maxRecDepth 100000 in
theorem rLast_any (r : Rack) (it : Item) (w : World) (h : RackAt w w.heap.size r) :
    Calls Tryz.prog 22 #[r.val, it.val] w fun e' w' => e' = .returned (.tuple #[vi (lastV r it), vi (lastErr r it)]) ∧ Below w.heap.size w w' := by
  by_cases hv : validB r = true
  · by_cases ha : itemB r it = true
    · have he : askedE r true = 0 := by simp [askedE, hv]
      have HE := Lib.hid he
      have hok := rack_ok hv
      have OK := Lib.hid hok
      have HR := Lib.hid h
      have hrs := last_ask hv ha
      have hcol := item_colour ha
      have Q2 : Hid (rItemB r.goods it = true) := by unfold Hid; rw [rItem_is hv]; exact ha
      have hcap := IssuesAt.cap h
      have hlen := IssuesAt.len h
      have hlt := last_turns hok it
      have hls : 0 < (lastOn r it).length → 0 ≤ lastF (lastOn r it) := fun hn => (last_some hok hn).1
      obtain ⟨lv, hlv⟩ : ∃ lv, lv = lastV r it := ⟨_, rfl⟩
      obtain ⟨le, hle⟩ : ∃ le, le = lastErr r it := ⟨_, rfl⟩
      have RES : Hid ((lastN r it r.issues < 0 → lv = 0 ∧ le = 4) ∧ (0 ≤ lastN r it r.issues → lv = lastN r it r.issues ∧ le = 0)) := by
        unfold Hid
        rw [hlv, hle, hrs.1, hrs.2, hlt]
        by_cases hn : 0 < (lastOn r it).length
        · have := hls hn
          simp [hn]
          try omega
        · simp [hn]
      rw [← hlv, ← hle]
      clear he ha hv hrs hok h hlt hls hlv hle
      obtain ⟨rg, rA, rcap, ri⟩ := r
      obtain ⟨ig, is, ic⟩ := it
      simp only at hcap hlen hcol RES
      obtain ⟨R, hRd⟩ : ∃ R : Rack, R = ⟨rg, rA, rcap, ri⟩ := ⟨_, rfl⟩
      obtain ⟨I, hId⟩ : ∃ I : Item, I = ⟨ig, is, ic⟩ := ⟨_, rfl⟩
      rw [← hRd, ← hId] at RES
      have CI : Hid (∀ d c, costN R.issues d I = c → ∀ W : World, Below w.heap.size w W → Calls Tryz.prog 60 #[.agg #[vi rg, .slice rA ri.length rcap], vi d, .agg #[vi ig, vi is, vi ic]] W fun e w' => e = .returned (vi c) ∧ Below W.heap.size W w') := by
        intro d c hc W hW
        rw [hRd, hId] at hc
        exact cost_is' (r := ⟨rg, rA, rcap, ri⟩) (it := ⟨ig, is, ic⟩) hc OK.out hcol.1 hcol.2 W (HR.out.to hW)
      clear hRd hId
      show Calls Tryz.prog 22 #[.agg #[vi rg, .slice rA ri.length rcap], .agg #[vi ig, vi is, vi ic]] w _
      go_enter Tryz.func22, Tryz.ntmps22
      go_wp2_with fail
      (refine wp_region_grow_lit (by kernel_rfl) (by kernel_rfl) ?_; (repeat (go_big_quiet_step (first | (go_at_call 59; refine Calls.grow_of (risItem_is (r := ⟨rg, rA, rcap, ri⟩) (it := ⟨ig, is, ic⟩) Q2.out _)) | (go_at_call 30; refine Calls.grow_of (asked_is HE.out _ (HR.out.to (by (repeat (first | exact Below.refl _ _ | refine Below.setCell ?_ (by first | omega | (simp; omega) | (simp; done)) _ | refine Below.alloc ?_ (by first | omega | (simp; omega) | (simp; done)) _ | refine Below.drew ?_ | refine below_drewN ?_ _ | refine Below.trans ?_ (Below.mono (plus_below _ _) (by first | omega | (simp; omega) | (simp; done))) | refine Below.trans ?_ (Below.mono (by assumption) (by first | omega | (simp; omega) | (simp; done)))))))))))); refine wpQuiet_nil ?_; intro w1 hw1; have hb1 := below_of_plus hw1; clear hw1; obtain ⟨⟨hc1, hf1, hs1⟩, hz1⟩ := after hb1; (try simp only [World.size_alloc, World.size_setCell, World.size_drew] at hz1))
      have HB1 : Below w.heap.size w w1 := by (repeat (first | exact Below.refl _ _ | refine Below.setCell ?_ (by first | omega | (simp; omega) | (simp; done)) _ | refine Below.alloc ?_ (by first | omega | (simp; omega) | (simp; done)) _ | refine Below.drew ?_ | refine below_drewN ?_ _ | refine Below.trans ?_ (Below.mono (by assumption) (by first | omega | (simp; omega) | (simp; done)))))
      have a0 : w1.cell? ⟨w.heap.size, 0, none⟩ = some (vi rg) := cell_keep hb1 (by simp [go_sem])
      have a1 : w1.cell? ⟨w.heap.size, 1, none⟩ = some (.slice rA ri.length rcap) := cell_keep hb1 (by simp [go_sem])
      have b0 : w1.cell? ⟨w.heap.size + 1, 0, none⟩ = some (vi ig) := cell_keep hb1 (by simp [go_sem])
      have b1 : w1.cell? ⟨w.heap.size + 1, 1, none⟩ = some (vi is) := cell_keep hb1 (by simp [go_sem])
      have b2 : w1.cell? ⟨w.heap.size + 1, 2, none⟩ = some (vi ic) := cell_keep hb1 (by simp [go_sem])
      clear hc1 hf1 hs1 hb1 hz1
      obtain ⟨W, rfl⟩ : ∃ W : World, W = w1 := ⟨_, rfl⟩
      go_wp2_with fail
      go_loopw [7, 8] (fun u i wr => ∃ k : Nat, k ≤ ri.length ∧ i = .int .i64 k ∧ Below W.heap.size W wr ∧ ∃ n, u = vi n ∧ Hid (lastN R I (ri.take k) = n)) (fun _ i _ => ri.length - (intOf i).toNat)
      case atStart => exact ⟨0, Nat.zero_le _, rfl, Below.refl _ _, -1, rfl, by simp [Hid, lastN]⟩
      obtain ⟨k, hk, rfl, hB, n, rfl, HN⟩ := hrel
      have HBr : Below w.heap.size w wr := HB1.trans (hB.mono HB1.size)
      have a0r := cell_keep hB a0
      have a1r := cell_keep hB a1
      have b0r := cell_keep hB b0
      have b1r := cell_keep hB b1
      have b2r := cell_keep hB b2
      have za := cell_lt a0r
      have zb := cell_lt b0r
      by_cases hlt : k < ri.length
      · obtain ⟨x, hx⟩ : ∃ x, ri[k]? = some x := ⟨_, List.getElem?_eq_getElem hlt⟩
        have hIr : IssuesAt wr wr.heap.size rA rcap ri := IssuesAt.to (show IssuesAt w w.heap.size rA rcap ri from HR.out) HBr
        obtain ⟨bb, off, rfl, hbb, x0, x1, x2, x3⟩ := row4 hIr.row hx rfl
        have STEP : Hid (lastN R I (ri.take (k + 1)) = lastS R I n x) := by unfold Hid lastN; rw [fold_succ hx]; unfold lastN at HN; rw [HN.out]
        have hkI : (k : Int) < ri.length := by omega
        have h0k : (0 : Int) ≤ k := by omega
        have zbb := cell_lt x0
        clear hx HN hIr
        obtain ⟨xlo, xhi, xhd, xA, xcap, xl⟩ := x
        simp only at x0 x1 x2 x3
        by_cases hlx : n < xhd
        · have hd1 : decide (n < xhd) = true := by simpa using hlx
          obtain ⟨c, hc⟩ : ∃ c, costN R.issues xhd I = c := ⟨_, rfl⟩
          have HC := Lib.hid hc
          by_cases hc0 : 0 < c
          · have hd2 : decide (0 < c) = true := by simpa using hc0
            have HS : Hid (lastS R I n ⟨xlo, xhi, xhd, xA, xcap, xl⟩ = xhd) := by unfold Hid lastS; rw [if_pos ⟨hlx, by rw [hc]; exact hc0⟩]
            clear hlx hc hc0
            go_wp2_with fail
            refine (CI.out _ _ HC.out _ HBr).mono ?_
            rintro e w2 ⟨rfl, hb2⟩
            go_wp2_with fail
            go_roundw
            case rel => exact ⟨k + 1, by omega, by go_num, gr_trans hB hb2, xhd, rfl, STEP.out.trans HS.out⟩
            case measure => simp [intOf]; omega
          · have hd2 : decide (0 < c) = false := by simpa using hc0
            have HS : Hid (lastS R I n ⟨xlo, xhi, xhd, xA, xcap, xl⟩ = n) := by unfold Hid lastS; rw [if_neg (fun h => hc0 (by rw [← hc]; exact h.2))]
            clear hlx hc hc0
            go_wp2_with fail
            refine (CI.out _ _ HC.out _ HBr).mono ?_
            rintro e w2 ⟨rfl, hb2⟩
            go_wp2_with fail
            go_roundw
            case rel => exact ⟨k + 1, by omega, by go_num, gr_trans hB hb2, n, rfl, STEP.out.trans HS.out⟩
            case measure => simp [intOf]; omega
        · have hd1 : decide (n < xhd) = false := by simpa using hlx
          have HS : Hid (lastS R I n ⟨xlo, xhi, xhd, xA, xcap, xl⟩ = n) := by unfold Hid lastS; rw [if_neg (fun h => hlx h.1)]
          clear hlx
          go_wp2_with fail
          go_roundw
          case rel => exact ⟨k + 1, by omega, by go_num, hB, n, rfl, STEP.out.trans HS.out⟩
          case measure => simp [intOf]; omega
      · obtain rfl : k = ri.length := by omega
        have hfin := HN.out
        rw [List.take_length] at hfin
        have hRI : R.issues = ri ∨ True := .inr trivial
        have hres := RES.out
        rw [hfin] at hres
        by_cases hneg : n < 0
        · obtain ⟨rfl, rfl⟩ := hres.1 hneg
          clear hfin HN hres
          go_wp2_with fail
          go_ret2
          exact ⟨rfl, HBr⟩
        · obtain ⟨rfl, rfl⟩ := hres.2 (by omega)
          clear hfin HN hres
          go_wp2_with fail
          go_ret2
          exact ⟨rfl, HBr⟩
    · have ha' : itemB r it = false := by simpa using ha
      have hrs : lastErr r it = 11 ∧ lastV r it = 0 := by simp [lastErr, lastV, hv, ha']
      rw [hrs.1, hrs.2]
      exact rLast_err r it 11 (by rw [last_ref, if_pos hv, ha']; rfl) (.inr rfl) w h
  · have hv' : validB r = false := by simpa using hv
    have hrs : lastErr r it = 10 ∧ lastV r it = 0 := by simp [lastErr, lastV, hv']
    rw [hrs.1, hrs.2]
    exact rLast_err r it 10 (by rw [last_ref, hv']; rfl) (.inl rfl) w h
end Go.Proofs.YtpcajmkmmkmekaaGreatDoor

