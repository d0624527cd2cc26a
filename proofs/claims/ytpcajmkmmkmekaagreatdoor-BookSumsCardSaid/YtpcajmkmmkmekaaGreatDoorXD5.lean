/- Contract of the specification's cost. -/
import Derived.Test.YtpcajmkmmkmekaaGreatDoorXD3
import Derived.Test.YtpcajmkmmkmekaaGreatDoorGb
import Derived.BigQuiet
import Derived.Deep.QuietTactic
set_option linter.unusedVariables false
set_option linter.unusedSimpArgs false
namespace Go.Proofs.YtpcajmkmmkmekaaGreatDoor
open Go Go.RowKit
set_option maxHeartbeats 4000000
theorem in_is {s k : Int} {v : Bool} (h : hasColour s k = v) (h0 : 0 ≤ k) (h1 : k < 4) (w : World) :
    Calls Tryz.prog 85 #[vi s, vi k] w fun e w' => e = .returned (.bool v) ∧ w = w' := by
  subst h
  exact in_any s k w h0 h1
theorem sizeS_yes {s a : Int} {f : Fit} (h : f.size = s) (h2 : a = 0 ∨ f.price < a) : sizeS s a f = f.price := by unfold sizeS; rw [if_pos ⟨h, h2⟩]
theorem sizeS_no {s a : Int} {f : Fit} (h : ¬ (f.size = s ∧ (a = 0 ∨ f.price < a))) : sizeS s a f = a := by unfold sizeS; rw [if_neg h]
set_option maxRecDepth 100000 in
theorem cost_any (r : Rack) (d : Int) (it : Item) (hok : RackOk r) (hc0 : 0 ≤ it.colour) (hc3 : it.colour ≤ 3) (w : World) (h : RackAt w w.heap.size r) :
    Calls Tryz.prog 60 #[r.val, vi d, it.val] w fun e w' => e = .returned (vi (costN r.issues d it)) ∧ Below w.heap.size w w' := by
  have hcap := IssuesAt.cap h
  have hlen := IssuesAt.len h
  have hfew := IssuesAt.few h
  have OK : Hid (∀ x ∈ r.issues, IssueOk r x) := hok.issues
  have HI : Hid (IssuesAt w w.heap.size r.ad r.cap r.issues) := h
  clear hok h
  obtain ⟨rg, rA, rcap, ri⟩ := r
  obtain ⟨ig, is, ic⟩ := it
  simp only at hcap hlen hfew HI hc0 hc3 OK
  show Calls Tryz.prog 60 #[.agg #[vi rg, .slice rA ri.length rcap], vi d, .agg #[vi ig, vi is, vi ic]] w fun e w' => e = .returned (vi (costN ri d ⟨ig, is, ic⟩)) ∧ Below w.heap.size w w'
  obtain ⟨it, hit⟩ : ∃ it : Item, it = ⟨ig, is, ic⟩ := ⟨_, rfl⟩
  rw [← hit]
  have HIT := Lib.hid hit
  clear hit
  go_enter Tryz.func60, Tryz.ntmps60
  go_wp2_with fail
  obtain ⟨W, hW⟩ : ∃ W, W = (w.alloc (.cells #[vi rg, .slice rA ri.length rcap] 24)).alloc (.cells #[vi ig, vi is, vi ic] 43) := ⟨_, rfl⟩
  have HB0 : Below w.heap.size w W := by rw [hW]; (repeat (first | exact Below.refl _ _ | refine Below.setCell ?_ (by first | omega | (simp; omega) | (simp; done)) _ | refine Below.alloc ?_ (by first | omega | (simp; omega) | (simp; done)) _ | refine Below.drew ?_ | refine below_drewN ?_ _ | refine Below.trans ?_ (Below.mono (by assumption) (by first | omega | (simp; omega) | (simp; done)))))
  have a0 : W.cell? ⟨w.heap.size, 0, none⟩ = some (vi rg) := by rw [hW]; simp [go_sem]
  have a1 : W.cell? ⟨w.heap.size, 1, none⟩ = some (.slice rA ri.length rcap) := by rw [hW]; simp [go_sem]
  have b0 : W.cell? ⟨w.heap.size + 1, 0, none⟩ = some (vi ig) := by rw [hW]; simp [go_sem]
  have b1 : W.cell? ⟨w.heap.size + 1, 1, none⟩ = some (vi is) := by rw [hW]; simp [go_sem]
  have b2 : W.cell? ⟨w.heap.size + 1, 2, none⟩ = some (vi ic) := by rw [hW]; simp [go_sem]
  try rw [← hW]
  clear hW
  go_loopw [7, 8] (fun a i wr => ∃ k : Nat, k ≤ ri.length ∧ i = .int .i64 k ∧ Below W.heap.size W wr ∧ ∃ n, a = vi n ∧ Hid (costN (ri.take k) d it = n)) (fun _ i _ => ri.length - (intOf i).toNat)
  case atStart => exact ⟨0, Nat.zero_le _, rfl, Below.refl _ _, 0, rfl, by simp [Hid, costN]⟩
  obtain ⟨k, hk, rfl, hB, n, rfl, HN⟩ := hrel
  have HBr : Below w.heap.size w wr := HB0.trans (hB.mono HB0.size)
  have a0r := cell_keep hB a0
  have a1r := cell_keep hB a1
  have b0r := cell_keep hB b0
  have b1r := cell_keep hB b1
  have b2r := cell_keep hB b2
  have za : w.heap.size < wr.heap.size := cell_lt a0r
  have zb : w.heap.size + 1 < wr.heap.size := cell_lt b0r
  by_cases hlt : k < ri.length
  · obtain ⟨x, hx⟩ : ∃ x, ri[k]? = some x := ⟨_, List.getElem?_eq_getElem hlt⟩
    have hIr := IssuesAt.to HI.out HBr
    obtain ⟨bb, off, rfl, hbb, x0, x1, x2, x3⟩ := row4 hIr.row hx rfl
    have hX : IssueAt wr wr.heap.size x := hIr.at_ hx
    have xok := OK.out x (List.mem_of_getElem? hx)
    have xc := hX.cap
    have xl2 := hX.len
    have STEP : Hid (costN (ri.take (k + 1)) d it = costS d it n x) := by unfold Hid; rw [costN_succ hx, HN.out]
    have hkI : (k : Int) < ri.length := by omega
    have h0k : (0 : Int) ≤ k := by omega
    clear hx HN hIr
    have XOK := Lib.hid xok
    clear xok
    obtain ⟨xlo, xhi, xhd, xA, xcap, xl⟩ := x
    simp only at x0 x1 x2 x3 xc xl2
    have HX : Hid (IssueAt wr wr.heap.size ⟨xlo, xhi, xhd, xA, xcap, xl⟩) := hX
    have HXE : EntriesAt wr wr.heap.size xA xcap xl := hX
    clear hX
    obtain ⟨ov, hov⟩ : ∃ ov, ofF xl ig = ov := ⟨_, rfl⟩
    have HOV := Lib.hid hov
    have hov1 : -1 ≤ ov := by
      rw [← hov]; unfold ofF; split
      · omega
      · omega
    clear hov
    obtain ⟨tw, htw⟩ : ∃ tw, (decide (xlo ≤ d) && decide (d ≤ xhd)) = tw := ⟨_, rfl⟩
    have HTW := Lib.hid htw
    clear htw
    have zbb : bb < wr.heap.size := cell_lt x0
    go_wp2_with fail
    refine (of_is (x := ⟨xlo, xhi, xhd, xA, xcap, xl⟩) HOV.out _ (HX.out.to (by (repeat (first | exact Below.refl _ _ | refine Below.setCell ?_ (by first | omega | (simp; omega) | (simp; done)) _ | refine Below.alloc ?_ (by first | omega | (simp; omega) | (simp; done)) _ | refine Below.drew ?_ | refine below_drewN ?_ _ | refine Below.trans ?_ (Below.mono (by assumption) (by first | omega | (simp; omega) | (simp; done)))))))).mono ?_
    rintro e w1 ⟨rfl, hb1⟩
    have HB1 : Below wr.heap.size wr w1 := by (repeat (first | exact Below.refl _ _ | refine Below.setCell ?_ (by first | omega | (simp; omega) | (simp; done)) _ | refine Below.alloc ?_ (by first | omega | (simp; omega) | (simp; done)) _ | refine Below.drew ?_ | refine below_drewN ?_ _ | refine Below.trans ?_ (Below.mono (by assumption) (by first | omega | (simp; omega) | (simp; done)))))
    have xx0 : w1.cell? ⟨wr.heap.size, 0, none⟩ = some (vi xlo) := cell_keep hb1 (by simp [go_sem])
    have xx1 : w1.cell? ⟨wr.heap.size, 1, none⟩ = some (vi xhi) := cell_keep hb1 (by simp [go_sem])
    have xx2 : w1.cell? ⟨wr.heap.size, 2, none⟩ = some (vi xhd) := cell_keep hb1 (by simp [go_sem])
    have xx3 : w1.cell? ⟨wr.heap.size, 3, none⟩ = some (.slice xA xl.length xcap) := cell_keep hb1 (by simp [go_sem])
    have u0 := cell_keep HB1 a0r
    have u1 := cell_keep HB1 a1r
    have v0 := cell_keep HB1 b0r
    have v1 := cell_keep HB1 b1r
    have v2 := cell_keep HB1 b2r
    have zx : wr.heap.size < w1.heap.size := cell_lt xx0
    have zu : w.heap.size < w1.heap.size := cell_lt u0
    have zv : w.heap.size + 1 < w1.heap.size := cell_lt v0
    have HBW : Below W.heap.size W w1 := gr_trans hB HB1
    have he1 := HXE.to HB1
    clear hb1 a0r a1r b0r b1r b2r x0 x1 x2 x3 HXE
    -- what the book says
    have OFF : Hid (xoff d it ⟨xlo, xhi, xhd, xA, xcap, xl⟩ = if tw then offerO ⟨xlo, xhi, xhd, xA, xcap, xl⟩ it else none) := by
      unfold Hid xoff
      have : holdsQ d d ⟨xlo, xhi, xhd, xA, xcap, xl⟩ = tw := by rw [← HTW.out, Bool.eq_iff_iff, holds_one]; simp
      rw [this]
    by_cases htw : tw = true
    · subst htw
      by_cases hneg : ov < 0
      · have hsame : Hid (costS d it n ⟨xlo, xhi, xhd, xA, xcap, xl⟩ = n) := by
          have hf : (xl.find? fun e => e.good == ig) = none := by
            cases hc : xl.find? fun e => e.good == ig with
            | none => rfl
            | some e => obtain ⟨q, hq, _⟩ := of_some hc; have := HOV.out; omega
          unfold Hid costS
          rw [OFF.out, HIT.out]
          simp [offerO, hf, stepO]
        have hd1 : decide (ov < 0) = true := by simpa using hneg
        clear OFF
        go_wp2_with fail
        (refine wp_region_grow_lit (by kernel_rfl) (by kernel_rfl) ?_; (repeat (go_big_quiet_step ((go_at_call 36; refine Calls.grow_same (tween_is HTW.out _))))); refine wpQuiet_nil ?_; intro w1 hw1; have hb1 := below_of_plus hw1; clear hw1; obtain ⟨⟨hc1, hf1, hs1⟩, hz1⟩ := after hb1; (try simp only [World.size_alloc, World.size_setCell, World.size_drew] at hz1))
        go_wp2_with fail
        go_roundw
        case rel => exact ⟨k + 1, by omega, by go_num, gr_trans HBW (by (repeat (first | exact Below.refl _ _ | refine Below.setCell ?_ (by first | omega | (simp; omega) | (simp; done)) _ | refine Below.alloc ?_ (by first | omega | (simp; omega) | (simp; done)) _ | refine Below.drew ?_ | refine below_drewN ?_ _ | refine Below.trans ?_ (Below.mono (by assumption) (by first | omega | (simp; omega) | (simp; done)))))), n, rfl, STEP.out.trans hsame.out⟩
        case measure => simp [intOf]; omega
      · obtain ⟨y, hy⟩ : ∃ y, (xl.find? fun e => e.good == ig) = some y := by
          cases hc : xl.find? fun e => e.good == ig with
          | none => have := of_none hc; have := HOV.out; omega
          | some e => exact ⟨e, rfl⟩
        obtain ⟨q, hq, hyq⟩ := of_some hy
        have hqv : ov = (q : Int) := HOV.out.symm.trans hq
        subst hqv
        have hyok := XOK.out.entries y (List.mem_of_getElem? hyq)
        have hql := (List.getElem?_eq_some_iff.1 hyq).1
        obtain ⟨eb, eo, rfl, heb, e0, e1, e2, e3⟩ := row4 he1.row hyq rfl
        have hyf : FitsAt w1 w1.heap.size y.ad y.cap y.sizes := he1.at_ hyq
        have OFFY : Hid (costS d it n ⟨xlo, xhi, xhd, some ⟨eb, eo, none⟩, xcap, xl⟩ = if hasColour y.colours ic then y.sizes.foldl (sizeS is) n else n) := by
          unfold Hid costS
          rw [OFF.out, HIT.out, if_pos rfl]
          simp only [offerO, hy]
          split
          · rw [fold_sizes hyok]
          · rfl
        clear hy hyq hq OFF
        have hqI : (q : Int) < xl.length := by omega
        have h0q : (0 : Int) ≤ q := by omega
        have hqd : decide ((q : Int) < 0) = false := by simp
        obtain ⟨yn, yg, yc, yA, ycap, yl⟩ := y
        simp only at e0 e1 e2 e3 hyf OFFY hyok
        have yc1 := hyf.cap
        have yc2 := hyf.len
        obtain ⟨hcv, hhc⟩ : ∃ hcv, hasColour yc ic = hcv := ⟨_, rfl⟩
        have HHC := Lib.hid hhc
        rw [hhc] at OFFY
        clear hhc hyok
        have zeb : eb < w1.heap.size := cell_lt e0
        by_cases hcv' : hcv = true
        · subst hcv'
          have OFFZ : Hid (costS d it n ⟨xlo, xhi, xhd, some ⟨eb, eo, none⟩, xcap, xl⟩ = yl.foldl (sizeS is) n) := OFFY.out.trans (if_pos rfl)
          clear OFFY
          go_wp2_with fail
          (refine wp_region_grow_lit (by kernel_rfl) (by kernel_rfl) ?_; (repeat (go_big_quiet_step (first | (go_at_call 36; refine Calls.grow_same (tween_is HTW.out _)) | (go_at_call 85; refine Calls.grow_same (in_is HHC.out hc0 (by omega) _))))); refine wpQuiet_nil ?_; intro w1 hw1; have hb1 := below_of_plus hw1; clear hw1; obtain ⟨⟨hc1, hf1, hs1⟩, hz1⟩ := after hb1; (try simp only [World.size_alloc, World.size_setCell, World.size_drew] at hz1))
          have hyf2 := hyf.to hb1
          have vv1 := cell_keep hb1 v1
          have yy3 : w1.cell? ⟨wr.heap.size, 2 + 1, none⟩ = some (.slice (some ⟨eb, eo, none⟩) xl.length xcap) := cell_keep hb1 xx3
          have yy4 : w1.cell? ⟨wr.heap.size, 3, none⟩ = some (.slice (some ⟨eb, eo, none⟩) xl.length xcap) := yy3
          have ee3 : w1.cell? ⟨eb, eo + q * 4 + 3, none⟩ = some (.slice yA yl.length ycap) := cell_keep hb1 e3
          have zyy : wr.heap.size < w1.heap.size := cell_lt yy3
          have zee : eb < w1.heap.size := cell_lt ee3
          have zvv : w.heap.size + 1 < w1.heap.size := cell_lt vv1
          have HBW2 : Below W.heap.size W w1 := gr_trans HBW hb1
          clear hyf v1 v0 v2 u0 u1 xx0 xx1 xx2 xx3 e0 e1 e2 e3 HBW hb1 he1 hc1 hf1 hs1 hz1
          go_wp2_with fail
          go_loopw [7, 12] (fun a m w3 => ∃ j : Nat, j ≤ yl.length ∧ m = .int .i64 j ∧ Below w1.heap.size w1 w3 ∧ ∃ nn, a = vi nn ∧ Hid ((yl.take j).foldl (sizeS is) n = nn)) (fun _ m _ => yl.length - (intOf m).toNat)
          case atStart => exact ⟨0, Nat.zero_le _, rfl, by (repeat (first | exact Below.refl _ _ | refine Below.setCell ?_ (by first | omega | (simp; omega) | (simp; done)) _ | refine Below.alloc ?_ (by first | omega | (simp; omega) | (simp; done)) _ | refine Below.drew ?_ | refine below_drewN ?_ _ | refine Below.trans ?_ (Below.mono (by assumption) (by first | omega | (simp; omega) | (simp; done))))), n, rfl, by simp [Hid]⟩
          obtain ⟨j, hj, rfl, hB3, nn, rfl, HNN⟩ := hrel
          by_cases hjl : j < yl.length
          · obtain ⟨f, hf⟩ : ∃ f, yl[j]? = some f := ⟨_, List.getElem?_eq_getElem hjl⟩
            obtain ⟨fb, fo, rfl, hfb, f0, f1, f2, f3⟩ := row4 (hyf2.to hB3).row hf rfl
            have FST : Hid ((yl.take (j + 1)).foldl (sizeS is) n = sizeS is nn f) := by unfold Hid; rw [fold_succ hf, HNN.out]
            have hjI : (j : Int) < yl.length := by omega
            have h0j : (0 : Int) ≤ j := by omega
            have vw1 := cell_keep hB3 vv1
            have zvw := cell_lt vw1
            have zfb := cell_lt f0
            clear hf HNN
            obtain ⟨fs, flo, fhi, fp⟩ := f
            simp only at f0 f1 f2 f3
            by_cases hfs : fs = is
            · have hq1 : (fs == is) = true := by simpa using hfs
              by_cases hn0 : nn = 0
              · have hq2 : (nn == 0) = true := by simpa using hn0
                have HS : Hid (sizeS is nn ⟨fs, flo, fhi, fp⟩ = fp) := sizeS_yes hfs (.inl hn0)
                clear hfs hn0
                go_wp2_with fail
                go_quiet (fail)
                go_wp2
                go_roundw
                case rel => exact ⟨j + 1, by omega, by go_num, gr_trans hB3 (by (repeat (first | exact Below.refl _ _ | refine Below.setCell ?_ (by first | omega | (simp; omega) | (simp; done)) _ | refine Below.alloc ?_ (by first | omega | (simp; omega) | (simp; done)) _ | refine Below.drew ?_ | refine below_drewN ?_ _ | refine Below.trans ?_ (Below.mono (by assumption) (by first | omega | (simp; omega) | (simp; done)))))), fp, rfl, FST.out.trans HS.out⟩
                case measure => simp [intOf]; omega
              · have hq2 : (nn == 0) = false := by simpa using hn0
                by_cases hlt2 : fp < nn
                · have hq3 : decide (fp < nn) = true := by simpa using hlt2
                  have HS : Hid (sizeS is nn ⟨fs, flo, fhi, fp⟩ = fp) := sizeS_yes hfs (.inr hlt2)
                  clear hfs hn0
                  go_wp2_with fail
                  go_quiet (fail)
                  go_wp2
                  go_roundw
                  case rel => exact ⟨j + 1, by omega, by go_num, gr_trans hB3 (by (repeat (first | exact Below.refl _ _ | refine Below.setCell ?_ (by first | omega | (simp; omega) | (simp; done)) _ | refine Below.alloc ?_ (by first | omega | (simp; omega) | (simp; done)) _ | refine Below.drew ?_ | refine below_drewN ?_ _ | refine Below.trans ?_ (Below.mono (by assumption) (by first | omega | (simp; omega) | (simp; done)))))), fp, rfl, FST.out.trans HS.out⟩
                  case measure => simp [intOf]; omega
                · have hq3 : decide (fp < nn) = false := by simpa using hlt2
                  have HS : Hid (sizeS is nn ⟨fs, flo, fhi, fp⟩ = nn) := sizeS_no fun h => by rcases h.2 with h | h <;> contradiction
                  clear hfs hn0
                  go_wp2_with fail
                  go_quiet (fail)
                  go_wp2
                  go_roundw
                  case rel => exact ⟨j + 1, by omega, by go_num, gr_trans hB3 (by (repeat (first | exact Below.refl _ _ | refine Below.setCell ?_ (by first | omega | (simp; omega) | (simp; done)) _ | refine Below.alloc ?_ (by first | omega | (simp; omega) | (simp; done)) _ | refine Below.drew ?_ | refine below_drewN ?_ _ | refine Below.trans ?_ (Below.mono (by assumption) (by first | omega | (simp; omega) | (simp; done)))))), nn, rfl, FST.out.trans HS.out⟩
                  case measure => simp [intOf]; omega
            · have hq1 : (fs == is) = false := by simpa using hfs
              have HS : Hid (sizeS is nn ⟨fs, flo, fhi, fp⟩ = nn) := sizeS_no fun h => hfs h.1
              clear hfs
              go_wp2_with fail
              go_quiet (fail)
              go_wp2
              go_roundw
              case rel => exact ⟨j + 1, by omega, by go_num, gr_trans hB3 (by (repeat (first | exact Below.refl _ _ | refine Below.setCell ?_ (by first | omega | (simp; omega) | (simp; done)) _ | refine Below.alloc ?_ (by first | omega | (simp; omega) | (simp; done)) _ | refine Below.drew ?_ | refine below_drewN ?_ _ | refine Below.trans ?_ (Below.mono (by assumption) (by first | omega | (simp; omega) | (simp; done)))))), nn, rfl, FST.out.trans HS.out⟩
              case measure => simp [intOf]; omega
          · obtain rfl : j = yl.length := by omega
            have hfin := HNN.out
            rw [List.take_length] at hfin
            have HFN := Lib.hid (OFFZ.out.trans hfin)
            clear hfin HNN OFFZ
            go_wp2_with fail
            go_roundw
            case rel => exact ⟨k + 1, by omega, by go_num, gr_trans HBW2 (gr_trans hB3 (by (repeat (first | exact Below.refl _ _ | refine Below.setCell ?_ (by first | omega | (simp; omega) | (simp; done)) _ | refine Below.alloc ?_ (by first | omega | (simp; omega) | (simp; done)) _ | refine Below.drew ?_ | refine below_drewN ?_ _ | refine Below.trans ?_ (Below.mono (by assumption) (by first | omega | (simp; omega) | (simp; done))))))), nn, rfl, STEP.out.trans HFN.out⟩
            case measure => simp [intOf]; omega
        · have hcv2 : hcv = false := by simpa using hcv'
          subst hcv2
          have hsame : Hid (costS d it n ⟨xlo, xhi, xhd, some ⟨eb, eo, none⟩, xcap, xl⟩ = n) := OFFY.out.trans (if_neg (by simp))
          clear OFFY
          go_wp2_with fail
          (refine wp_region_grow_lit (by kernel_rfl) (by kernel_rfl) ?_; (repeat (go_big_quiet_step (first | (go_at_call 36; refine Calls.grow_same (tween_is HTW.out _)) | (go_at_call 85; refine Calls.grow_same (in_is HHC.out hc0 (by omega) _))))); refine wpQuiet_nil ?_; intro w1 hw1; have hb1 := below_of_plus hw1; clear hw1; obtain ⟨⟨hc1, hf1, hs1⟩, hz1⟩ := after hb1; (try simp only [World.size_alloc, World.size_setCell, World.size_drew] at hz1))
          go_wp2_with fail
          go_roundw
          case rel => exact ⟨k + 1, by omega, by go_num, gr_trans HBW (by (repeat (first | exact Below.refl _ _ | refine Below.setCell ?_ (by first | omega | (simp; omega) | (simp; done)) _ | refine Below.alloc ?_ (by first | omega | (simp; omega) | (simp; done)) _ | refine Below.drew ?_ | refine below_drewN ?_ _ | refine Below.trans ?_ (Below.mono (by assumption) (by first | omega | (simp; omega) | (simp; done)))))), n, rfl, STEP.out.trans hsame.out⟩
          case measure => simp [intOf]; omega
    · have htw2 : tw = false := by simpa using htw
      subst htw2
      have hsame : Hid (costS d it n ⟨xlo, xhi, xhd, xA, xcap, xl⟩ = n) := by unfold Hid costS; rw [OFF.out]; simp [stepO]
      clear OFF
      go_wp2_with fail
      (refine wp_region_grow_lit (by kernel_rfl) (by kernel_rfl) ?_; (repeat (go_big_quiet_step ((go_at_call 36; refine Calls.grow_same (tween_is HTW.out _))))); refine wpQuiet_nil ?_; intro w1 hw1; have hb1 := below_of_plus hw1; clear hw1; obtain ⟨⟨hc1, hf1, hs1⟩, hz1⟩ := after hb1; (try simp only [World.size_alloc, World.size_setCell, World.size_drew] at hz1))
      go_wp2_with fail
      go_roundw
      case rel => exact ⟨k + 1, by omega, by go_num, gr_trans HBW (by (repeat (first | exact Below.refl _ _ | refine Below.setCell ?_ (by first | omega | (simp; omega) | (simp; done)) _ | refine Below.alloc ?_ (by first | omega | (simp; omega) | (simp; done)) _ | refine Below.drew ?_ | refine below_drewN ?_ _ | refine Below.trans ?_ (Below.mono (by assumption) (by first | omega | (simp; omega) | (simp; done)))))), n, rfl, STEP.out.trans hsame.out⟩
      case measure => simp [intOf]; omega
  · obtain rfl : k = ri.length := by omega
    have hfin := HN.out
    rw [List.take_length] at hfin
    have HFIN := Lib.hid hfin
    clear hfin
    go_wp2_with fail
    go_ret
    exact ⟨retI HFIN.out.symm, HBr⟩
end Go.Proofs.YtpcajmkmmkmekaaGreatDoor

