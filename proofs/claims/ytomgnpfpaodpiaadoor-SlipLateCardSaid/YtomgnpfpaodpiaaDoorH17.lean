/- Contracts of Steps, ends, takes, Takes. -/
import Derived.Test.YtomgnpfpaodpiaaDoorH15
import Derived.Test.YtomgnpfpaodpiaaDoorH16
import Derived.Laws.EntriesVeiled
import Derived.Test.YtomgnpfpaodpiaaDoorH10
import Derived.Laws.MakeOwn
set_option linter.unusedVariables false
set_option linter.unusedSimpArgs false
namespace Go.Proofs.YtomgnpfpaodpiaaDoor
open Go Go.RowKit
set_option maxHeartbeats 2000000
def StepsV (f : Floor) (n : Int) : Int := if checkSlipV f n = 0 then (match f.slips[n.toNat]? with | some s => stepsF f s | none => 0) else 0
theorem Steps_any (f : Floor) (n : Int) (w : World) (hl : Lim w) (h : FloorAt w w.heap.size f) :
    Calls Tryd.prog 18 #[f.val, vi n] w fun e w' => e = .returned (.tuple #[vi (StepsV f n), vi (checkSlipV f n)]) ∧ Below w.heap.size w w' := by
  have HL := Lib.hid hl
  have HF := Lib.hid h
  rcases check_cases f n with hc | ⟨hc, hv, k, s, rfl, hs⟩
  · obtain ⟨ec, hec⟩ : ∃ ec, checkSlipV f n = ec := ⟨_, rfl⟩
    have hne : ec ≠ 0 := by omega
    have hned : decide (ec = 0) = false := by simpa using hne
    have E : Hid (StepsV f n = 0) := by unfold Hid StepsV; rw [if_neg (by omega)]
    have CH := Lib.hid (fun (W : World) hL hW => checkSlip_is hec W hL hW)
    rw [E.out, hec]
    clear h hl hc hec E
    go_enter Tryd.func18, Tryd.ntmps18
    go_wp2_with fail
    refine (CH.out _ (HL.out.next (by (repeat (first | exact Below.refl _ _ | refine Below.setCell ?_ (by first | omega | (simp; omega) | (simp; done)) _ | refine Below.alloc ?_ (by first | omega | (simp; omega) | (simp; done)) _ | refine Below.drew ?_ | refine below_drewN ?_ _ | refine Below.trans ?_ (Below.mono (by assumption) (by first | omega | (simp; omega) | (simp; done))))))) (HF.out.to (by (repeat (first | exact Below.refl _ _ | refine Below.setCell ?_ (by first | omega | (simp; omega) | (simp; done)) _ | refine Below.alloc ?_ (by first | omega | (simp; omega) | (simp; done)) _ | refine Below.drew ?_ | refine below_drewN ?_ _ | refine Below.trans ?_ (Below.mono (by assumption) (by first | omega | (simp; omega) | (simp; done)))))))).mono ?_
    rintro e W ⟨rfl, hb⟩
    have HB0 : Below w.heap.size w W := by (repeat (first | exact Below.refl _ _ | refine Below.setCell ?_ (by first | omega | (simp; omega) | (simp; done)) _ | refine Below.alloc ?_ (by first | omega | (simp; omega) | (simp; done)) _ | refine Below.drew ?_ | refine below_drewN ?_ _ | refine Below.trans ?_ (Below.mono (by assumption) (by first | omega | (simp; omega) | (simp; done)))))
    clear hb
    go_wp2_with fail
    go_ret2
    exact ⟨rfl, HB0⟩
  · have HFN := Lib.hid (fine hv)
    have E : Hid (StepsV f k = stepsF f s) := by unfold Hid StepsV; rw [if_pos hc]; simp [hs]
    have CH := Lib.hid (fun (W : World) hL hW => checkSlip_is hc W hL hW)
    have ST := Lib.hid (fun (W : World) hW => steps_any f HFN.out k s hs W hW)
    rw [hc, E.out]
    obtain ⟨an, han⟩ : ∃ an, an = stepsF f s := ⟨_, rfl⟩
    rw [← han] at ST ⊢
    clear h hl hc han hs E hv
    go_enter Tryd.func18, Tryd.ntmps18
    go_wp2_with fail
    refine (CH.out _ (HL.out.next (by (repeat (first | exact Below.refl _ _ | refine Below.setCell ?_ (by first | omega | (simp; omega) | (simp; done)) _ | refine Below.alloc ?_ (by first | omega | (simp; omega) | (simp; done)) _ | refine Below.drew ?_ | refine below_drewN ?_ _ | refine Below.trans ?_ (Below.mono (by assumption) (by first | omega | (simp; omega) | (simp; done))))))) (HF.out.to (by (repeat (first | exact Below.refl _ _ | refine Below.setCell ?_ (by first | omega | (simp; omega) | (simp; done)) _ | refine Below.alloc ?_ (by first | omega | (simp; omega) | (simp; done)) _ | refine Below.drew ?_ | refine below_drewN ?_ _ | refine Below.trans ?_ (Below.mono (by assumption) (by first | omega | (simp; omega) | (simp; done)))))))).mono ?_
    rintro e W ⟨rfl, hb⟩
    have HB0 : Below w.heap.size w W := by (repeat (first | exact Below.refl _ _ | refine Below.setCell ?_ (by first | omega | (simp; omega) | (simp; done)) _ | refine Below.alloc ?_ (by first | omega | (simp; omega) | (simp; done)) _ | refine Below.drew ?_ | refine below_drewN ?_ _ | refine Below.trans ?_ (Below.mono (by assumption) (by first | omega | (simp; omega) | (simp; done)))))
    have a0 : W.cell? ⟨w.heap.size, 0, none⟩ = some (.slice f.fA f.far.length f.fC) := cell_keep hb (by simp [go_sem])
    have a1 : W.cell? ⟨w.heap.size, 1, none⟩ = some (vi f.slo) := cell_keep hb (by simp [go_sem])
    have a2 : W.cell? ⟨w.heap.size, 2, none⟩ = some (vi f.shi) := cell_keep hb (by simp [go_sem])
    have a3 : W.cell? ⟨w.heap.size, 3, none⟩ = some (.slice f.pA f.picks.length f.pC) := cell_keep hb (by simp [go_sem])
    have a4 : W.cell? ⟨w.heap.size, 4, none⟩ = some (vi f.carry) := cell_keep hb (by simp [go_sem])
    have a5 : W.cell? ⟨w.heap.size, 5, none⟩ = some (.slice f.sA f.slips.length f.sC) := cell_keep hb (by simp [go_sem])
    clear hb
    go_wp2_with fail
    refine (ST.out _ (HF.out.to HB0)).mono ?_
    rintro e W2 ⟨rfl, hb2⟩
    go_wp2_with fail
    go_ret2
    exact ⟨rfl, gr_trans HB0 hb2⟩
abbrev endsV : Value := .agg #[.func (.func 111) #[] #[], .func (.func 112) #[] #[]]
theorem ends_any (w : World) :
    Calls Tryd.prog 93 #[] w fun e w' => e = .returned endsV ∧ Below w.heap.size w w' := by
  go_enter Tryd.func93, Tryd.ntmps93
  go_wp2_with fail
  go_wp2_with fail
  refine bodyPost_ret (v := endsV) (by simp [results, Tryd.results93, go_sem]) rfl ⟨rfl, ?_⟩
  (repeat (first | exact Below.refl _ _ | refine Below.setCell ?_ (by first | omega | (simp; omega) | (simp; done)) _ | refine Below.alloc ?_ (by first | omega | (simp; omega) | (simp; done)) _ | refine Below.drew ?_ | refine below_drewN ?_ _ | refine Below.trans ?_ (Below.mono (by assumption) (by first | omega | (simp; omega) | (simp; done)))))
theorem stepsF_range {f : Floor} (hf : Fine f) {s : SSlip} (hs : s ∈ f.slips) : 0 ≤ stepsF f s ∧ stepsF f s ≤ 240000 := by
  obtain ⟨_, _, hsl⟩ := hf.slips s hs
  have hl := loadsOf_len hf hs
  have ho : ∀ q ∈ loadsOf f s, Only f.far.length q := by
    obtain ⟨o1, _, _, _⟩ := pieces_only hf.far12 hsl
    have htw := (lines_good (by have := hf.far12; omega) hsl).2
    have key : ∀ (n : Nat) (p : List Int), Twelve 12000 p → Only f.far.length p → ∀ q ∈ loadsF f.carry.toNat n p, Only f.far.length q := by
      intro n
      induction n with
      | zero => intro p _ _ q hq; simp [loadsF] at hq
      | succ n ih =>
        intro p hp hop q hq
        rw [loadsF] at hq
        split at hq
        · simp at hq
        · obtain ⟨q1, q2⟩ := only_parts hp hop f.carry.toNat
          rcases List.mem_cons.1 hq with rfl | hq
          · rw [farthest_is]; exact q2
          · rw [without_moves hp] at hq
            exact ih _ (moves_ok hp _).1 q1 q hq
    exact key _ _ htw o1
  have := stepsL_range hf ho
  unfold stepsF
  omega
def takesF (f : Floor) (s : SSlip) : Int × Int := (secsFLo f s.lines (stepsF f s), secsFHi f s.lines (stepsF f s))
set_option maxRecDepth 100000 in
theorem takes_any (f : Floor) (hv : validB f = true) (n : Nat) (s : SSlip) (hs : f.slips[n]? = some s) (w : World) (h : FloorAt w w.heap.size f) :
    Calls Tryd.prog 61 #[f.val, vi n] w fun e w' => e = .returned (spanV (takesF f s)) ∧ Below w.heap.size w w' := by
  have hf := fine hv
  have hst := stepsF_range hf (List.mem_of_getElem? hs)
  have HF := Lib.hid h
  have ST := Lib.hid (fun (W : World) hW => steps_any f hf n s hs W hW)
  obtain ⟨st, hst2⟩ : ∃ st, st = stepsF f s := ⟨_, rfl⟩
  have LO := Lib.hid (fun (W : World) hW => least_any f n s hs hv st (by omega) W hW)
  have HI := Lib.hid (fun (W : World) hW => most_any f n s hs hv st (by omega) W hW)
  unfold takesF
  rw [← hst2] at ST ⊢
  obtain ⟨tl, htl⟩ : ∃ tl, tl = secsFLo f s.lines st := ⟨_, rfl⟩
  obtain ⟨th, hth⟩ : ∃ th, th = secsFHi f s.lines st := ⟨_, rfl⟩
  rw [← htl] at LO ⊢
  rw [← hth] at HI ⊢
  clear h hs hv hst hst2 htl hth hf
  go_enter Tryd.func61, Tryd.ntmps61
  go_wp2_with fail
  obtain ⟨V0, hV0⟩ : ∃ V0, V0 = (w.alloc (.cells #[.slice f.fA f.far.length f.fC, vi f.slo, vi f.shi, .slice f.pA f.picks.length f.pC, vi f.carry, .slice f.sA f.slips.length f.sC] 89)).alloc (.cells #[vi 0, vi 0] 24) := ⟨_, rfl⟩
  have hb0 : Below w.heap.size w V0 := by rw [hV0]; (repeat (first | exact Below.refl _ _ | refine Below.setCell ?_ (by first | omega | (simp; omega) | (simp; done)) _ | refine Below.alloc ?_ (by first | omega | (simp; omega) | (simp; done)) _ | refine Below.drew ?_ | refine below_drewN ?_ _ | refine Below.trans ?_ (Below.mono (by assumption) (by first | omega | (simp; omega) | (simp; done)))))
  have XF : Hid (CellsBox V0 w.heap.size 89 f.cells) := by unfold Hid; rw [hV0]; exact (CellsBox.new w 89 f.cells).alloc _
  have XR : Hid (CellsBox V0 (w.heap.size + 1) 24 [vi 0, vi 0]) := by
    unfold Hid; rw [hV0]
    have := CellsBox.new (w.alloc (.cells #[.slice f.fA f.far.length f.fC, vi f.slo, vi f.shi, .slice f.pA f.picks.length f.pC, vi f.carry, .slice f.sA f.slips.length f.sC] 89)) 24 [vi 0, vi 0]
    simpa using this
  rw [← hV0]
  clear hV0
  refine' wp_region_box (fun w' => Below V0.heap.size V0 w') (stays_below _) [0, 1, 2, 3, 4, 5] 2 23 (by kernel_rfl) (by kernel_rfl) rfl (by kernel_rfl) (by kernel_rfl) rfl (by kernel_rfl) ?hl5 (Below.refl _ _) ?hq5 ?hr5
  case hl5 =>
    simp only [List.map_cons, List.map_nil, List.getD_cons_zero, List.getD_cons_succ]
    exact rfl
  case hq5 =>
    intro w0 hw0
    have K := XF.out.keep hw0
    have f0 := K.cell (j := 0) rfl
    have f1 := K.cell (j := 1) rfl
    have f2 := K.cell (j := 2) rfl
    have f3 := K.cell (j := 3) rfl
    have f4 := K.cell (j := 4) rfl
    have f5 := K.cell (j := 5) rfl
    have zf := K.lt
    clear K
    (repeat (go_big_quiet_step ((go_at_call 59; refine Calls.grow_of (ST.out _ (HF.out.to (gr_trans hb0 (gr_trans hw0 (plus_below _ _)))))))))
    exact wpQuiet_nil rfl
  refine wpUp_one (i := 6) (by kernel_rfl) rfl rfl (fun w1 h1 h2 K hK => ?_)
  go_simp
  obtain ⟨V, hV⟩ : ∃ V, V = w1.alloc (.cells #[.slice none 0 0, vi 0, vi 0, .slice none 0 0, vi 0, .slice none 0 0, vi 0, vi 0] 137) := ⟨_, rfl⟩
  have hbV : Below w1.heap.size w1 V := by rw [hV]; exact (Below.refl _ _).alloc (Nat.le_refl _) _
  have XV : Hid (CellsBox V w1.heap.size 137 [.slice none 0 0, vi 0, vi 0, .slice none 0 0, vi 0, .slice none 0 0, vi 0, vi 0]) := by unfold Hid; rw [hV]; exact CellsBox.new w1 _ _
  rw [← hV]
  clear hV
  refine hK _ _ (gr_trans h2 hbV) ?_
  refine wpUp_one (i := 7) (by kernel_rfl) rfl rfl (fun w3 h3 h4 K2 hK2 => ?_)
  have Y3 := XV.out.keep h3
  have c0 := Y3.cell (j := 0) rfl
  have c1 := Y3.cell (j := 1) rfl
  have c2 := Y3.cell (j := 2) rfl
  have c3 := Y3.cell (j := 3) rfl
  have c4 := Y3.cell (j := 4) rfl
  have c5 := Y3.cell (j := 5) rfl
  have c6 := Y3.cell (j := 6) rfl
  have c7 := Y3.cell (j := 7) rfl
  have z0 := Y3.frozen 0
  have z1 := Y3.frozen 1
  have z2 := Y3.frozen 2
  have z3 := Y3.frozen 3
  have z4 := Y3.frozen 4
  have z5 := Y3.frozen 5
  have z6 := Y3.frozen 6
  have z7 := Y3.frozen 7
  have Y4 := (((((((Y3.store 0 (.slice f.fA f.far.length f.fC)).store 1 (vi f.slo)).store 2 (vi f.shi)).store 3 (.slice f.pA f.picks.length f.pC)).store 4 (vi f.carry)).store 5 (.slice f.sA f.slips.length f.sC)).store 6 (vi n)).store 7 (vi st)
  have HB4x : Below V0.heap.size V0 _ := (((((((h4.setCell (p := ⟨w1.heap.size, 0, none⟩) h2.size (.slice f.fA f.far.length f.fC)).setCell (p := ⟨w1.heap.size, 1, none⟩) h2.size (vi f.slo)).setCell (p := ⟨w1.heap.size, 2, none⟩) h2.size (vi f.shi)).setCell (p := ⟨w1.heap.size, 3, none⟩) h2.size (.slice f.pA f.picks.length f.pC)).setCell (p := ⟨w1.heap.size, 4, none⟩) h2.size (vi f.carry)).setCell (p := ⟨w1.heap.size, 5, none⟩) h2.size (.slice f.sA f.slips.length f.sC)).setCell (p := ⟨w1.heap.size, 6, none⟩) h2.size (vi n)).setCell (p := ⟨w1.heap.size, 7, none⟩) h2.size (vi st)
  have HY4 := Lib.hid Y4
  have HB4 := Lib.hid HB4x
  clear Y4 Y3 HB4x
  go_simp
  refine (?_ : ∀ W9 : World, CellsBox W9 w1.heap.size 137 [.slice f.fA f.far.length f.fC, vi f.slo, vi f.shi, .slice f.pA f.picks.length f.pC, vi f.carry, .slice f.sA f.slips.length f.sC, vi n, vi st] ∧ Below V0.heap.size V0 W9 → K2 _ W9) _ ⟨HY4.out, HB4.out⟩
  clear c0 c1 c2 c3 c4 c5 c6 c7 z0 z1 z2 z3 z4 z5 z6 z7
  intro W9 ⟨Y9, B9⟩
  refine hK2 _ _ B9 (wpUp_done (by kernel_rfl) (fun W4 h7 h8 => NoPanic.normal ?_))
  have YW := Lib.hid (Y9.keep h7)
  have hw1 : V0.heap.size ≤ w1.heap.size := h2.size
  have BW : Below w.heap.size w W4 := gr_trans hb0 h8
  have XF4 := Lib.hid (XF.out.keep h8)
  have XR4 := Lib.hid (XR.out.keep h8)
  obtain ⟨bw, hbw⟩ : ∃ bw, bw = w1.heap.size := ⟨_, rfl⟩
  have hbwR : w.heap.size + 1 < bw := by have := XR.out.lt; omega
  rw [← hbw] at YW
  try rw [← hbw]
  clear hbw hw1 hK hK2 K K2 h1 h2 h3 h4 h7 h8 B9 Y9 HY4 HB4 W9 w3 XV hbV V w1 XF XR hb0 V0
  go_wp2_with fail
  refine (ends_any _).mono ?_
  rintro e W5 ⟨rfl, hb5⟩
  obtain ⟨V5, hV5⟩ : ∃ V5, V5 = W5.alloc (.cells #[.func (.func 111) #[] #[], .func (.func 112) #[] #[]] 139) := ⟨_, rfl⟩
  have hbV5 : Below W4.heap.size W4 V5 := by rw [hV5]; exact hb5.alloc hb5.size _
  have XE : Hid (CellsBox V5 W5.heap.size 139 [.func (.func 111) #[] #[], .func (.func 112) #[] #[]]) := by unfold Hid; rw [hV5]; exact CellsBox.new W5 _ _
  have YW5 := Lib.hid (YW.out.keep hbV5)
  have XR5 := Lib.hid (XR4.out.keep hbV5)
  have BW5 : Below w.heap.size w V5 := gr_trans BW hbV5
  have hz5 := hb5.size
  have hzR := XR4.out.lt
  go_wp2_with fail
  rw [← hV5]
  clear hV5 YW XR4 hb5 hbV5
  have hW5 : W5.heap.size < V5.heap.size := XE.out.lt
  have hzR5 := XR5.out.lt
  refine' wp_region_box (fun w' => Spare V5.heap.size (w.heap.size + 1) V5 w' ∧ ∃ x y, CellsBox w' (w.heap.size + 1) 24 [vi x, vi y]) ?hC [0, 1, 2, 3, 4, 5, 6, 7, 8] 1 23 (by kernel_rfl) (by kernel_rfl) rfl (by kernel_rfl) (by kernel_rfl) rfl (by kernel_rfl) ?hl6 ⟨Spare.refl _ _ _, 0, 0, XR5.out⟩ ?hq6 ?hr6
  case hC =>
    rintro X Y ⟨h1, x, y, h2⟩ h3
    exact ⟨h1.trans (spare_of_below _ h3 h1.size), x, y, h2.keep h3⟩
  case hl6 =>
    simp only [List.map_cons, List.map_nil, List.getD_cons_zero, List.getD_cons_succ]
    exact rfl
  case hq6 =>
    rintro w0 ⟨hs0, -⟩
    have hk : ∀ {b : Nat} {t : TypeId} {cs : List Value}, CellsBox V5 b t cs → b ≠ w.heap.size + 1 → CellsBox w0 b t cs := fun h hne => (hs0.block _ h.lt hne).trans h
    have K := hk YW5.out (by omega)
    have hBw0 : Below w.heap.size w w0 := BW5.trans (hs0.below (by omega) (by omega))
    have f0 := K.cell (j := 0) rfl
    have f1 := K.cell (j := 1) rfl
    have f2 := K.cell (j := 2) rfl
    have f3 := K.cell (j := 3) rfl
    have f4 := K.cell (j := 4) rfl
    have f5 := K.cell (j := 5) rfl
    have f6 := K.cell (j := 6) rfl
    have f7 := K.cell (j := 7) rfl
    have zf := K.lt
    have E := hk XE.out (by omega)
    have e0 := E.cell (j := 0) rfl
    have e1 := E.cell (j := 1) rfl
    have ze := E.lt
    clear K E hk
    (repeat (go_big_quiet_step (first | (go_at_call 111; refine Calls.grow_of (LO.out _ (HF.out.to (gr_trans hBw0 (plus_below _ _))))) | (go_at_call 112; refine Calls.grow_of (HI.out _ (HF.out.to (gr_trans hBw0 (plus_below _ _))))))))
    exact wpQuiet_nil rfl
  refine wpUp_one (i := 9) (by kernel_rfl) rfl rfl (fun w7 h1 h2 K hK => ?_)
  obtain ⟨hs7, x, y, hc7⟩ := h2
  have c0 := hc7.cell (j := 0) rfl
  have c1 := hc7.cell (j := 1) rfl
  have z0 := hc7.frozen 0
  have z1 := hc7.frozen 1
  have R7 := (hc7.store 0 (vi tl)).store 1 (vi th)
  have S7 : Spare V5.heap.size (w.heap.size + 1) V5 ((w7.setCell ⟨w.heap.size + 1, 0, none⟩ (vi tl)).setCell ⟨w.heap.size + 1, 1, none⟩ (vi th)) := hs7.trans ⟨rfl, rfl, rfl, by simp, fun k hk hl => (heap_setCell_other _ _ k _ hl).trans (heap_setCell_other _ _ k _ hl)⟩
  have HR7 := Lib.hid R7
  have HS7 := Lib.hid S7
  clear R7 S7
  go_simp
  refine hK _ _ ⟨HS7.out, tl, th, HR7.out⟩ (wpUp_done (by kernel_rfl) (fun W8 g1 g2 => NoPanic.normal ?_))
  have R8 := HR7.out.keep g1
  have r0 := R8.cell (j := 0) rfl
  have r1 := R8.cell (j := 1) rfl
  have HB8 : Below w.heap.size w W8 := BW5.trans (g2.1.below (by omega) (by omega))
  clear R8 g1 g2 HR7 HS7 c0 c1 z0 z1 hK K
  go_wp2_with fail
  refine bodyPost_ret (v := spanV (tl, th)) (by simp [results, Tryd.results61, go_sem, r0, r1]) rfl ⟨rfl, HB8⟩
end Go.Proofs.YtomgnpfpaodpiaaDoor

/- Contracts of Takes and done. -/
namespace Go.Proofs.YtomgnpfpaodpiaaDoor
open Go Go.RowKit
set_option maxHeartbeats 2000000
def TakesV (f : Floor) (n : Int) : Int × Int := if checkSlipV f n = 0 then (match f.slips[n.toNat]? with | some s => takesF f s | none => (0, 0)) else (0, 0)
theorem Takes_any (f : Floor) (n : Int) (w : World) (hl : Lim w) (h : FloorAt w w.heap.size f) :
    Calls Tryd.prog 20 #[f.val, vi n] w fun e w' => e = .returned (.tuple #[spanV (TakesV f n), vi (checkSlipV f n)]) ∧ Below w.heap.size w w' := by
  have HL := Lib.hid hl
  have HF := Lib.hid h
  rcases check_cases f n with hc | ⟨hc, hv, k, s, rfl, hs⟩
  · obtain ⟨ec, hec⟩ : ∃ ec, checkSlipV f n = ec := ⟨_, rfl⟩
    have hne : ec ≠ 0 := by omega
    have hned : decide (ec = 0) = false := by simpa using hne
    have E : Hid (TakesV f n = (0, 0)) := by unfold Hid TakesV; rw [if_neg (by omega)]
    have CH := Lib.hid (fun (W : World) hL hW => checkSlip_is hec W hL hW)
    rw [E.out, hec]
    clear h hl hc hec E
    go_enter Tryd.func20, Tryd.ntmps20
    go_wp2_with fail
    refine (CH.out _ (HL.out.next (by (repeat (first | exact Below.refl _ _ | refine Below.setCell ?_ (by first | omega | (simp; omega) | (simp; done)) _ | refine Below.alloc ?_ (by first | omega | (simp; omega) | (simp; done)) _ | refine Below.drew ?_ | refine below_drewN ?_ _ | refine Below.trans ?_ (Below.mono (by assumption) (by first | omega | (simp; omega) | (simp; done))))))) (HF.out.to (by (repeat (first | exact Below.refl _ _ | refine Below.setCell ?_ (by first | omega | (simp; omega) | (simp; done)) _ | refine Below.alloc ?_ (by first | omega | (simp; omega) | (simp; done)) _ | refine Below.drew ?_ | refine below_drewN ?_ _ | refine Below.trans ?_ (Below.mono (by assumption) (by first | omega | (simp; omega) | (simp; done)))))))).mono ?_
    rintro e W ⟨rfl, hb⟩
    have HB0 : Below w.heap.size w W := by (repeat (first | exact Below.refl _ _ | refine Below.setCell ?_ (by first | omega | (simp; omega) | (simp; done)) _ | refine Below.alloc ?_ (by first | omega | (simp; omega) | (simp; done)) _ | refine Below.drew ?_ | refine below_drewN ?_ _ | refine Below.trans ?_ (Below.mono (by assumption) (by first | omega | (simp; omega) | (simp; done)))))
    have r0 : W.cell? ⟨w.heap.size + 1, 0, none⟩ = some (vi 0) := cell_keep hb (by simp [go_sem])
    have r1 : W.cell? ⟨w.heap.size + 1, 1, none⟩ = some (vi 0) := cell_keep hb (by simp [go_sem])
    have z0 : W.frozen? ⟨w.heap.size + 1, 0, none⟩ = false := soft_keep hb (by simp) (by simp [go_sem])
    have z1 : W.frozen? ⟨w.heap.size + 1, 1, none⟩ = false := soft_keep hb (by simp) (by simp [go_sem])
    have zr := cell_lt r0
    clear hb
    go_wp2_with fail
    refine bodyPost_ret (v := .tuple #[spanV (0, 0), vi ec]) (by simp [results, Tryd.results20, go_sem, r0, r1, z0, z1]) rfl ⟨rfl, ?_⟩
    (repeat (first | exact Below.refl _ _ | refine Below.setCell ?_ (by first | omega | (simp; omega) | (simp; done)) _ | refine Below.alloc ?_ (by first | omega | (simp; omega) | (simp; done)) _ | refine Below.drew ?_ | refine below_drewN ?_ _ | refine Below.trans ?_ (Below.mono (by assumption) (by first | omega | (simp; omega) | (simp; done)))))
  · have E : Hid (TakesV f k = takesF f s) := by unfold Hid TakesV; rw [if_pos hc]; simp [hs]
    have CH := Lib.hid (fun (W : World) hL hW => checkSlip_is hc W hL hW)
    have ST := Lib.hid (fun (W : World) hW => takes_any f hv k s hs W hW)
    rw [hc, E.out]
    obtain ⟨an, han⟩ : ∃ an, an = takesF f s := ⟨_, rfl⟩
    rw [← han] at ST ⊢
    obtain ⟨lo, hi⟩ := an
    clear h hl hc han hs E hv
    go_enter Tryd.func20, Tryd.ntmps20
    go_wp2_with fail
    refine (CH.out _ (HL.out.next (by (repeat (first | exact Below.refl _ _ | refine Below.setCell ?_ (by first | omega | (simp; omega) | (simp; done)) _ | refine Below.alloc ?_ (by first | omega | (simp; omega) | (simp; done)) _ | refine Below.drew ?_ | refine below_drewN ?_ _ | refine Below.trans ?_ (Below.mono (by assumption) (by first | omega | (simp; omega) | (simp; done))))))) (HF.out.to (by (repeat (first | exact Below.refl _ _ | refine Below.setCell ?_ (by first | omega | (simp; omega) | (simp; done)) _ | refine Below.alloc ?_ (by first | omega | (simp; omega) | (simp; done)) _ | refine Below.drew ?_ | refine below_drewN ?_ _ | refine Below.trans ?_ (Below.mono (by assumption) (by first | omega | (simp; omega) | (simp; done)))))))).mono ?_
    rintro e W ⟨rfl, hb⟩
    have HB0 : Below w.heap.size w W := by (repeat (first | exact Below.refl _ _ | refine Below.setCell ?_ (by first | omega | (simp; omega) | (simp; done)) _ | refine Below.alloc ?_ (by first | omega | (simp; omega) | (simp; done)) _ | refine Below.drew ?_ | refine below_drewN ?_ _ | refine Below.trans ?_ (Below.mono (by assumption) (by first | omega | (simp; omega) | (simp; done)))))
    have a0 : W.cell? ⟨w.heap.size, 0, none⟩ = some (.slice f.fA f.far.length f.fC) := cell_keep hb (by simp [go_sem])
    have a1 : W.cell? ⟨w.heap.size, 1, none⟩ = some (vi f.slo) := cell_keep hb (by simp [go_sem])
    have a2 : W.cell? ⟨w.heap.size, 2, none⟩ = some (vi f.shi) := cell_keep hb (by simp [go_sem])
    have a3 : W.cell? ⟨w.heap.size, 3, none⟩ = some (.slice f.pA f.picks.length f.pC) := cell_keep hb (by simp [go_sem])
    have a4 : W.cell? ⟨w.heap.size, 4, none⟩ = some (vi f.carry) := cell_keep hb (by simp [go_sem])
    have a5 : W.cell? ⟨w.heap.size, 5, none⟩ = some (.slice f.sA f.slips.length f.sC) := cell_keep hb (by simp [go_sem])
    have r0 : W.cell? ⟨w.heap.size + 1, 0, none⟩ = some (vi 0) := cell_keep hb (by simp [go_sem])
    have r1 : W.cell? ⟨w.heap.size + 1, 1, none⟩ = some (vi 0) := cell_keep hb (by simp [go_sem])
    have z0 : W.frozen? ⟨w.heap.size + 1, 0, none⟩ = false := soft_keep hb (by simp) (by simp [go_sem])
    have z1 : W.frozen? ⟨w.heap.size + 1, 1, none⟩ = false := soft_keep hb (by simp) (by simp [go_sem])
    have zr := cell_lt r0
    clear hb
    go_wp2_with fail
    refine (ST.out _ (HF.out.to HB0)).mono ?_
    rintro e W2 ⟨rfl, hb2⟩
    have s0 := cell_keep hb2 r0
    have s1 := cell_keep hb2 r1
    have y0 := soft_keep hb2 zr z0
    have y1 := soft_keep hb2 zr z1
    have zr2 := cell_lt s0
    have HB2 : Below w.heap.size w W2 := gr_trans HB0 hb2
    clear a0 a1 a2 a3 a4 a5 r0 r1 z0 z1 hb2
    go_wp2_with fail
    refine bodyPost_ret (v := .tuple #[spanV (lo, hi), vi 0]) (by simp [results, Tryd.results20, go_sem, s0, s1, y0, y1]) rfl ⟨rfl, ?_⟩
    (repeat (first | exact Below.refl _ _ | refine Below.setCell ?_ (by first | omega | (simp; omega) | (simp; done)) _ | refine Below.alloc ?_ (by first | omega | (simp; omega) | (simp; done)) _ | refine Below.drew ?_ | refine below_drewN ?_ _ | refine Below.trans ?_ (Below.mono (by assumption) (by first | omega | (simp; omega) | (simp; done)))))
end Go.Proofs.YtomgnpfpaodpiaaDoor

