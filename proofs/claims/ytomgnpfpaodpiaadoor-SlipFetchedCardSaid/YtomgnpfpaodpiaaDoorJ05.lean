/- Contracts of Steps, ends, takes, Takes. -/
import Derived.Test.YtomgnpfpaodpiaaDoorJ04
import Derived.Laws.EntriesVeiled
import Derived.Test.YtomgnpfpaodpiaaDoorJ03
import Derived.Laws.MakeOwn
import Derived.Test.YtomgnpfpaodpiaaDoorJ01
set_option linter.unusedVariables false
set_option linter.unusedSimpArgs false
namespace Go.Proofs.YtomgnpfpaodpiaaDoor
open Go Go.RowKit
set_option maxHeartbeats 2000000
def StepsV (f : Floor) (n : Int) : Int := if checkSlipV f n = 0 then (match f.slips[n.toNat]? with | some s => stepsF f s | none => 0) else 0
theorem Steps_any (f : Floor) (n : Int) (w : World) (hl : Lim w) (h : FloorAt w w.heap.size f) :
    Calls Tryd.prog 18 #[f.val, vi n] w fun e w' => e = .returned (.tuple #[vi (StepsV f n), vi (checkSlipV f n)]) ∧ Below w.heap.size w w' := by
  have HL := Lib.hid hl
  have HF := Lib.hid h
  rcases check_cases f n with hc | ⟨hc, hv, k, s, rfl, hs⟩
  · obtain ⟨ec, hec⟩ : ∃ ec, checkSlipV f n = ec := ⟨_, rfl⟩
    have hne : ec ≠ 0 := by omega
    have hned : decide (ec = 0) = false := by simpa using hne
    have E : Hid (StepsV f n = 0) := by unfold Hid StepsV; rw [if_neg (by omega)]
    have CH := Lib.hid (fun (W : World) hL hW => checkSlip_is hec W hL hW)
    rw [E.out, hec]
    clear h hl hc hec E
    go_enter Tryd.func18, Tryd.ntmps18
    go_wp2_with fail
    refine (CH.out _ (HL.out.next (by (repeat (first | exact Below.refl _ _ | refine Below.setCell ?_ (by first | omega | (simp; omega) | (simp; done)) _ | refine Below.alloc ?_ (by first | omega | (simp; omega) | (simp; done)) _ | refine Below.drew ?_ | refine below_drewN ?_ _ | refine Below.trans ?_ (Below.mono (by assumption) (by first | omega | (simp; omega) | (simp; done))))))) (HF.out.to (by (repeat (first | exact Below.refl _ _ | refine Below.setCell ?_ (by first | omega | (simp; omega) | (simp; done)) _ | refine Below.alloc ?_ (by first | omega | (simp; omega) | (simp; done)) _ | refine Below.drew ?_ | refine below_drewN ?_ _ | refine Below.trans ?_ (Below.mono (by assumption) (by first | omega | (simp; omega) | (simp; done)))))))).mono ?_
    rintro e W ⟨rfl, hb⟩
    have HB0 : Below w.heap.size w W := by (repeat (first | exact Below.refl _ _ | refine Below.setCell ?_ (by first | omega | (simp; omega) | (simp; done)) _ | refine Below.alloc ?_ (by first | omega | (simp; omega) | (simp; done)) _ | refine Below.drew ?_ | refine below_drewN ?_ _ | refine Below.trans ?_ (Below.mono (by assumption) (by first | omega | (simp; omega) | (simp; done)))))
    clear hb
    go_wp2_with fail
    go_ret2
    exact ⟨rfl, HB0⟩
  · have HFN := Lib.hid (fine hv)
    have E : Hid (StepsV f k = stepsF f s) := by unfold Hid StepsV; rw [if_pos hc]; simp [hs]
    have CH := Lib.hid (fun (W : World) hL hW => checkSlip_is hc W hL hW)
    have ST := Lib.hid (fun (W : World) hW => steps_any f HFN.out k s hs W hW)
    rw [hc, E.out]
    obtain ⟨an, han⟩ : ∃ an, an = stepsF f s := ⟨_, rfl⟩
    rw [← han] at ST ⊢
    clear h hl hc han hs E hv
    go_enter Tryd.func18, Tryd.ntmps18
    go_wp2_with fail
    refine (CH.out _ (HL.out.next (by (repeat (first | exact Below.refl _ _ | refine Below.setCell ?_ (by first | omega | (simp; omega) | (simp; done)) _ | refine Below.alloc ?_ (by first | omega | (simp; omega) | (simp; done)) _ | refine Below.drew ?_ | refine below_drewN ?_ _ | refine Below.trans ?_ (Below.mono (by assumption) (by first | omega | (simp; omega) | (simp; done))))))) (HF.out.to (by (repeat (first | exact Below.refl _ _ | refine Below.setCell ?_ (by first | omega | (simp; omega) | (simp; done)) _ | refine Below.alloc ?_ (by first | omega | (simp; omega) | (simp; done)) _ | refine Below.drew ?_ | refine below_drewN ?_ _ | refine Below.trans ?_ (Below.mono (by assumption) (by first | omega | (simp; omega) | (simp; done)))))))).mono ?_
    rintro e W ⟨rfl, hb⟩
    have HB0 : Below w.heap.size w W := by (repeat (first | exact Below.refl _ _ | refine Below.setCell ?_ (by first | omega | (simp; omega) | (simp; done)) _ | refine Below.alloc ?_ (by first | omega | (simp; omega) | (simp; done)) _ | refine Below.drew ?_ | refine below_drewN ?_ _ | refine Below.trans ?_ (Below.mono (by assumption) (by first | omega | (simp; omega) | (simp; done)))))
    have a0 : W.cell? ⟨w.heap.size, 0, none⟩ = some (.slice f.fA f.far.length f.fC) := cell_keep hb (by simp [go_sem])
    have a1 : W.cell? ⟨w.heap.size, 1, none⟩ = some (vi f.slo) := cell_keep hb (by simp [go_sem])
    have a2 : W.cell? ⟨w.heap.size, 2, none⟩ = some (vi f.shi) := cell_keep hb (by simp [go_sem])
    have a3 : W.cell? ⟨w.heap.size, 3, none⟩ = some (.slice f.pA f.picks.length f.pC) := cell_keep hb (by simp [go_sem])
    have a4 : W.cell? ⟨w.heap.size, 4, none⟩ = some (vi f.carry) := cell_keep hb (by simp [go_sem])
    have a5 : W.cell? ⟨w.heap.size, 5, none⟩ = some (.slice f.sA f.slips.length f.sC) := cell_keep hb (by simp [go_sem])
    clear hb
    go_wp2_with fail
    refine (ST.out _ (HF.out.to HB0)).mono ?_
    rintro e W2 ⟨rfl, hb2⟩
    go_wp2_with fail
    go_ret2
    exact ⟨rfl, gr_trans HB0 hb2⟩
abbrev endsV : Value := .agg #[.func (.func 111) #[] #[], .func (.func 112) #[] #[]]
theorem ends_any (w : World) :
    Calls Tryd.prog 93 #[] w fun e w' => e = .returned endsV ∧ Below w.heap.size w w' := by
  go_enter Tryd.func93, Tryd.ntmps93
  go_wp2_with fail
  go_wp2_with fail
  refine bodyPost_ret (v := endsV) (by simp [results, Tryd.results93, go_sem]) rfl ⟨rfl, ?_⟩
  (repeat (first | exact Below.refl _ _ | refine Below.setCell ?_ (by first | omega | (simp; omega) | (simp; done)) _ | refine Below.alloc ?_ (by first | omega | (simp; omega) | (simp; done)) _ | refine Below.drew ?_ | refine below_drewN ?_ _ | refine Below.trans ?_ (Below.mono (by assumption) (by first | omega | (simp; omega) | (simp; done)))))
theorem stepsF_range {f : Floor} (hf : Fine f) {s : SSlip} (hs : s ∈ f.slips) : 0 ≤ stepsF f s ∧ stepsF f s ≤ 240000 := by
  obtain ⟨_, _, hsl⟩ := hf.slips s hs
  have hl := loadsOf_len hf hs
  have ho : ∀ q ∈ loadsOf f s, Only f.far.length q := by
    obtain ⟨o1, _, _, _⟩ := pieces_only hf.far12 hsl
    have htw := (lines_good (by have := hf.far12; omega) hsl).2
    have key : ∀ (n : Nat) (p : List Int), Twelve 12000 p → Only f.far.length p → ∀ q ∈ loadsF f.carry.toNat n p, Only f.far.length q := by
      intro n
      induction n with
      | zero => intro p _ _ q hq; simp [loadsF] at hq
      | succ n ih =>
        intro p hp hop q hq
        rw [loadsF] at hq
        split at hq
        · simp at hq
        · obtain ⟨q1, q2⟩ := only_parts hp hop f.carry.toNat
          rcases List.mem_cons.1 hq with rfl | hq
          · rw [farthest_is]; exact q2
          · rw [without_moves hp] at hq
            exact ih _ (moves_ok hp _).1 q1 q hq
    exact key _ _ htw o1
  have := stepsL_range hf ho
  unfold stepsF
  omega
def takesF (f : Floor) (s : SSlip) : Int × Int := (secsFLo f s.lines (stepsF f s), secsFHi f s.lines (stepsF f s))
set_option maxRecDepth 100000 in
theorem takes_any (f : Floor) (hv : validB f = true) (n : Nat) (s : SSlip) (hs : f.slips[n]? = some s) (w : World) (h : FloorAt w w.heap.size f) :
    Calls Tryd.prog 61 #[f.val, vi n] w fun e w' => e = .returned (spanV (takesF f s)) ∧ Below w.heap.size w w' := by
  have hf := fine hv
  have hst := stepsF_range hf (List.mem_of_getElem? hs)
  have HF := Lib.hid h
  have ST := Lib.hid (fun (W : World) hW => steps_any f hf n s hs W hW)
  obtain ⟨st, hst2⟩ : ∃ st, st = stepsF f s := ⟨_, rfl⟩
  have LO := Lib.hid (fun (W : World) hW => least_any f n s hs hv st (by omega) W hW)
  have HI := Lib.hid (fun (W : World) hW => most_any f n s hs hv st (by omega) W hW)
  unfold takesF
  rw [← hst2] at ST ⊢
  obtain ⟨tl, htl⟩ : ∃ tl, tl = secsFLo f s.lines st := ⟨_, rfl⟩
  obtain ⟨th, hth⟩ : ∃ th, th = secsFHi f s.lines st := ⟨_, rfl⟩
  rw [← htl] at LO ⊢
  rw [← hth] at HI ⊢
  clear h hs hv hst hst2 htl hth hf
  go_enter Tryd.func61, Tryd.ntmps61
  go_wp2_with fail
  obtain ⟨V0, hV0⟩ : ∃ V0, V0 = (w.alloc (.cells #[.slice f.fA f.far.length f.fC, vi f.slo, vi f.shi, .slice f.pA f.picks.length f.pC, vi f.carry, .slice f.sA f.slips.length f.sC] 89)).alloc (.cells #[vi 0, vi 0] 24) := ⟨_, rfl⟩
  have hb0 : Below w.heap.size w V0 := by rw [hV0]; (repeat (first | exact Below.refl _ _ | refine Below.setCell ?_ (by first | omega | (simp; omega) | (simp; done)) _ | refine Below.alloc ?_ (by first | omega | (simp; omega) | (simp; done)) _ | refine Below.drew ?_ | refine below_drewN ?_ _ | refine Below.trans ?_ (Below.mono (by assumption) (by first | omega | (simp; omega) | (simp; done)))))
  have XF : Hid (CellsBox V0 w.heap.size 89 f.cells) := by unfold Hid; rw [hV0]; exact (CellsBox.new w 89 f.cells).alloc _
  have XR : Hid (CellsBox V0 (w.heap.size + 1) 24 [vi 0, vi 0]) := by
    unfold Hid; rw [hV0]
    have := CellsBox.new (w.alloc (.cells #[.slice f.fA f.far.length f.fC, vi f.slo, vi f.shi, .slice f.pA f.picks.length f.pC, vi f.carry, .slice f.sA f.slips.length f.sC] 89)) 24 [vi 0, vi 0]
    simpa using this
  rw [← hV0]
  clear hV0
  refine' wp_region_box (fun w' => Below V0.heap.size V0 w') (stays_below _) [0, 1, 2, 3, 4, 5] 2 23 (by kernel_rfl) (by kernel_rfl) rfl (by kernel_rfl) (by kernel_rfl) rfl (by kernel_rfl) ?hl5 (Below.refl _ _) ?hq5 ?hr5
  case hl5 =>
    simp only [List.map_cons, List.map_nil, List.getD_cons_zero, List.getD_cons_succ]
    exact rfl
  case hq5 =>
    intro w0 hw0
    have K := XF.out.keep hw0
    have f0 := K.cell (j := 0) rfl
    have f1 := K.cell (j := 1) rfl
    have f2 := K.cell (j := 2) rfl
    have f3 := K.cell (j := 3) rfl
    have f4 := K.cell (j := 4) rfl
    have f5 := K.cell (j := 5) rfl
    have zf := K.lt
    clear K
    (repeat (go_big_quiet_step ((go_at_call 59; refine Calls.grow_of (ST.out _ (HF.out.to (gr_trans hb0 (gr_trans hw0 (plus_below _ _)))))))))
    exact wpQuiet_nil rfl
  refine wpUp_one (i := 6) (by kernel_rfl) rfl rfl (fun w1 h1 h2 K hK => ?_)
  go_simp
  obtain ⟨V, hV⟩ : ∃ V, V = w1.alloc (.cells #[.slice none 0 0, vi 0, vi 0, .slice none 0 0, vi 0, .slice none 0 0, vi 0, vi 0] 137) := ⟨_, rfl⟩
  have hbV : Below w1.heap.size w1 V := by rw [hV]; exact (Below.refl _ _).alloc (Nat.le_refl _) _
  have XV : Hid (CellsBox V w1.heap.size 137 [.slice none 0 0, vi 0, vi 0, .slice none 0 0, vi 0, .slice none 0 0, vi 0, vi 0]) := by unfold Hid; rw [hV]; exact CellsBox.new w1 _ _
  rw [← hV]
  clear hV
  refine hK _ _ (gr_trans h2 hbV) ?_
  refine wpUp_one (i := 7) (by kernel_rfl) rfl rfl (fun w3 h3 h4 K2 hK2 => ?_)
  have Y3 := XV.out.keep h3
  have c0 := Y3.cell (j := 0) rfl
  have c1 := Y3.cell (j := 1) rfl
  have c2 := Y3.cell (j := 2) rfl
  have c3 := Y3.cell (j := 3) rfl
  have c4 := Y3.cell (j := 4) rfl
  have c5 := Y3.cell (j := 5) rfl
  have c6 := Y3.cell (j := 6) rfl
  have c7 := Y3.cell (j := 7) rfl
  have z0 := Y3.frozen 0
  have z1 := Y3.frozen 1
  have z2 := Y3.frozen 2
  have z3 := Y3.frozen 3
  have z4 := Y3.frozen 4
  have z5 := Y3.frozen 5
  have z6 := Y3.frozen 6
  have z7 := Y3.frozen 7
  have Y4 := (((((((Y3.store 0 (.slice f.fA f.far.length f.fC)).store 1 (vi f.slo)).store 2 (vi f.shi)).store 3 (.slice f.pA f.picks.length f.pC)).store 4 (vi f.carry)).store 5 (.slice f.sA f.slips.length f.sC)).store 6 (vi n)).store 7 (vi st)
  have HB4x : Below V0.heap.size V0 _ := (((((((h4.setCell (p := ⟨w1.heap.size, 0, none⟩) h2.size (.slice f.fA f.far.length f.fC)).setCell (p := ⟨w1.heap.size, 1, none⟩) h2.size (vi f.slo)).setCell (p := ⟨w1.heap.size, 2, none⟩) h2.size (vi f.shi)).setCell (p := ⟨w1.heap.size, 3, none⟩) h2.size (.slice f.pA f.picks.length f.pC)).setCell (p := ⟨w1.heap.size, 4, none⟩) h2.size (vi f.carry)).setCell (p := ⟨w1.heap.size, 5, none⟩) h2.size (.slice f.sA f.slips.length f.sC)).setCell (p := ⟨w1.heap.size, 6, none⟩) h2.size (vi n)).setCell (p := ⟨w1.heap.size, 7, none⟩) h2.size (vi st)
  have HY4 := Lib.hid Y4
  have HB4 := Lib.hid HB4x
  clear Y4 Y3 HB4x
  go_simp
  refine (?_ : ∀ W9 : World, CellsBox W9 w1.heap.size 137 [.slice f.fA f.far.length f.fC, vi f.slo, vi f.shi, .slice f.pA f.picks.length f.pC, vi f.carry, .slice f.sA f.slips.length f.sC, vi n, vi st] ∧ Below V0.heap.size V0 W9 → K2 _ W9) _ ⟨HY4.out, HB4.out⟩
  clear c0 c1 c2 c3 c4 c5 c6 c7 z0 z1 z2 z3 z4 z5 z6 z7
  intro W9 ⟨Y9, B9⟩
  refine hK2 _ _ B9 (wpUp_done (by kernel_rfl) (fun W4 h7 h8 => NoPanic.normal ?_))
  have YW := Lib.hid (Y9.keep h7)
  have hw1 : V0.heap.size ≤ w1.heap.size := h2.size
  have BW : Below w.heap.size w W4 := gr_trans hb0 h8
  have XF4 := Lib.hid (XF.out.keep h8)
  have XR4 := Lib.hid (XR.out.keep h8)
  obtain ⟨bw, hbw⟩ : ∃ bw, bw = w1.heap.size := ⟨_, rfl⟩
  have hbwR : w.heap.size + 1 < bw := by have := XR.out.lt; omega
  rw [← hbw] at YW
  try rw [← hbw]
  clear hbw hw1 hK hK2 K K2 h1 h2 h3 h4 h7 h8 B9 Y9 HY4 HB4 W9 w3 XV hbV V w1 XF XR hb0 V0
  go_wp2_with fail
  refine (ends_any _).mono ?_
  rintro e W5 ⟨rfl, hb5⟩
  obtain ⟨V5, hV5⟩ : ∃ V5, V5 = W5.alloc (.cells #[.func (.func 111) #[] #[], .func (.func 112) #[] #[]] 139) := ⟨_, rfl⟩
  have hbV5 : Below W4.heap.size W4 V5 := by rw [hV5]; exact hb5.alloc hb5.size _
  have XE : Hid (CellsBox V5 W5.heap.size 139 [.func (.func 111) #[] #[], .func (.func 112) #[] #[]]) := by unfold Hid; rw [hV5]; exact CellsBox.new W5 _ _
  have YW5 := Lib.hid (YW.out.keep hbV5)
  have XR5 := Lib.hid (XR4.out.keep hbV5)
  have BW5 : Below w.heap.size w V5 := gr_trans BW hbV5
  have hz5 := hb5.size
  have hzR := XR4.out.lt
  go_wp2_with fail
  rw [← hV5]
  clear hV5 YW XR4 hb5 hbV5
  have hW5 : W5.heap.size < V5.heap.size := XE.out.lt
  have hzR5 := XR5.out.lt
  refine' wp_region_box (fun w' => Spare V5.heap.size (w.heap.size + 1) V5 w' ∧ ∃ x y, CellsBox w' (w.heap.size + 1) 24 [vi x, vi y]) ?hC [0, 1, 2, 3, 4, 5, 6, 7, 8] 1 23 (by kernel_rfl) (by kernel_rfl) rfl (by kernel_rfl) (by kernel_rfl) rfl (by kernel_rfl) ?hl6 ⟨Spare.refl _ _ _, 0, 0, XR5.out⟩ ?hq6 ?hr6
  case hC =>
    rintro X Y ⟨h1, x, y, h2⟩ h3
    exact ⟨h1.trans (spare_of_below _ h3 h1.size), x, y, h2.keep h3⟩
  case hl6 =>
    simp only [List.map_cons, List.map_nil, List.getD_cons_zero, List.getD_cons_succ]
    exact rfl
  case hq6 =>
    rintro w0 ⟨hs0, -⟩
    have hk : ∀ {b : Nat} {t : TypeId} {cs : List Value}, CellsBox V5 b t cs → b ≠ w.heap.size + 1 → CellsBox w0 b t cs := fun h hne => (hs0.block _ h.lt hne).trans h
    have K := hk YW5.out (by omega)
    have hBw0 : Below w.heap.size w w0 := BW5.trans (hs0.below (by omega) (by omega))
    have f0 := K.cell (j := 0) rfl
    have f1 := K.cell (j := 1) rfl
    have f2 := K.cell (j := 2) rfl
    have f3 := K.cell (j := 3) rfl
    have f4 := K.cell (j := 4) rfl
    have f5 := K.cell (j := 5) rfl
    have f6 := K.cell (j := 6) rfl
    have f7 := K.cell (j := 7) rfl
    have zf := K.lt
    have E := hk XE.out (by omega)
    have e0 := E.cell (j := 0) rfl
    have e1 := E.cell (j := 1) rfl
    have ze := E.lt
    clear K E hk
    (repeat (go_big_quiet_step (first | (go_at_call 111; refine Calls.grow_of (LO.out _ (HF.out.to (gr_trans hBw0 (plus_below _ _))))) | (go_at_call 112; refine Calls.grow_of (HI.out _ (HF.out.to (gr_trans hBw0 (plus_below _ _))))))))
    exact wpQuiet_nil rfl
  refine wpUp_one (i := 9) (by kernel_rfl) rfl rfl (fun w7 h1 h2 K hK => ?_)
  obtain ⟨hs7, x, y, hc7⟩ := h2
  have c0 := hc7.cell (j := 0) rfl
  have c1 := hc7.cell (j := 1) rfl
  have z0 := hc7.frozen 0
  have z1 := hc7.frozen 1
  have R7 := (hc7.store 0 (vi tl)).store 1 (vi th)
  have S7 : Spare V5.heap.size (w.heap.size + 1) V5 ((w7.setCell ⟨w.heap.size + 1, 0, none⟩ (vi tl)).setCell ⟨w.heap.size + 1, 1, none⟩ (vi th)) := hs7.trans ⟨rfl, rfl, rfl, by simp, fun k hk hl => (heap_setCell_other _ _ k _ hl).trans (heap_setCell_other _ _ k _ hl)⟩
  have HR7 := Lib.hid R7
  have HS7 := Lib.hid S7
  clear R7 S7
  go_simp
  refine hK _ _ ⟨HS7.out, tl, th, HR7.out⟩ (wpUp_done (by kernel_rfl) (fun W8 g1 g2 => NoPanic.normal ?_))
  have R8 := HR7.out.keep g1
  have r0 := R8.cell (j := 0) rfl
  have r1 := R8.cell (j := 1) rfl
  have HB8 : Below w.heap.size w W8 := BW5.trans (g2.1.below (by omega) (by omega))
  clear R8 g1 g2 HR7 HS7 c0 c1 z0 z1 hK K
  go_wp2_with fail
  refine bodyPost_ret (v := spanV (tl, th)) (by simp [results, Tryd.results61, go_sem, r0, r1]) rfl ⟨rfl, HB8⟩
end Go.Proofs.YtomgnpfpaodpiaaDoor

/- Contracts of Takes and done. -/
namespace Go.Proofs.YtomgnpfpaodpiaaDoor
open Go Go.RowKit
set_option maxHeartbeats 2000000
def TakesV (f : Floor) (n : Int) : Int × Int := if checkSlipV f n = 0 then (match f.slips[n.toNat]? with | some s => takesF f s | none => (0, 0)) else (0, 0)
theorem Takes_any (f : Floor) (n : Int) (w : World) (hl : Lim w) (h : FloorAt w w.heap.size f) :
    Calls Tryd.prog 20 #[f.val, vi n] w fun e w' => e = .returned (.tuple #[spanV (TakesV f n), vi (checkSlipV f n)]) ∧ Below w.heap.size w w' := by
  have HL := Lib.hid hl
  have HF := Lib.hid h
  rcases check_cases f n with hc | ⟨hc, hv, k, s, rfl, hs⟩
  · obtain ⟨ec, hec⟩ : ∃ ec, checkSlipV f n = ec := ⟨_, rfl⟩
    have hne : ec ≠ 0 := by omega
    have hned : decide (ec = 0) = false := by simpa using hne
    have E : Hid (TakesV f n = (0, 0)) := by unfold Hid TakesV; rw [if_neg (by omega)]
    have CH := Lib.hid (fun (W : World) hL hW => checkSlip_is hec W hL hW)
    rw [E.out, hec]
    clear h hl hc hec E
    go_enter Tryd.func20, Tryd.ntmps20
    go_wp2_with fail
    refine (CH.out _ (HL.out.next (by (repeat (first | exact Below.refl _ _ | refine Below.setCell ?_ (by first | omega | (simp; omega) | (simp; done)) _ | refine Below.alloc ?_ (by first | omega | (simp; omega) | (simp; done)) _ | refine Below.drew ?_ | refine below_drewN ?_ _ | refine Below.trans ?_ (Below.mono (by assumption) (by first | omega | (simp; omega) | (simp; done))))))) (HF.out.to (by (repeat (first | exact Below.refl _ _ | refine Below.setCell ?_ (by first | omega | (simp; omega) | (simp; done)) _ | refine Below.alloc ?_ (by first | omega | (simp; omega) | (simp; done)) _ | refine Below.drew ?_ | refine below_drewN ?_ _ | refine Below.trans ?_ (Below.mono (by assumption) (by first | omega | (simp; omega) | (simp; done)))))))).mono ?_
    rintro e W ⟨rfl, hb⟩
    have HB0 : Below w.heap.size w W := by (repeat (first | exact Below.refl _ _ | refine Below.setCell ?_ (by first | omega | (simp; omega) | (simp; done)) _ | refine Below.alloc ?_ (by first | omega | (simp; omega) | (simp; done)) _ | refine Below.drew ?_ | refine below_drewN ?_ _ | refine Below.trans ?_ (Below.mono (by assumption) (by first | omega | (simp; omega) | (simp; done)))))
    have r0 : W.cell? ⟨w.heap.size + 1, 0, none⟩ = some (vi 0) := cell_keep hb (by simp [go_sem])
    have r1 : W.cell? ⟨w.heap.size + 1, 1, none⟩ = some (vi 0) := cell_keep hb (by simp [go_sem])
    have z0 : W.frozen? ⟨w.heap.size + 1, 0, none⟩ = false := soft_keep hb (by simp) (by simp [go_sem])
    have z1 : W.frozen? ⟨w.heap.size + 1, 1, none⟩ = false := soft_keep hb (by simp) (by simp [go_sem])
    have zr := cell_lt r0
    clear hb
    go_wp2_with fail
    refine bodyPost_ret (v := .tuple #[spanV (0, 0), vi ec]) (by simp [results, Tryd.results20, go_sem, r0, r1, z0, z1]) rfl ⟨rfl, ?_⟩
    (repeat (first | exact Below.refl _ _ | refine Below.setCell ?_ (by first | omega | (simp; omega) | (simp; done)) _ | refine Below.alloc ?_ (by first | omega | (simp; omega) | (simp; done)) _ | refine Below.drew ?_ | refine below_drewN ?_ _ | refine Below.trans ?_ (Below.mono (by assumption) (by first | omega | (simp; omega) | (simp; done)))))
  · have E : Hid (TakesV f k = takesF f s) := by unfold Hid TakesV; rw [if_pos hc]; simp [hs]
    have CH := Lib.hid (fun (W : World) hL hW => checkSlip_is hc W hL hW)
    have ST := Lib.hid (fun (W : World) hW => takes_any f hv k s hs W hW)
    rw [hc, E.out]
    obtain ⟨an, han⟩ : ∃ an, an = takesF f s := ⟨_, rfl⟩
    rw [← han] at ST ⊢
    obtain ⟨lo, hi⟩ := an
    clear h hl hc han hs E hv
    go_enter Tryd.func20, Tryd.ntmps20
    go_wp2_with fail
    refine (CH.out _ (HL.out.next (by (repeat (first | exact Below.refl _ _ | refine Below.setCell ?_ (by first | omega | (simp; omega) | (simp; done)) _ | refine Below.alloc ?_ (by first | omega | (simp; omega) | (simp; done)) _ | refine Below.drew ?_ | refine below_drewN ?_ _ | refine Below.trans ?_ (Below.mono (by assumption) (by first | omega | (simp; omega) | (simp; done))))))) (HF.out.to (by (repeat (first | exact Below.refl _ _ | refine Below.setCell ?_ (by first | omega | (simp; omega) | (simp; done)) _ | refine Below.alloc ?_ (by first | omega | (simp; omega) | (simp; done)) _ | refine Below.drew ?_ | refine below_drewN ?_ _ | refine Below.trans ?_ (Below.mono (by assumption) (by first | omega | (simp; omega) | (simp; done)))))))).mono ?_
    rintro e W ⟨rfl, hb⟩
    have HB0 : Below w.heap.size w W := by (repeat (first | exact Below.refl _ _ | refine Below.setCell ?_ (by first | omega | (simp; omega) | (simp; done)) _ | refine Below.alloc ?_ (by first | omega | (simp; omega) | (simp; done)) _ | refine Below.drew ?_ | refine below_drewN ?_ _ | refine Below.trans ?_ (Below.mono (by assumption) (by first | omega | (simp; omega) | (simp; done)))))
    have a0 : W.cell? ⟨w.heap.size, 0, none⟩ = some (.slice f.fA f.far.length f.fC) := cell_keep hb (by simp [go_sem])
    have a1 : W.cell? ⟨w.heap.size, 1, none⟩ = some (vi f.slo) := cell_keep hb (by simp [go_sem])
    have a2 : W.cell? ⟨w.heap.size, 2, none⟩ = some (vi f.shi) := cell_keep hb (by simp [go_sem])
    have a3 : W.cell? ⟨w.heap.size, 3, none⟩ = some (.slice f.pA f.picks.length f.pC) := cell_keep hb (by simp [go_sem])
    have a4 : W.cell? ⟨w.heap.size, 4, none⟩ = some (vi f.carry) := cell_keep hb (by simp [go_sem])
    have a5 : W.cell? ⟨w.heap.size, 5, none⟩ = some (.slice f.sA f.slips.length f.sC) := cell_keep hb (by simp [go_sem])
    have r0 : W.cell? ⟨w.heap.size + 1, 0, none⟩ = some (vi 0) := cell_keep hb (by simp [go_sem])
    have r1 : W.cell? ⟨w.heap.size + 1, 1, none⟩ = some (vi 0) := cell_keep hb (by simp [go_sem])
    have z0 : W.frozen? ⟨w.heap.size + 1, 0, none⟩ = false := soft_keep hb (by simp) (by simp [go_sem])
    have z1 : W.frozen? ⟨w.heap.size + 1, 1, none⟩ = false := soft_keep hb (by simp) (by simp [go_sem])
    have zr := cell_lt r0
    clear hb
    go_wp2_with fail
    refine (ST.out _ (HF.out.to HB0)).mono ?_
    rintro e W2 ⟨rfl, hb2⟩
    have s0 := cell_keep hb2 r0
    have s1 := cell_keep hb2 r1
    have y0 := soft_keep hb2 zr z0
    have y1 := soft_keep hb2 zr z1
    have zr2 := cell_lt s0
    have HB2 : Below w.heap.size w W2 := gr_trans HB0 hb2
    clear a0 a1 a2 a3 a4 a5 r0 r1 z0 z1 hb2
    go_wp2_with fail
    refine bodyPost_ret (v := .tuple #[spanV (lo, hi), vi 0]) (by simp [results, Tryd.results20, go_sem, s0, s1, y0, y1]) rfl ⟨rfl, ?_⟩
    (repeat (first | exact Below.refl _ _ | refine Below.setCell ?_ (by first | omega | (simp; omega) | (simp; done)) _ | refine Below.alloc ?_ (by first | omega | (simp; omega) | (simp; done)) _ | refine Below.drew ?_ | refine below_drewN ?_ _ | refine Below.trans ?_ (Below.mono (by assumption) (by first | omega | (simp; omega) | (simp; done)))))
end Go.Proofs.YtomgnpfpaodpiaaDoor

/- Contract of done. -/
namespace Go.Proofs.YtomgnpfpaodpiaaDoor
open Go Go.RowKit
set_option maxHeartbeats 2000000
theorem madeCells_rep (z : Array Value) (v : Value) (hz : ∀ i, i < z.size → z[i]! = v) (h0 : 0 < z.size) (n : Nat) : madeCells z n = (List.replicate n v).toArray := by
  apply Array.ext
  · simp [madeCells]
  · intro i h1 h2
    simp only [madeCells, Array.getElem_map, Array.getElem_range]
    rw [hz _ (Nat.mod_lt _ h0)]
    simp
theorem info_span : (Tryd.prog.info? 24).map (fun i => (i.zero, i.size, i.bytes)) = some (some (.agg #[vi 0, vi 0]), 2, 16) := by kernel_rfl
theorem mkSpans (n : Nat) (hn : n ≤ 1000) (w : World) : (Instr.makeSlice 25 (.int .i64 n) (.int .i64 n)).run Tryd.prog w = .ok (.slice (some ⟨w.heap.size, 0, none⟩) n n) (w.alloc (.cells (List.replicate (n * 2) (vi 0)).toArray 24)) := by
  obtain ⟨i0, hi, hy0, hy1, hy2⟩ := info_parts info_span
  have := run_make (P := Tryd.prog) w 25 24 i0 _ Tryd.underlying25 hi hy0 .i64 .i64 n n (by omega) (by omega) (by rw [hy2]; omega) (by omega)
  rw [this, hy1, Int.toNat_natCast, madeCells_rep _ (vi 0)]
  · intro i hi
    have : i = 0 ∨ i = 1 := by simp [Value.cells] at hi; omega
    rcases this with rfl | rfl <;> rfl
  · simp [Value.cells]
theorem mkInts (n : Nat) (hn : n ≤ 1000) (w : World) : (Instr.makeSlice 22 (.int .i64 n) (.int .i64 n)).run Tryd.prog w = .ok (.slice (some ⟨w.heap.size, 0, none⟩) n n) (w.alloc (.cells (List.replicate n (vi 0)).toArray 3)) := by
  obtain ⟨i0, hi, hy0, hy1, hy2⟩ := info_parts info_int
  have := run_make (P := Tryd.prog) w 22 3 i0 _ Tryd.underlying22 hi hy0 .i64 .i64 n n (by omega) (by omega) (by rw [hy2]; omega) (by omega)
  rw [this, hy1, Int.toNat_natCast, Nat.mul_one, madeCells_rep _ (vi 0)]
  · intro i hi
    have : i = 0 := by simp [Value.cells] at hi; omega
    subst this; rfl
  · simp [Value.cells]
abbrev flatS (l : List (Int × Int)) : List Value := l.flatMap spanC
theorem flatS_rep (n : Nat) : flatS (List.replicate n (0, 0)) = List.replicate (n * 2) (vi 0) := by
  induction n with
  | zero => rfl
  | succ n ih =>
    rw [List.replicate_succ, show (n + 1) * 2 = n * 2 + 1 + 1 by omega, List.replicate_succ, List.replicate_succ, ← ih]
    rfl
theorem flatS_set : ∀ (l : List (Int × Int)) (k : Nat) (p : Int × Int), k < l.length → flatS (l.set k p) = ((flatS l).set (k * 2) (vi p.1)).set (k * 2 + 1) (vi p.2)
  | [], _, _, h => by simp at h
  | a :: l, 0, p, _ => by simp [flatS, spanC]
  | a :: l, k + 1, p, h => by
    have ih := flatS_set l k p (by simpa using h)
    have e1 : flatS ((a :: l).set (k + 1) p) = vi a.1 :: vi a.2 :: flatS (l.set k p) := rfl
    have e2 : flatS (a :: l) = vi a.1 :: vi a.2 :: flatS l := rfl
    rw [e1, e2, ih, show (k + 1) * 2 = k * 2 + 1 + 1 by omega]
    simp
theorem flatS_at : ∀ (l : List (Int × Int)) (k : Nat) (p : Int × Int), l[k]? = some p → (flatS l)[k * 2]? = some (vi p.1) ∧ (flatS l)[k * 2 + 1]? = some (vi p.2)
  | [], _, _, h => by simp at h
  | a :: l, 0, p, h => by simp at h; subst h; simp [flatS, spanC]
  | a :: l, k + 1, p, h => by
    have ih := flatS_at l k p (by simpa using h)
    have e2 : flatS (a :: l) = vi a.1 :: vi a.2 :: flatS l := rfl
    rw [e2, show (k + 1) * 2 = k * 2 + 1 + 1 by omega]
    simpa using ih
/-- how long a slip takes -/
def tkF (f : Floor) (x : Int) : Int × Int := match f.slips[x.toNat]? with | some s => takesF f s | none => (0, 0)
def addS (p q : Int × Int) : Int × Int := (p.1 + q.1, p.2 + q.2)
def stepD (tk : Int → Int × Int) (st : (Int × Int) × List (Int × Int)) (x : Int) : (Int × Int) × List (Int × Int) := (addS st.1 (tk x), st.2.set x.toNat (addS st.1 (tk x)))
def rowD (tk : Int → Int × Int) (out : List (Int × Int)) (row : List Int) : List (Int × Int) := (row.foldl (stepD tk) ((0, 0), out)).2
def doneF (f : Floor) (rows : List (List Int)) : List (Int × Int) := rows.foldl (rowD (tkF f)) (List.replicate f.slips.length (0, 0))
theorem tk_range {f : Floor} (hv : validB f = true) (x : Int) : (0 ≤ (tkF f x).1 ∧ (tkF f x).1 ≤ 20000000) ∧ (0 ≤ (tkF f x).2 ∧ (tkF f x).2 ≤ 20000000) := by
  unfold tkF
  cases hs : f.slips[x.toNat]? with
  | none => simp
  | some s =>
    have hm := List.mem_of_getElem? hs
    have hf := fine hv
    have hsl := (hf.slips s hm).2.2
    have hst := stepsF_range hf hm
    have h1 := secsLo_range hv hsl (by omega : 0 ≤ stepsF f s ∧ stepsF f s ≤ 1000000) s.lines.length (Nat.le_refl _)
    have h2 := secsHi_range hv hsl (by omega : 0 ≤ stepsF f s ∧ stepsF f s ≤ 1000000) s.lines.length (Nat.le_refl _)
    have h3 := (linesB_ok hsl).2.1
    simp only [takesF, secsFLo, secsFHi]
    omega
theorem row_len (tk : Int → Int × Int) : ∀ (row : List Int) (st : (Int × Int) × List (Int × Int)), (row.foldl (stepD tk) st).2.length = st.2.length
  | [], _ => rfl
  | x :: row, st => by
    rw [List.foldl_cons, row_len tk row]
    simp [stepD]
theorem done_len (tk : Int → Int × Int) : ∀ (rows : List (List Int)) (out : List (Int × Int)), (rows.foldl (rowD tk) out).length = out.length
  | [], _ => rfl
  | r :: rows, out => by
    rw [List.foldl_cons, done_len tk rows, rowD, row_len]
theorem now_range {tk : Int → Int × Int} (h : ∀ x, (0 ≤ (tk x).1 ∧ (tk x).1 ≤ 20000000) ∧ (0 ≤ (tk x).2 ∧ (tk x).2 ≤ 20000000)) : ∀ (row : List Int) (st : (Int × Int) × List (Int × Int)), (st.1.1 ≤ (row.foldl (stepD tk) st).1.1 ∧ (row.foldl (stepD tk) st).1.1 ≤ st.1.1 + 20000000 * row.length) ∧ (st.1.2 ≤ (row.foldl (stepD tk) st).1.2 ∧ (row.foldl (stepD tk) st).1.2 ≤ st.1.2 + 20000000 * row.length)
  | [], st => by simp
  | x :: row, st => by
    have ih := now_range h row (stepD tk st x)
    have hx := h x
    rw [List.foldl_cons, List.length_cons]
    simp only [stepD, addS] at ih ⊢
    omega
end Go.Proofs.YtomgnpfpaodpiaaDoor

/- Contract of done: the walk. -/
namespace Go.Proofs.YtomgnpfpaodpiaaDoor
open Go Go.RowKit
set_option maxHeartbeats 2000000
theorem takes_tk {f : Floor} (hv : validB f = true) {x : Int} (hx : slipB f x = true) {a b : Int} (hab : tkF f x = (a, b)) (w : World) (h : FloorAt w w.heap.size f) :
    Calls Tryd.prog 61 #[f.val, vi x] w fun e w' => e = .returned (.agg #[vi a, vi b]) ∧ Below w.heap.size w w' := by
  unfold slipB at hx
  simp only [Bool.and_eq_true, decide_eq_true_eq] at hx
  have hk : x.toNat < f.slips.length := by omega
  have hs : f.slips[x.toNat]? = some f.slips[x.toNat] := List.getElem?_eq_getElem hk
  have := takes_any f hv x.toNat _ hs w h
  unfold tkF at hab
  rw [hs] at hab
  simp only at hab
  rw [hab, show ((x.toNat : Nat) : Int) = x by omega] at this
  exact this
theorem row_take (tk : Int → Int × Int) {l : List Int} {j : Nat} {x : Int} (st : (Int × Int) × List (Int × Int)) (h : l[j]? = some x) : (l.take (j + 1)).foldl (stepD tk) st = stepD tk ((l.take j).foldl (stepD tk) st) x := by
  obtain ⟨hj, rfl⟩ := List.getElem?_eq_some_iff.1 h
  rw [List.take_succ_eq_append_getElem hj, List.foldl_append]
  rfl
set_option maxRecDepth 100000 in
theorem done_any (f : Floor) (hv : validB f = true) (A : Option Addr) (cap : Nat) (ts : List SRow) (hrow : ∀ t ∈ ts, t.slips.length ≤ 9 ∧ ∀ x ∈ t.slips, slipB f x = true) (w : World) (h : FloorAt w w.heap.size f) (ht : RosterAt w w.heap.size A cap ts) :
    Calls Tryd.prog 66 #[f.val, .slice A ts.length cap] w fun e w' => ∃ b, e = .returned (.slice (some ⟨b, 0, none⟩) f.slips.length f.slips.length) ∧ w.heap.size ≤ b ∧ CellsBox w' b 24 (flatS (doneF f (ts.map SRow.slips))) ∧ Below w.heap.size w w' := by
  have htl := ht.rows.lens
  have h9 := (fine hv).slips9
  have HF := Lib.hid h
  have HT := Lib.hid ht
  have HTK := Lib.hid (fun (x a b : Int) hx (hab : tkF f x = (a, b)) (W : World) hW => takes_tk hv (x := x) hx hab W hW)
  have HRG := Lib.hid (tk_range hv)
  have HROW := Lib.hid hrow
  obtain ⟨G, hG⟩ : ∃ G : Nat → List (Int × Int), G = fun k => ((ts.map SRow.slips).take k).foldl (rowD (tkF f)) (List.replicate f.slips.length (0, 0)) := ⟨_, rfl⟩
  have G0 : Hid (G 0 = List.replicate f.slips.length (0, 0)) := by unfold Hid; rw [hG]; rfl
  have GL : Hid (∀ k, (G k).length = f.slips.length) := fun k => by rw [hG]; simp only; rw [done_len]; simp
  have GS : Hid (∀ (k : Nat) (t : SRow), ts[k]? = some t → G (k + 1) = rowD (tkF f) (G k) t.slips) := fun k t hk => by
    rw [hG]
    obtain ⟨hk2, rfl⟩ := List.getElem?_eq_some_iff.1 hk
    simp only
    rw [List.take_succ_eq_append_getElem (by simpa using hk2), List.foldl_append]
    simp
  have GA : Hid (G ts.length = doneF f (ts.map SRow.slips)) := by
    unfold Hid; rw [hG]
    simp only
    rw [show ts.length = (ts.map SRow.slips).length by simp, List.take_length]
    rfl
  obtain ⟨R, hR⟩ : ∃ R, R = doneF f (ts.map SRow.slips) := ⟨_, rfl⟩
  obtain ⟨tk, htk⟩ : ∃ tk, tk = tkF f := ⟨_, rfl⟩
  obtain ⟨sb, hsb⟩ : ∃ sb, sb = slipB f := ⟨_, rfl⟩
  have HSB : Hid (∀ x, sb x = true → 0 ≤ x ∧ x < f.slips.length) := fun x hx => by
    rw [hsb] at hx; unfold slipB at hx
    simpa using hx
  rw [← hR] at GA ⊢
  rw [← htk] at GS HRG HTK
  rw [← hsb] at HROW HTK
  clear hG hR htk hsb hrow h ht hv
  have hmk := mkSpans f.slips.length (by omega)
  go_enter Tryd.func66, Tryd.ntmps66
  go_wp2_with fail
  obtain ⟨V0, hV0⟩ : ∃ V0, V0 = (w.alloc (.cells #[.slice f.fA f.far.length f.fC, vi f.slo, vi f.shi, .slice f.pA f.picks.length f.pC, vi f.carry, .slice f.sA f.slips.length f.sC] 89)).alloc (.cells (Array.replicate (f.slips.length * 2) (vi 0)) 24) := ⟨_, rfl⟩
  have hb0 : Below w.heap.size w V0 := by rw [hV0]; (repeat (first | exact Below.refl _ _ | refine Below.setCell ?_ (by first | omega | (simp; omega) | (simp; done)) _ | refine Below.alloc ?_ (by first | omega | (simp; omega) | (simp; done)) _ | refine Below.drew ?_ | refine below_drewN ?_ _ | refine Below.trans ?_ (Below.mono (by assumption) (by first | omega | (simp; omega) | (simp; done)))))
  have XF : Hid (CellsBox V0 w.heap.size 89 f.cells) := by unfold Hid; rw [hV0]; exact (CellsBox.new w 89 f.cells).alloc _
  have XR : Hid (CellsBox V0 (w.heap.size + 1) 24 (flatS (G 0))) := by
    unfold Hid; rw [hV0, G0.out, flatS_rep]
    have := CellsBox.new (w.alloc (.cells #[.slice f.fA f.far.length f.fC, vi f.slo, vi f.shi, .slice f.pA f.picks.length f.pC, vi f.carry, .slice f.sA f.slips.length f.sC] 89)) 24 (List.replicate (f.slips.length * 2) (vi 0))
    simp only [List.toArray_replicate, World.size_alloc] at this
    exact this
  rw [← hV0]
  clear hV0 hmk
  go_loopw [7, 8, 10, 18, 25] (fun a b c i j wr => ∃ k : Nat, k ≤ ts.length ∧ i = .int .i64 k ∧ Below w.heap.size w wr ∧ Hid (CellsBox wr w.heap.size 89 f.cells) ∧ Hid (CellsBox wr (w.heap.size + 1) 24 (flatS (G k)))) (fun _ _ _ i _ _ => ts.length - (intOf i).toNat)
  case atStart => exact ⟨0, Nat.zero_le _, rfl, hb0, XF, XR⟩
  clear XF XR hb0 V0
  obtain ⟨k, hk, rfl, hB, XF, XR⟩ := hrel
  obtain ⟨wo, hwo⟩ : ∃ wo, wo = wr := ⟨_, rfl⟩
  subst hwo
  have hz := hB.size
  have zR := XR.out.lt
  by_cases hlt : k < ts.length
  · obtain ⟨t, ht⟩ : ∃ t, ts[k]? = some t := ⟨_, List.getElem?_eq_getElem hlt⟩
    have hTr := HT.out.to hB
    obtain ⟨bb, off, rfl, hbb, x0⟩ := row1 hTr.rows.row ht rfl
    have HTL := Lib.hid (hTr.each t (List.mem_of_getElem? ht))
    have hln := HTL.out.lens
    have HGk := Lib.hid (GS.out k t ht)
    obtain ⟨ht9, htB⟩ := HROW.out t (List.mem_of_getElem? ht)
    have HTB := Lib.hid htB
    have zbb : bb < wo.heap.size := cell_lt x0
    have hkI : (k : Int) < ts.length := by omega
    have h0k : (0 : Int) ≤ k := by omega
    have HTM := Lib.hid (List.mem_of_getElem? ht)
    clear ht hTr htB
    obtain ⟨tA, tC, tl⟩ := t
    simp only at HTL HGk hln ht9 HTB
    replace x0 : wo.cell? ⟨bb, off + k, none⟩ = some (.slice tA tl.length tC) := x0
    obtain ⟨S, hS⟩ : ∃ S : Nat → (Int × Int) × List (Int × Int), S = fun j => (tl.take j).foldl (stepD tk) ((0, 0), G k) := ⟨_, rfl⟩
    have S0 : Hid (S 0 = ((0, 0), G k)) := by unfold Hid; rw [hS]; rfl
    have SS : Hid (∀ (j : Nat) (x : Int), tl[j]? = some x → S (j + 1) = stepD tk (S j) x) := fun j x hx => by rw [hS]; exact row_take tk _ hx
    have SA : Hid ((S tl.length).2 = G (k + 1)) := by unfold Hid; rw [hS, HGk.out]; simp only; rw [List.take_length]; rfl
    have SR : Hid (∀ j, (0 ≤ (S j).1.1 ∧ (S j).1.1 ≤ 180000000) ∧ (0 ≤ (S j).1.2 ∧ (S j).1.2 ≤ 180000000)) := fun j => by
      have := now_range HRG.out (tl.take j) ((0, 0), G k)
      have hl : (tl.take j).length ≤ 9 := by rw [List.length_take]; omega
      rw [hS]; simp only at this ⊢; omega
    have SL : Hid (∀ j, (S j).2.length = f.slips.length) := fun j => by rw [hS]; simp only; rw [row_len]; exact GL.out k
    clear hS HGk
    go_wp2_with fail
    refine (one_any 0 _).mono ?_
    rintro e W1 ⟨rfl, hb1⟩
    have hzb := hb1.size
    obtain ⟨V1, hV1⟩ : ∃ V1, V1 = W1.alloc (.cells #[vi 0, vi 0] 24) := ⟨_, rfl⟩
    have hbV : Below wo.heap.size wo V1 := by rw [hV1]; exact hb1.alloc hzb _
    have XB : Hid (CellsBox V1 W1.heap.size 24 [vi (S 0).1.1, vi (S 0).1.2]) := by unfold Hid; rw [hV1, S0.out]; exact CellsBox.new W1 _ _
    have XF1 := Lib.hid (XF.out.keep hbV)
    have XR1 : Hid (CellsBox V1 (w.heap.size + 1) 24 (flatS (S 0).2)) := by unfold Hid; rw [S0.out]; exact XR.out.keep hbV
    obtain ⟨b8, hb8⟩ : ∃ b8, b8 = W1.heap.size := ⟨_, rfl⟩
    have hb8z : wo.heap.size ≤ b8 := by omega
    go_wp2_with fail
    rw [← hV1, ← hb8]
    rw [← hb8] at XB
    clear hV1 hb8 hb1 x0 hzb W1
    go_loopw [10, 25] (fun c i w2 => ∃ j : Nat, j ≤ tl.length ∧ i = .int .i64 j ∧ Below w.heap.size w w2 ∧ wo.heap.size ≤ w2.heap.size ∧ Hid (CellsBox w2 b8 24 [vi (S j).1.1, vi (S j).1.2]) ∧ Hid (CellsBox w2 w.heap.size 89 f.cells) ∧ Hid (CellsBox w2 (w.heap.size + 1) 24 (flatS (S j).2)) ∧ Hid (Below wo.heap.size wo w2 ∨ True)) (fun _ i _ => tl.length - (intOf i).toNat)
    case atStart => exact ⟨0, Nat.zero_le _, rfl, hB.trans (hbV.mono hz), hbV.size, XB, XF1, XR1, .inr trivial⟩
    clear XB XF1 XR1 hbV V1
    obtain ⟨j, hj, rfl, hB2, hzz, XB, XF2, XR2, -⟩ := hrel
    have zR2 := XR2.out.lt
    have z82 := XB.out.lt
    by_cases hjl : j < tl.length
    · obtain ⟨x, hx⟩ : ∃ x, tl[j]? = some x := ⟨_, List.getElem?_eq_getElem hjl⟩
      obtain ⟨bc, oc, htA, hbc, y0⟩ := ints_at ((HT.out.to hB2).each _ HTM.out) hx
      simp only at htA
      subst htA
      have hsx : sb x = true := HTB.out x (List.mem_of_getElem? hx)
      obtain ⟨hx0, hx1⟩ := HSB.out x hsx
      obtain ⟨p, q, hpq⟩ : ∃ p q, tk x = (p, q) := ⟨_, _, rfl⟩
      have TK := Lib.hid (fun (W : World) hW => HTK.out x p q hsx hpq W hW)
      have HSn := Lib.hid (SS.out j x hx)
      have hSj := SR.out j
      have hLj := SL.out j
      obtain ⟨sj, hsj⟩ : ∃ sj, sj = S j := ⟨_, rfl⟩
      rw [← hsj] at XB XR2 HSn hSj hLj
      obtain ⟨⟨lo, hi⟩, out⟩ := sj
      simp only at XB XR2 hSj hLj
      obtain ⟨s, rfl⟩ : ∃ s : Nat, x = s := ⟨x.toNat, by omega⟩
      have HSn2 : Hid (S (j + 1) = ((lo + p, hi + q), out.set s (lo + p, hi + q))) := by unfold Hid; rw [HSn.out, stepD, hpq]; simp [addS]
      have hpr := HRG.out s
      rw [hpq] at hpr
      simp only at hpr
      have AD := Lib.hid (fun (W : World) => add_any lo hi p q (by omega) (by omega) (by omega) (by omega) W)
      have hjI : (j : Int) < tl.length := by omega
      have h0j : (0 : Int) ≤ j := by omega
      have zbc : bc < wr.heap.size := cell_lt y0
      have hs1 : s < f.slips.length := by omega
      obtain ⟨os, hos⟩ : ∃ os, out[s]? = some os := ⟨_, List.getElem?_eq_getElem (by omega)⟩
      obtain ⟨v0, v1⟩ := flatS_at out s os hos
      have HV0 := Lib.hid v0
      have HV1 := Lib.hid v1
      have f0 := XF2.out.cell (j := 0) rfl
      have f1 := XF2.out.cell (j := 1) rfl
      have f2 := XF2.out.cell (j := 2) rfl
      have f3 := XF2.out.cell (j := 3) rfl
      have f4 := XF2.out.cell (j := 4) rfl
      have f5 := XF2.out.cell (j := 5) rfl
      have zF := XF2.out.lt
      have b0 := XB.out.cell (j := 0) rfl
      have b1 := XB.out.cell (j := 1) rfl
      clear hx hsx hsj HSn hpq hos v0 v1 HT HTL HTM HTB GS GA GL G0 SS SA SR SL S0 HROW
      go_wp2_with fail
      go_region_with (first
        | (go_at_call 61; go_loud (refine (TK.out _ (HF.out.to (gr_trans hB2 (by (repeat (first | exact Below.refl _ _ | refine Below.setCell ?_ (by first | omega | (simp; omega) | (simp; done)) _ | refine Below.alloc ?_ (by first | omega | (simp; omega) | (simp; done)) _ | refine Below.drew ?_ | refine below_drewN ?_ _ | refine Below.trans ?_ (Below.mono (by assumption) (by first | omega | (simp; omega) | (simp; done))))))))).mono ?_; rintro e wq ⟨rfl, hbq⟩; have HBq : Below wr.heap.size wr wq := (by (repeat (first | exact Below.refl _ _ | refine Below.setCell ?_ (by first | omega | (simp; omega) | (simp; done)) _ | refine Below.alloc ?_ (by first | omega | (simp; omega) | (simp; done)) _ | refine Below.drew ?_ | refine below_drewN ?_ _ | refine Below.trans ?_ (Below.mono (by assumption) (by first | omega | (simp; omega) | (simp; done)))))); have k0 : wq.cell? ⟨b8, 0, none⟩ = some (vi lo) := cell_keep HBq b0; have k1 : wq.cell? ⟨b8, 1, none⟩ = some (vi hi) := cell_keep HBq b1; have zq : b8 < wq.heap.size := cell_lt k0))
        | (go_at_call 99; go_loud (refine (AD.out _).mono ?_; rintro e wv ⟨rfl, hbv⟩; have HBv : Below wr.heap.size wr wv := gr_trans HBq (by (repeat (first | exact Below.refl _ _ | refine Below.setCell ?_ (by first | omega | (simp; omega) | (simp; done)) _ | refine Below.alloc ?_ (by first | omega | (simp; omega) | (simp; done)) _ | refine Below.drew ?_ | refine below_drewN ?_ _ | refine Below.trans ?_ (Below.mono (by assumption) (by first | omega | (simp; omega) | (simp; done)))))); have l0 : wv.cell? ⟨b8, 0, none⟩ = some (vi lo) := cell_keep HBv b0; have l1 : wv.cell? ⟨b8, 1, none⟩ = some (vi hi) := cell_keep HBv b1; have zv : b8 < wv.heap.size := cell_lt l0; have y0 : wv.frozen? ⟨b8, 0, none⟩ = false := (XB.out.keep HBv).frozen 0; have y1 : wv.frozen? ⟨b8, 1, none⟩ = false := (XB.out.keep HBv).frozen 1)))
      all_goals
        have Q8 := ((XB.out.keep HBv).store 0 (vi (lo + p))).store 1 (vi (hi + q))
        have QF := ((XF2.out.keep HBv).apart ⟨b8, 0, none⟩ (vi (lo + p)) (by simp only; omega)).apart ⟨b8, 1, none⟩ (vi (hi + q)) (by simp only; omega)
        have QR := ((XR2.out.keep HBv).apart ⟨b8, 0, none⟩ (vi (lo + p)) (by simp only; omega)).apart ⟨b8, 1, none⟩ (vi (hi + q)) (by simp only; omega)
        have QB := ((gr_trans hB2 HBv).setCell (p := ⟨b8, 0, none⟩) (by simp only; omega) (vi (lo + p))).setCell (p := ⟨b8, 1, none⟩) (by simp only; omega) (vi (hi + q))
        have QS : wo.heap.size ≤ ((wv.setCell ⟨b8, 0, none⟩ (vi (lo + p))).setCell ⟨b8, 1, none⟩ (vi (hi + q))).heap.size := by have := HBv.size; simp; omega
        refine (?_ : ∀ W9 : World, CellsBox W9 b8 24 [vi (lo + p), vi (hi + q)] → CellsBox W9 w.heap.size 89 f.cells → CellsBox W9 (w.heap.size + 1) 24 (flatS out) → Below w.heap.size w W9 → wo.heap.size ≤ W9.heap.size → Exit.then _ _ _ _ W9) _ Q8 QF QR QB QS
      all_goals
        clear b0 b1 f0 f1 f2 f3 f4 f5 k0 k1 l0 l1 y0 y1 zq zv HBq HBv hbq hbv
        intro W9 X8 X7 X6 B9 S9
        have b0 := X8.cell (j := 0) rfl
        have b1 := X8.cell (j := 1) rfl
        have g0 := X6.cell HV0.out
        have g1 := X6.cell HV1.out
        have z0 := X6.frozen (s * 2)
        have z1 := X6.frozen (s * 2 + 1)
        have z8 := X8.lt
        have z6 := X6.lt
        have N8 := Lib.hid ((X8.apart ⟨w.heap.size + 1, s * 2, none⟩ (vi (lo + p)) (by simp only; omega)).apart ⟨w.heap.size + 1, s * 2 + 1, none⟩ (vi (hi + q)) (by simp only; omega))
        have N7 := Lib.hid ((X7.apart ⟨w.heap.size + 1, s * 2, none⟩ (vi (lo + p)) (by simp only; omega)).apart ⟨w.heap.size + 1, s * 2 + 1, none⟩ (vi (hi + q)) (by simp only; omega))
        have N6 := Lib.hid ((X6.store (s * 2) (vi (lo + p))).store (s * 2 + 1) (vi (hi + q)))
        have NB := Lib.hid ((B9.setCell (p := ⟨w.heap.size + 1, s * 2, none⟩) (by simp only; omega) (vi (lo + p))).setCell (p := ⟨w.heap.size + 1, s * 2 + 1, none⟩) (by simp only; omega) (vi (hi + q)))
        have NS : Hid (wo.heap.size ≤ ((W9.setCell ⟨w.heap.size + 1, s * 2, none⟩ (vi (lo + p))).setCell ⟨w.heap.size + 1, s * 2 + 1, none⟩ (vi (hi + q))).heap.size) := by unfold Hid; simp; omega
        clear X8 X7 X6 B9 HV0 HV1
        go_wp2_with fail
        go_roundw
      all_goals first
        | exact ⟨j + 1, by omega, by go_num, NB.out, NS.out, by rw [HSn2.out]; exact N8, N7, by rw [HSn2.out]; unfold Hid; rw [flatS_set _ _ _ (by omega)]; exact N6.out, .inr trivial⟩
        | (simp [intOf]; omega)
    · obtain rfl : j = tl.length := by omega
      have XR3 : Hid (CellsBox wr (w.heap.size + 1) 24 (flatS (G (k + 1)))) := by unfold Hid; rw [← SA.out]; exact XR2.out
      go_wp2_with fail
      go_roundw
      case rel => exact ⟨k + 1, by omega, by go_num, hB2, XF2, XR3⟩
      case measure => simp [intOf]; omega
  · obtain rfl : k = ts.length := by omega
    rw [GA.out] at XR
    go_wp2_with fail
    go_ret
    exact ⟨_, rfl, by omega, XR.out, hB⟩
end Go.Proofs.YtomgnpfpaodpiaaDoor

/- Contract of Done. -/
namespace Go.Proofs.YtomgnpfpaodpiaaDoor
open Go Go.RowKit
set_option maxHeartbeats 2000000
def cntB (m : Nat) : Nat := (List.range 9).countP fun i => m.testBit i
theorem cnt_or : ∀ (m : Fin 512) (s : Fin 9), m.val.testBit s.val = false → cntB (m.val ||| 2 ^ s.val) = cntB m.val + 1 := by decide +kernel
theorem cnt_le (m : Nat) : cntB m ≤ 9 := by
  have := List.countP_le_length (p := fun i => m.testBit i) (l := List.range 9)
  simpa [cntB] using this
theorem row_good {f : Floor} (h9 : f.slips.length ≤ 9) : ∀ (l : List Int) (m m' : Nat), m < 512 → l.foldl (stepR f) (some m) = some m' → m' < 512 ∧ cntB m' = cntB m + l.length ∧ ∀ x ∈ l, slipB f x = true
  | [], m, m', hm, h => by
    simp at h; subst h
    exact ⟨hm, by simp, by simp⟩
  | x :: l, m, m', hm, h => by
    rw [List.foldl_cons] at h
    have e : stepR f (some m) x = if slipB f x && !(m.testBit x.toNat) then some (m ||| 2 ^ x.toNat) else none := rfl
    rw [e] at h
    by_cases hc : (slipB f x && !(m.testBit x.toNat)) = true
    · rw [if_pos hc] at h
      simp only [Bool.and_eq_true, Bool.not_eq_true'] at hc
      obtain ⟨h1, h2⟩ := hc
      have hs := h1
      unfold slipB at hs
      simp only [Bool.and_eq_true, decide_eq_true_eq] at hs
      have hx9 : x.toNat < 9 := by omega
      have hlt : m ||| 2 ^ x.toNat < 512 := Nat.or_lt_two_pow (n := 9) (by omega) (Nat.pow_lt_pow_right (by omega) hx9)
      obtain ⟨i1, i2, i3⟩ := row_good h9 l _ m' hlt h
      have := cnt_or ⟨m, hm⟩ ⟨x.toNat, hx9⟩ h2
      simp only at this
      refine ⟨i1, by rw [i2, this, List.length_cons]; omega, fun y hy => ?_⟩
      rcases List.mem_cons.1 hy with rfl | hy
      · exact h1
      · exact i3 y hy
    · rw [if_neg hc, step_none] at h
      cases h
theorem rows_good {f : Floor} (h9 : f.slips.length ≤ 9) : ∀ (ts : List SRow) (m m' : Nat), m < 512 → rowsR f (some m) ts = some m' → ∀ t ∈ ts, t.slips.length ≤ 9 ∧ ∀ x ∈ t.slips, slipB f x = true
  | [], _, _, _, _, t, ht => by simp at ht
  | a :: ts, m, m', hm, h, t, ht => by
    unfold rowsR at h
    rw [List.foldl_cons] at h
    cases h1 : a.slips.foldl (stepR f) (some m) with
    | none => rw [h1] at h; have := rows_none f ts; unfold rowsR at this; rw [this] at h; cases h
    | some m1 =>
      rw [h1] at h
      obtain ⟨i1, i2, i3⟩ := row_good h9 _ _ _ hm h1
      rcases List.mem_cons.1 ht with rfl | ht
      · have := cnt_le m1
        exact ⟨by omega, i3⟩
      · exact rows_good h9 ts m1 m' i1 h t ht
theorem roster_rows {f : Floor} {ts : List SRow} (h9 : f.slips.length ≤ 9) (h : rosterB f ts = true) : (1 ≤ ts.length ∧ ts.length ≤ 5) ∧ ∀ t ∈ ts, t.slips.length ≤ 9 ∧ ∀ x ∈ t.slips, slipB f x = true := by
  unfold rosterB at h
  simp only [Bool.and_eq_true, beq_iff_eq, hasB_iff] at h
  exact ⟨by omega, rows_good h9 ts 0 _ (by omega) h.2⟩
theorem rows_of_box {w : World} {b n : Nat} {l : List (Int × Int)} (h : CellsBox w b 24 (flatS l)) (hn : l.length = n) (h9 : n ≤ 35184372088832) : RowsAt w w.heap.size 2 (some ⟨b, 0, none⟩) n (l.map spanC) := by
  refine ⟨by simp [hn], by omega, by simp; omega, fun _ => ⟨b, 0, rfl, h.lt, fun i r hr j u hj hu => ?_⟩⟩
  have := flat_at (sz := 2) (l.map spanC) (fun r hr => by obtain ⟨p, _, rfl⟩ := List.mem_map.1 hr; rfl) i r hr j u hj hu
  rw [Nat.zero_add]
  exact h.cell (by rw [flatS, List.flatMap_def]; exact this)
theorem rows_nil (w : World) (sz : Nat) : RowsAt w w.heap.size sz none 0 [] := ⟨by simp, by omega, by simp, fun h => by simp at h⟩
def DoneV (f : Floor) (ts : List SRow) : List (Int × Int) × Int := if checkV f = 0 then (if rosterB f ts then (doneF f (ts.map SRow.slips), 0) else ([], 31)) else ([], checkV f)
theorem check_two (f : Floor) : (checkV f = 30 ∧ validB f = false) ∨ (checkV f = 0 ∧ validB f = true) := by
  unfold checkV
  cases validB f <;> simp
theorem roster_is {f : Floor} {ts : List SRow} {b : Bool} (hb : rosterB f ts = b) (hf9 : f.slips.length ≤ 9) (A : Option Addr) (cap : Nat) (w : World) (hl : Lim w) (ht : RosterAt w w.heap.size A cap ts) :
    Calls Tryd.prog 65 #[f.val, .slice A ts.length cap] w fun e w' => e = .returned (.bool b) ∧ Below w.heap.size w w' := by
  rw [← hb]
  exact isRoster_any f hf9 A cap ts w hl ht
set_option maxRecDepth 100000 in
theorem Done_any (f : Floor) (A : Option Addr) (cap : Nat) (ts : List SRow) (w : World) (hl : Lim w) (h : FloorAt w w.heap.size f) (ht : RosterAt w w.heap.size A cap ts) :
    Calls Tryd.prog 25 #[f.val, .slice A ts.length cap] w fun e w' => ∃ R, e = .returned (.tuple #[.slice R (DoneV f ts).1.length (DoneV f ts).1.length, vi (DoneV f ts).2]) ∧ RowsAt w' w'.heap.size 2 R (DoneV f ts).1.length ((DoneV f ts).1.map spanC) ∧ Below w.heap.size w w' := by
  have HL := Lib.hid hl
  have HF := Lib.hid h
  have HT := Lib.hid ht
  rcases check_two f with ⟨hc, hv⟩ | ⟨hc, hv⟩
  · have CH := Lib.hid (fun (W : World) hL hW => check_is hc W hL hW)
    have E : DoneV f ts = ([], 30) := by unfold DoneV; rw [if_neg (by omega), hc]
    rw [E]
    clear h hl ht hc E hv
    go_enter Tryd.func25, Tryd.ntmps25
    go_wp2_with fail
    refine (CH.out _ (HL.out.next (by (repeat (first | exact Below.refl _ _ | refine Below.setCell ?_ (by first | omega | (simp; omega) | (simp; done)) _ | refine Below.alloc ?_ (by first | omega | (simp; omega) | (simp; done)) _ | refine Below.drew ?_ | refine below_drewN ?_ _ | refine Below.trans ?_ (Below.mono (by assumption) (by first | omega | (simp; omega) | (simp; done))))))) (HF.out.to (by (repeat (first | exact Below.refl _ _ | refine Below.setCell ?_ (by first | omega | (simp; omega) | (simp; done)) _ | refine Below.alloc ?_ (by first | omega | (simp; omega) | (simp; done)) _ | refine Below.drew ?_ | refine below_drewN ?_ _ | refine Below.trans ?_ (Below.mono (by assumption) (by first | omega | (simp; omega) | (simp; done)))))))).mono ?_
    rintro e W ⟨rfl, hb⟩
    have HB0 : Below w.heap.size w W := by (repeat (first | exact Below.refl _ _ | refine Below.setCell ?_ (by first | omega | (simp; omega) | (simp; done)) _ | refine Below.alloc ?_ (by first | omega | (simp; omega) | (simp; done)) _ | refine Below.drew ?_ | refine below_drewN ?_ _ | refine Below.trans ?_ (Below.mono (by assumption) (by first | omega | (simp; omega) | (simp; done)))))
    clear hb
    go_wp2_with fail
    go_ret2
    exact ⟨none, rfl, rows_nil _ _, HB0⟩
  · have h9 := (fine hv).slips9
    have CH := Lib.hid (fun (W : World) hL hW => check_is hc W hL hW)
    rcases hr : rosterB f ts with _ | _
    · have E : DoneV f ts = ([], 31) := by unfold DoneV; rw [if_pos hc, hr]; rfl
      have RO := Lib.hid (fun (W : World) hL hT => roster_is hr h9 A cap W hL hT)
      rw [E]
      clear h hl ht hc E hv hr h9
      go_enter Tryd.func25, Tryd.ntmps25
      go_wp2_with fail
      refine (CH.out _ (HL.out.next (by (repeat (first | exact Below.refl _ _ | refine Below.setCell ?_ (by first | omega | (simp; omega) | (simp; done)) _ | refine Below.alloc ?_ (by first | omega | (simp; omega) | (simp; done)) _ | refine Below.drew ?_ | refine below_drewN ?_ _ | refine Below.trans ?_ (Below.mono (by assumption) (by first | omega | (simp; omega) | (simp; done))))))) (HF.out.to (by (repeat (first | exact Below.refl _ _ | refine Below.setCell ?_ (by first | omega | (simp; omega) | (simp; done)) _ | refine Below.alloc ?_ (by first | omega | (simp; omega) | (simp; done)) _ | refine Below.drew ?_ | refine below_drewN ?_ _ | refine Below.trans ?_ (Below.mono (by assumption) (by first | omega | (simp; omega) | (simp; done)))))))).mono ?_
      rintro e W ⟨rfl, hb⟩
      have HB0 : Below w.heap.size w W := by (repeat (first | exact Below.refl _ _ | refine Below.setCell ?_ (by first | omega | (simp; omega) | (simp; done)) _ | refine Below.alloc ?_ (by first | omega | (simp; omega) | (simp; done)) _ | refine Below.drew ?_ | refine below_drewN ?_ _ | refine Below.trans ?_ (Below.mono (by assumption) (by first | omega | (simp; omega) | (simp; done)))))
      have a0 : W.cell? ⟨w.heap.size, 0, none⟩ = some (.slice f.fA f.far.length f.fC) := cell_keep hb (by simp [go_sem])
      have a1 : W.cell? ⟨w.heap.size, 1, none⟩ = some (vi f.slo) := cell_keep hb (by simp [go_sem])
      have a2 : W.cell? ⟨w.heap.size, 2, none⟩ = some (vi f.shi) := cell_keep hb (by simp [go_sem])
      have a3 : W.cell? ⟨w.heap.size, 3, none⟩ = some (.slice f.pA f.picks.length f.pC) := cell_keep hb (by simp [go_sem])
      have a4 : W.cell? ⟨w.heap.size, 4, none⟩ = some (vi f.carry) := cell_keep hb (by simp [go_sem])
      have a5 : W.cell? ⟨w.heap.size, 5, none⟩ = some (.slice f.sA f.slips.length f.sC) := cell_keep hb (by simp [go_sem])
      clear hb
      go_wp2_with fail
      refine (RO.out _ (HL.out.next HB0) (HT.out.to HB0)).mono ?_
      rintro e W2 ⟨rfl, hb2⟩
      go_wp2_with fail
      go_ret2
      exact ⟨none, rfl, rows_nil _ _, gr_trans HB0 hb2⟩
    · have E : DoneV f ts = (doneF f (ts.map SRow.slips), 0) := by unfold DoneV; rw [if_pos hc, hr]; rfl
      have RO := Lib.hid (fun (W : World) hL hT => roster_is hr h9 A cap W hL hT)
      obtain ⟨_, hrow⟩ := roster_rows h9 hr
      have DO := Lib.hid (fun (W : World) hF hT => done_any f hv A cap ts hrow W hF hT)
      have HDL : Hid ((doneF f (ts.map SRow.slips)).length = f.slips.length) := by unfold Hid doneF; rw [done_len]; simp
      have HFIN := Lib.hid (fun (W : World) (b : Nat) hb => rows_of_box (w := W) (b := b) (l := doneF f (ts.map SRow.slips)) hb rfl (by rw [HDL.out]; omega))
      rw [E]
      obtain ⟨R, hR⟩ : ∃ R, R = doneF f (ts.map SRow.slips) := ⟨_, rfl⟩
      rw [← hR] at DO HDL HFIN ⊢
      clear h hl ht hc E hv hr hrow hR h9
      go_enter Tryd.func25, Tryd.ntmps25
      go_wp2_with fail
      refine (CH.out _ (HL.out.next (by (repeat (first | exact Below.refl _ _ | refine Below.setCell ?_ (by first | omega | (simp; omega) | (simp; done)) _ | refine Below.alloc ?_ (by first | omega | (simp; omega) | (simp; done)) _ | refine Below.drew ?_ | refine below_drewN ?_ _ | refine Below.trans ?_ (Below.mono (by assumption) (by first | omega | (simp; omega) | (simp; done))))))) (HF.out.to (by (repeat (first | exact Below.refl _ _ | refine Below.setCell ?_ (by first | omega | (simp; omega) | (simp; done)) _ | refine Below.alloc ?_ (by first | omega | (simp; omega) | (simp; done)) _ | refine Below.drew ?_ | refine below_drewN ?_ _ | refine Below.trans ?_ (Below.mono (by assumption) (by first | omega | (simp; omega) | (simp; done)))))))).mono ?_
      rintro e W ⟨rfl, hb⟩
      have HB0 : Below w.heap.size w W := by (repeat (first | exact Below.refl _ _ | refine Below.setCell ?_ (by first | omega | (simp; omega) | (simp; done)) _ | refine Below.alloc ?_ (by first | omega | (simp; omega) | (simp; done)) _ | refine Below.drew ?_ | refine below_drewN ?_ _ | refine Below.trans ?_ (Below.mono (by assumption) (by first | omega | (simp; omega) | (simp; done)))))
      have a0 : W.cell? ⟨w.heap.size, 0, none⟩ = some (.slice f.fA f.far.length f.fC) := cell_keep hb (by simp [go_sem])
      have a1 : W.cell? ⟨w.heap.size, 1, none⟩ = some (vi f.slo) := cell_keep hb (by simp [go_sem])
      have a2 : W.cell? ⟨w.heap.size, 2, none⟩ = some (vi f.shi) := cell_keep hb (by simp [go_sem])
      have a3 : W.cell? ⟨w.heap.size, 3, none⟩ = some (.slice f.pA f.picks.length f.pC) := cell_keep hb (by simp [go_sem])
      have a4 : W.cell? ⟨w.heap.size, 4, none⟩ = some (vi f.carry) := cell_keep hb (by simp [go_sem])
      have a5 : W.cell? ⟨w.heap.size, 5, none⟩ = some (.slice f.sA f.slips.length f.sC) := cell_keep hb (by simp [go_sem])
      clear hb
      go_wp2_with fail
      refine (RO.out _ (HL.out.next HB0) (HT.out.to HB0)).mono ?_
      rintro e W2 ⟨rfl, hb2⟩
      have b0 := cell_keep hb2 a0
      have b1 := cell_keep hb2 a1
      have b2 := cell_keep hb2 a2
      have b3 := cell_keep hb2 a3
      have b4 := cell_keep hb2 a4
      have b5 := cell_keep hb2 a5
      have HB2 := gr_trans HB0 hb2
      clear hb2 a0 a1 a2 a3 a4 a5
      go_wp2_with fail
      refine (DO.out _ (HF.out.to HB2) (HT.out.to HB2)).mono ?_
      rintro e W3 ⟨b, rfl, hbb, hX, hb3⟩
      have HX := Lib.hid hX
      clear hX b0 b1 b2 b3 b4 b5
      go_wp2_with fail
      go_ret2
      exact ⟨some ⟨b, 0, none⟩, by rw [HDL.out]; rfl, HFIN.out _ _ HX.out, gr_trans HB2 hb3⟩
end Go.Proofs.YtomgnpfpaodpiaaDoor

/- Contracts of the specification's lines and isSlip. -/
namespace Go.Proofs.YtomgnpfpaodpiaaDoor
open Go Go.RowKit
set_option maxHeartbeats 4000000
/-- lines that a slip or a tour may have, but for how many there are -/
def linesR (n : Int) (l : List SLine) : Bool := (List.range l.length).all (goodLine n l)
theorem goodLine_ref {n : Int} {l : List SLine} {k : Nat} {x : SLine} (h : l[k]? = some x) : goodLine n l k = (hasB (nextF l k) (n - 1) x.shelf && hasB 1 20 x.many) := by
  rw [goodLine_of h]
  unfold hasB
  congr 2
  by_cases h1 : x.shelf < n
  · have : x.shelf ≤ n - 1 := by omega
    simp [h1, this]
  · have : ¬ x.shelf ≤ n - 1 := by omega
    simp [h1, this]
set_option maxRecDepth 100000 in
theorem rlines_any (f : Floor) (A : Option Addr) (cap : Nat) (l : List SLine) (hf : f.far.length ≤ 35184372088832) (w : World) (h : SLinesAt w w.heap.size A l.length l) :
    Calls Tryd.prog 56 #[f.val, .slice A l.length cap] w fun e w' => e = .returned (.bool (linesR f.far.length l)) ∧ Below w.heap.size w w' := by
  have hll := h.lens
  have HH := Lib.hid h
  obtain ⟨fA, fC, ff, slo, shi, pA, pC, fp, fc, sA, sC, fs⟩ := f
  simp only at hf
  show Calls Tryd.prog 56 #[.agg #[.slice fA ff.length fC, vi slo, vi shi, .slice pA fp.length pC, vi fc, .slice sA fs.length sC], .slice A l.length cap] w fun e w' => e = .returned (.bool (linesR ff.length l)) ∧ Below w.heap.size w w'
  have FIN : Hid ((∀ k, k < l.length → goodLine ff.length l k = true) → linesR ff.length l = true) := fun ha => by unfold linesR; rw [List.all_eq_true]; exact fun k hk => ha k (List.mem_range.1 hk)
  have BAD : Hid (∀ k, k < l.length → goodLine ff.length l k = false → linesR ff.length l = false) := fun k hk hg => by
    have := all_no (b := true) hk hg
    rwa [Bool.true_and] at this
  obtain ⟨an, han⟩ : ∃ an, an = linesR ff.length l := ⟨_, rfl⟩
  rw [← han] at FIN BAD ⊢
  have a0 : (w.alloc (.cells #[.slice fA ff.length fC, vi slo, vi shi, .slice pA fp.length pC, vi fc, .slice sA fs.length sC] 28)).cell? ⟨w.heap.size, 0, none⟩ = some (.slice fA ff.length fC) := by simp [go_sem]
  have HB0 : Below w.heap.size w (w.alloc (.cells #[.slice fA ff.length fC, vi slo, vi shi, .slice pA fp.length pC, vi fc, .slice sA fs.length sC] 28)) := (Below.refl _ _).alloc (Nat.le_refl _) _
  clear h han
  go_enter Tryd.func56, Tryd.ntmps56
  go_wp2_with fail
  obtain ⟨W, hW⟩ : ∃ W, W = w.alloc (.cells #[.slice fA ff.length fC, vi slo, vi shi, .slice pA fp.length pC, vi fc, .slice sA fs.length sC] 28) := ⟨_, rfl⟩
  rw [← hW] at a0 HB0 ⊢
  clear hW
  go_loopw [5, 6] (fun x i wr => ∃ k : Nat, k ≤ l.length ∧ i = .int .i64 k ∧ Below W.heap.size W wr ∧ (∃ nx, x = vi nx ∧ Hid (nextF l k = nx + 1) ∧ -1 ≤ nx ∧ nx ≤ 35184372088832) ∧ Hid (∀ j, j < k → goodLine ff.length l j = true)) (fun _ i _ => l.length - (intOf i).toNat)
  case atStart => exact ⟨0, Nat.zero_le _, rfl, Below.refl _ _, ⟨-1, rfl, rfl, by omega, by omega⟩, fun j hj => absurd hj (by omega)⟩
  obtain ⟨k, hk, rfl, hB, ⟨nx, rfl, HN, hn0, hn1⟩, HA⟩ := hrel
  have HBr : Below w.heap.size w wr := HB0.trans (hB.mono HB0.size)
  have a0r := cell_keep hB a0
  have za : w.heap.size < wr.heap.size := cell_lt a0r
  by_cases hlt : k < l.length
  · obtain ⟨x, hx⟩ : ∃ x, l[k]? = some x := ⟨_, List.getElem?_eq_getElem hlt⟩
    obtain ⟨bb, off, rfl, hbb, x0, x1⟩ := row2 (HH.out.to HBr).row hx rfl
    have hg := goodLine_ref (n := ff.length) hx
    have hnx := nextF_succ hx
    rw [HN.out] at hg
    have G := Lib.hid hg
    have NX := Lib.hid hnx
    have hkI : (k : Int) < l.length := by omega
    have h0k : (0 : Int) ≤ k := by omega
    have zbb : bb < wr.heap.size := cell_lt x0
    have hw1 : IntKind.wrap .i64 (nx + 1) = nx + 1 := wrapI (by omega) (by omega)
    have hw2 : IntKind.wrap .i64 ((ff.length : Int) - 1) = (ff.length : Int) - 1 := wrapI (by omega) (by omega)
    clear hx hg hnx HN
    obtain ⟨xs, xm⟩ := x
    simp only at x0 x1 G NX
    rcases h1 : hasB (nx + 1) ((ff.length : Int) - 1) xs with _ | _
    · have H1 := Lib.hid h1
      have E : Hid (an = false) := BAD.out k hlt (by rw [G.out, h1]; rfl)
      clear h1
      go_wp2_with fail
      (refine wp_region_grow_lit (by kernel_rfl) (by kernel_rfl) ?_; (repeat (go_big_quiet_step ((go_at_call 39; refine Calls.grow_same (tween_is H1.out _))))); refine wpQuiet_nil ?_; intro w1 hw1; have hb1 := below_of_plus hw1; clear hw1; obtain ⟨⟨hc1, hf1, hs1⟩, hz1⟩ := after hb1; (try simp only [World.size_alloc, World.size_setCell, World.size_drew] at hz1))
      go_wp2_with fail
      go_ret
      refine ⟨retB E.out.symm, ?_⟩
      (repeat (first | exact Below.refl _ _ | refine Below.setCell ?_ (by first | omega | (simp; omega) | (simp; done)) _ | refine Below.alloc ?_ (by first | omega | (simp; omega) | (simp; done)) _ | refine Below.drew ?_ | refine below_drewN ?_ _ | refine Below.trans ?_ (Below.mono (by assumption) (by first | omega | (simp; omega) | (simp; done)))))
    · have H1 := Lib.hid h1
      rcases h2 : hasB 1 20 xm with _ | _
      · have H2 := Lib.hid h2
        have E : Hid (an = false) := BAD.out k hlt (by rw [G.out, h1, h2]; rfl)
        clear h1 h2
        go_wp2_with fail
        (refine wp_region_grow_lit (by kernel_rfl) (by kernel_rfl) ?_; (repeat (go_big_quiet_step (first | (go_at_call_of 39 xs; refine Calls.grow_same (tween_is H1.out _)) | (go_at_call_of 39 xm; refine Calls.grow_same (tween_is H2.out _))))); refine wpQuiet_nil ?_; intro w1 hw1; have hb1 := below_of_plus hw1; clear hw1; obtain ⟨⟨hc1, hf1, hs1⟩, hz1⟩ := after hb1; (try simp only [World.size_alloc, World.size_setCell, World.size_drew] at hz1))
        go_wp2_with fail
        go_ret
        refine ⟨retB E.out.symm, ?_⟩
        (repeat (first | exact Below.refl _ _ | refine Below.setCell ?_ (by first | omega | (simp; omega) | (simp; done)) _ | refine Below.alloc ?_ (by first | omega | (simp; omega) | (simp; done)) _ | refine Below.drew ?_ | refine below_drewN ?_ _ | refine Below.trans ?_ (Below.mono (by assumption) (by first | omega | (simp; omega) | (simp; done)))))
      · have H2 := Lib.hid h2
        have HA2 : Hid (∀ j, j < k + 1 → goodLine ff.length l j = true) := upto_succ HA.out (by rw [G.out, h1, h2]; rfl)
        have hxr := hasB_iff.1 h1
        have hx1 : -1 ≤ xs := by omega
        have hx2 : xs ≤ 35184372088832 := by omega
        clear h1 h2 hxr
        go_wp2_with fail
        (refine wp_region_grow_lit (by kernel_rfl) (by kernel_rfl) ?_; (repeat (go_big_quiet_step (first | (go_at_call_of 39 xs; refine Calls.grow_same (tween_is H1.out _)) | (go_at_call_of 39 xm; refine Calls.grow_same (tween_is H2.out _))))); refine wpQuiet_nil ?_; intro w1 hw1; have hb1 := below_of_plus hw1; clear hw1; obtain ⟨⟨hc1, hf1, hs1⟩, hz1⟩ := after hb1; (try simp only [World.size_alloc, World.size_setCell, World.size_drew] at hz1))
        go_wp2_with fail
        go_roundw
        case rel => exact ⟨k + 1, by omega, by go_num, gr_trans hB (by (repeat (first | exact Below.refl _ _ | refine Below.setCell ?_ (by first | omega | (simp; omega) | (simp; done)) _ | refine Below.alloc ?_ (by first | omega | (simp; omega) | (simp; done)) _ | refine Below.drew ?_ | refine below_drewN ?_ _ | refine Below.trans ?_ (Below.mono (by assumption) (by first | omega | (simp; omega) | (simp; done)))))), ⟨_, rfl, NX.out, hx1, hx2⟩, HA2.out⟩
        case measure => simp [intOf]; omega
  · obtain rfl : k = l.length := by omega
    have E : Hid (an = true) := FIN.out HA.out
    go_wp2_with fail
    go_ret
    exact ⟨retB E.out.symm, HBr⟩
end Go.Proofs.YtomgnpfpaodpiaaDoor

/- Contracts of Match and MatchSpans, whatever the capacities. -/
namespace Go.Proofs.YtomgnpfpaodpiaaDoor
open Go Go.RowKit
set_option maxHeartbeats 2000000
set_option maxRecDepth 100000 in
theorem match_free (A B : Option Addr) (ca cb : Nat) (l m : List Int) (w : World) (ha : IntsAt w w.heap.size A l.length l) (hb : IntsAt w w.heap.size B m.length m) :
    Calls Tryd.prog 32 #[.slice A l.length ca, .slice B m.length cb] w fun e w' => e = .returned (.bool (decide (l = m))) ∧ Below w.heap.size w w' := by
  have ha1 := ha.lens
  have hb1 := hb.lens
  rcases hlm : ((l.length : Int) == (m.length : Int)) with _ | _
  · have E : Hid (decide (l = m) = false) := by
      unfold Hid
      rw [decide_eq_false_iff_not]
      rintro rfl
      simp at hlm
    go_enter Tryd.func32, Tryd.ntmps32
    go_wp2
    go_rounds 2
    go_ret
    refine ⟨retB E.out.symm, ?_⟩
    (repeat (first | exact Below.refl _ _ | refine Below.setCell ?_ (by first | omega | (simp; omega) | (simp; done)) _ | refine Below.alloc ?_ (by first | omega | (simp; omega) | (simp; done)) _ | refine Below.drew ?_ | refine below_drewN ?_ _ | refine Below.trans ?_ (Below.mono (by assumption) (by first | omega | (simp; omega) | (simp; done)))))
  have hle : l.length = m.length := by have := beq_iff_eq.1 hlm; omega
  go_enter Tryd.func32, Tryd.ntmps32
  go_wp2
  clear hlm
  go_loopw [5, 6] (fun ok i wr => ∃ k : Nat, k ≤ l.length ∧ i = .int .i64 k ∧ Below w.heap.size w wr ∧ ((ok = .bool true ∧ Hid (l.take k = m.take k)) ∨ (ok = .bool false ∧ Hid (decide (l = m) = false)))) (fun _ i _ => l.length - (intOf i).toNat)
  case atStart => exact ⟨0, Nat.zero_le _, rfl, Below.refl _ _, .inl ⟨rfl, by simp [Hid]⟩⟩
  case round =>
    obtain ⟨k, hk, rfl, hB, ⟨rfl, heq⟩ | ⟨rfl, hbad⟩⟩ := hrel
    · have hbs := hB.size
      by_cases hlt : k < l.length
      · obtain ⟨x, hx⟩ : ∃ x, l[k]? = some x := ⟨_, List.getElem?_eq_getElem hlt⟩
        obtain ⟨y, hy⟩ : ∃ y, m[k]? = some y := ⟨_, List.getElem?_eq_getElem (by omega)⟩
        obtain ⟨ba, oa, rfl, hba, c0⟩ := ints_at (ha.to hB) hx
        obtain ⟨bb, ob, rfl, hbb, c1⟩ := ints_at (hb.to hB) hy
        have hlt2 : k < m.length := by omega
        have hltI : (k : Int) < m.length := by omega
        have hltJ : (k : Int) < l.length := by omega
        have h0I : (0 : Int) ≤ k := by omega
        rcases hxy : x == y with _ | _
        · have hb9 : Hid (decide (l = m) = false) := by
            unfold Hid
            rw [decide_eq_false_iff_not]
            rintro rfl
            rw [hx] at hy
            simp at hy
            subst hy
            simp at hxy
          clear hx hy
          go_wp2_with fail
          (refine wp_region_grow_lit (by kernel_rfl) (by kernel_rfl) ?_; (repeat (go_big_quiet_step (fail))); refine wpQuiet_nil ?_; intro w1 hw1; have hb1 := below_of_plus hw1; clear hw1; obtain ⟨⟨hc1, hf1, hs1⟩, hz1⟩ := after hb1; (try simp only [World.size_alloc, World.size_setCell, World.size_drew] at hz1))
          go_wp2
          go_roundw
          case rel => exact ⟨k + 1, by omega, by go_num, by (repeat (first | exact Below.refl _ _ | refine Below.setCell ?_ (by first | omega | (simp; omega) | (simp; done)) _ | refine Below.alloc ?_ (by first | omega | (simp; omega) | (simp; done)) _ | refine Below.drew ?_ | refine below_drewN ?_ _ | refine Below.trans ?_ (Below.mono (by assumption) (by first | omega | (simp; omega) | (simp; done))))), .inr ⟨rfl, hb9⟩⟩
          case measure => simp [intOf]; omega
        · have hst : Hid (l.take (k + 1) = m.take (k + 1)) := by
            obtain ⟨h1, rfl⟩ := List.getElem?_eq_some_iff.1 hx
            obtain ⟨h2, rfl⟩ := List.getElem?_eq_some_iff.1 hy
            unfold Hid
            rw [List.take_succ_eq_append_getElem h1, List.take_succ_eq_append_getElem h2, heq.out, beq_iff_eq.1 hxy]
          clear hx hy
          go_wp2_with fail
          (refine wp_region_grow_lit (by kernel_rfl) (by kernel_rfl) ?_; (repeat (go_big_quiet_step (fail))); refine wpQuiet_nil ?_; intro w1 hw1; have hb1 := below_of_plus hw1; clear hw1; obtain ⟨⟨hc1, hf1, hs1⟩, hz1⟩ := after hb1; (try simp only [World.size_alloc, World.size_setCell, World.size_drew] at hz1))
          go_wp2
          go_roundw
          case rel => exact ⟨k + 1, by omega, by go_num, by (repeat (first | exact Below.refl _ _ | refine Below.setCell ?_ (by first | omega | (simp; omega) | (simp; done)) _ | refine Below.alloc ?_ (by first | omega | (simp; omega) | (simp; done)) _ | refine Below.drew ?_ | refine below_drewN ?_ _ | refine Below.trans ?_ (Below.mono (by assumption) (by first | omega | (simp; omega) | (simp; done))))), .inl ⟨rfl, hst⟩⟩
          case measure => simp [intOf]; omega
      · obtain rfl : k = l.length := by omega
        have E : Hid (decide (l = m) = true) := by
          have := heq.out
          rw [List.take_length, hle, List.take_length] at this
          unfold Hid
          simp [this]
        go_wp2
        go_ret
        refine ⟨retB E.out.symm, ?_⟩
        exact hB
    · go_wp2
      go_ret
      refine ⟨retB hbad.out.symm, ?_⟩
      exact hB
set_option maxRecDepth 100000 in
theorem matchSpans_free (A B : Option Addr) (ca cb : Nat) (l m : List (Int × Int)) (w : World) (ha : RowsAt w w.heap.size 2 A l.length (l.map spanC)) (hb : RowsAt w w.heap.size 2 B m.length (m.map spanC)) :
    Calls Tryd.prog 27 #[.slice A l.length ca, .slice B m.length cb] w fun e w' => e = .returned (.bool (decide (l = m))) ∧ Below w.heap.size w w' := by
  have ha1 := ha.lens
  have hb1 := hb.lens
  rcases hlm : ((l.length : Int) == (m.length : Int)) with _ | _
  · have E : Hid (decide (l = m) = false) := by
      unfold Hid
      rw [decide_eq_false_iff_not]
      rintro rfl
      simp at hlm
    go_enter Tryd.func27, Tryd.ntmps27
    go_wp2
    go_rounds 2
    go_ret
    refine ⟨retB E.out.symm, ?_⟩
    (repeat (first | exact Below.refl _ _ | refine Below.setCell ?_ (by first | omega | (simp; omega) | (simp; done)) _ | refine Below.alloc ?_ (by first | omega | (simp; omega) | (simp; done)) _ | refine Below.drew ?_ | refine below_drewN ?_ _ | refine Below.trans ?_ (Below.mono (by assumption) (by first | omega | (simp; omega) | (simp; done)))))
  have hle : l.length = m.length := by have := beq_iff_eq.1 hlm; omega
  go_enter Tryd.func27, Tryd.ntmps27
  go_wp2
  clear hlm
  go_loopw [5, 6] (fun ok i wr => ∃ k : Nat, k ≤ l.length ∧ i = .int .i64 k ∧ Below w.heap.size w wr ∧ ((ok = .bool true ∧ Hid (l.take k = m.take k)) ∨ (ok = .bool false ∧ Hid (decide (l = m) = false)))) (fun _ i _ => l.length - (intOf i).toNat)
  case atStart => exact ⟨0, Nat.zero_le _, rfl, Below.refl _ _, .inl ⟨rfl, by simp [Hid]⟩⟩
  case round =>
    obtain ⟨k, hk, rfl, hB, ⟨rfl, heq⟩ | ⟨rfl, hbad⟩⟩ := hrel
    · have hbs := hB.size
      by_cases hlt : k < l.length
      · obtain ⟨x, hx⟩ : ∃ x, l[k]? = some x := ⟨_, List.getElem?_eq_getElem hlt⟩
        obtain ⟨y, hy⟩ : ∃ y, m[k]? = some y := ⟨_, List.getElem?_eq_getElem (by omega)⟩
        obtain ⟨ba, oa, rfl, hba, c0, c1⟩ := row2 (ha.to hB).row hx rfl
        obtain ⟨bb, ob, rfl, hbb, d0, d1⟩ := row2 (hb.to hB).row hy rfl
        have hlt2 : k < m.length := by omega
        have hltI : (k : Int) < m.length := by omega
        have hltJ : (k : Int) < l.length := by omega
        have h0I : (0 : Int) ≤ k := by omega
        obtain ⟨xa, xb⟩ := x
        obtain ⟨ya, yb⟩ := y
        simp only at c0 c1 d0 d1
        rcases hxy : xa == ya with _ | _
        · have hb9 : Hid (decide (l = m) = false) := by
            unfold Hid
            rw [decide_eq_false_iff_not]
            rintro rfl
            rw [hx] at hy
            simp at hy
            simp [hy.1] at hxy
          clear hx hy
          go_wp2_with fail
          (refine wp_region_grow_lit (by kernel_rfl) (by kernel_rfl) ?_; (repeat (go_big_quiet_step (fail))); refine wpQuiet_nil ?_; intro w1 hw1; have hb1 := below_of_plus hw1; clear hw1; obtain ⟨⟨hc1, hf1, hs1⟩, hz1⟩ := after hb1; (try simp only [World.size_alloc, World.size_setCell, World.size_drew] at hz1))
          go_wp2
          go_roundw
          case rel => exact ⟨k + 1, by omega, by go_num, by (repeat (first | exact Below.refl _ _ | refine Below.setCell ?_ (by first | omega | (simp; omega) | (simp; done)) _ | refine Below.alloc ?_ (by first | omega | (simp; omega) | (simp; done)) _ | refine Below.drew ?_ | refine below_drewN ?_ _ | refine Below.trans ?_ (Below.mono (by assumption) (by first | omega | (simp; omega) | (simp; done))))), .inr ⟨rfl, hb9⟩⟩
          case measure => simp [intOf]; omega
        rcases hxz : xb == yb with _ | _
        · have hb9 : Hid (decide (l = m) = false) := by
            unfold Hid
            rw [decide_eq_false_iff_not]
            rintro rfl
            rw [hx] at hy
            simp at hy
            simp [hy.2] at hxz
          clear hx hy
          go_wp2_with fail
          (refine wp_region_grow_lit (by kernel_rfl) (by kernel_rfl) ?_; (repeat (go_big_quiet_step (fail))); refine wpQuiet_nil ?_; intro w1 hw1; have hb1 := below_of_plus hw1; clear hw1; obtain ⟨⟨hc1, hf1, hs1⟩, hz1⟩ := after hb1; (try simp only [World.size_alloc, World.size_setCell, World.size_drew] at hz1))
          go_wp2
          go_roundw
          case rel => exact ⟨k + 1, by omega, by go_num, by (repeat (first | exact Below.refl _ _ | refine Below.setCell ?_ (by first | omega | (simp; omega) | (simp; done)) _ | refine Below.alloc ?_ (by first | omega | (simp; omega) | (simp; done)) _ | refine Below.drew ?_ | refine below_drewN ?_ _ | refine Below.trans ?_ (Below.mono (by assumption) (by first | omega | (simp; omega) | (simp; done))))), .inr ⟨rfl, hb9⟩⟩
          case measure => simp [intOf]; omega
        · have hst : Hid (l.take (k + 1) = m.take (k + 1)) := by
            obtain ⟨h1, e1⟩ := List.getElem?_eq_some_iff.1 hx
            obtain ⟨h2, e2⟩ := List.getElem?_eq_some_iff.1 hy
            unfold Hid
            rw [List.take_succ_eq_append_getElem h1, List.take_succ_eq_append_getElem h2, heq.out, e1, e2, beq_iff_eq.1 hxy, beq_iff_eq.1 hxz]
          clear hx hy
          go_wp2_with fail
          (refine wp_region_grow_lit (by kernel_rfl) (by kernel_rfl) ?_; (repeat (go_big_quiet_step (fail))); refine wpQuiet_nil ?_; intro w1 hw1; have hb1 := below_of_plus hw1; clear hw1; obtain ⟨⟨hc1, hf1, hs1⟩, hz1⟩ := after hb1; (try simp only [World.size_alloc, World.size_setCell, World.size_drew] at hz1))
          go_wp2
          go_roundw
          case rel => exact ⟨k + 1, by omega, by go_num, by (repeat (first | exact Below.refl _ _ | refine Below.setCell ?_ (by first | omega | (simp; omega) | (simp; done)) _ | refine Below.alloc ?_ (by first | omega | (simp; omega) | (simp; done)) _ | refine Below.drew ?_ | refine below_drewN ?_ _ | refine Below.trans ?_ (Below.mono (by assumption) (by first | omega | (simp; omega) | (simp; done))))), .inl ⟨rfl, hst⟩⟩
          case measure => simp [intOf]; omega
      · obtain rfl : k = l.length := by omega
        have E : Hid (decide (l = m) = true) := by
          have := heq.out
          rw [List.take_length, hle, List.take_length] at this
          unfold Hid
          simp [this]
        go_wp2
        go_ret
        refine ⟨retB E.out.symm, ?_⟩
        exact hB
    · go_wp2
      go_ret
      refine ⟨retB hbad.out.symm, ?_⟩
      exact hB
end Go.Proofs.YtomgnpfpaodpiaaDoor

/- Contracts of slices.Clone and floor.with. -/
namespace Go.Proofs.YtomgnpfpaodpiaaDoor
open Go Go.RowKit
set_option maxHeartbeats 2000000
abbrev flatSl (l : List SSlip) : List Value := l.flatMap SSlip.cells
theorem info_slip : (Tryd.prog.info? 52).map (fun i => (i.zero, i.size, i.bytes)) = some (some (.agg #[.slice none 0 0, vi 0]), 2, 32) := by kernel_rfl
theorem slips_two (l : List SSlip) : ∀ r ∈ l.map SSlip.cells, r.length = 2 := fun r hr => by
  obtain ⟨s, _, rfl⟩ := List.mem_map.1 hr
  rfl
theorem own_empty (w : World) (e : TypeId) (sz : Nat) : (w.alloc (.cells #[] e)).ownsRow w.heap.size e sz (.slice (some ⟨w.heap.size, 0, none⟩) 0 0) 0 [] :=
  ⟨by simp, .inr ⟨w.heap.size, 0, #[], rfl, Nat.le_refl _, World.alloc_heap_new w _, Nat.le_refl _, by simp [maxLen], by simp, by simp⟩⟩
theorem row_cells {w : World} {B sz : Nat} {b off : Nat} {rows : List (List Value)} (h : RowAt w B sz (some ⟨b, off, none⟩) rows) (hsz : ∀ r ∈ rows, r.length = sz) (hp : 0 < sz) (h0 : 0 < rows.length) : ∀ j u, rows.flatten[j]? = some u → w.cell? ((⟨b, off, none⟩ : Addr).add j) = some u := by
  intro j u hj
  obtain ⟨b', off', hA, _, hc⟩ := h h0
  cases hA
  have hlt := (List.getElem?_eq_some_iff.1 hj).1
  rw [flat_len rows hsz] at hlt
  have hi : j / sz < rows.length := Nat.div_lt_of_lt_mul (by rw [Nat.mul_comm]; exact hlt)
  have hr : rows[j / sz]? = some rows[j / sz] := List.getElem?_eq_getElem hi
  have hrl := hsz _ (List.getElem_mem hi)
  have hm := Nat.mod_lt j hp
  have hu : rows[j / sz][j % sz]? = some rows[j / sz][j % sz] := List.getElem?_eq_getElem (by omega)
  have hf := flat_at rows hsz _ _ hr _ _ hm hu
  rw [Nat.div_add_mod' j sz, hj] at hf
  have := hc _ _ hr _ _ hm hu
  have e : off + j / sz * sz + j % sz = off + j := by rw [Nat.add_assoc, Nat.div_add_mod']
  rw [e] at this
  cases hf
  have ea : (⟨b, off, none⟩ : Addr).add j = ⟨b, off + j, none⟩ := by unfold Addr.add; split <;> simp_all
  rw [ea]
  exact this
set_option maxRecDepth 100000 in
theorem clone_any (A : Option Addr) (cap : Nat) (l : List SSlip) (h1 : 1 ≤ l.length) (h9 : l.length ≤ 1000) (w : World) (h : RowsAt w w.heap.size 2 A cap (l.map SSlip.cells)) :
    Calls Tryd.prog 110 #[.slice A l.length cap] w fun e w' => ∃ g c rest, e = .returned (.slice (some ⟨g, 0, none⟩) l.length c) ∧ l.length ≤ c ∧ c ≤ maxLen ∧ w.heap.size ≤ g ∧ CellsBox w' g 52 (flatSl l ++ rest) ∧ Below w.heap.size w w' := by
  obtain ⟨i0, hi, hy0, hy1, hy2⟩ := info_parts info_slip
  obtain ⟨b, off, rfl, hb, -⟩ := h.row (by simp; omega)
  have hnews := row_cells h.row (slips_two l) (by omega) (by simp; omega)
  have HN := Lib.hid hnews
  have hfl : (l.map SSlip.cells).flatten.length = l.length * 2 := by rw [flat_len _ (slips_two l)]; simp
  have HFL := Lib.hid hfl
  clear hnews hfl
  go_enter Tryd.func110, Tryd.ntmps110
  have hl0 : (0 : Int) < l.length := by omega
  have hle := h.lens
  have heq : ∀ w : World, (binOp .eql 26 (.slice (some ⟨b, off, none⟩) l.length cap) (.slice none 0 0)).run Tryd.prog w = .ok (.bool false) w := fun w => by (show (_ : Result _) = _); kernel_rfl
  go_wp2_with (at_builtin; go_loud (refine wpList_append_own _ rfl _ _ 26 rfl w.heap.size 52 i0 (.agg #[.slice none 0 0, vi 0]) 2 32 Tryd.underlying26 hi hy0 hy1 hy2 rfl (by decide) _ _ _ rfl (own_empty w _ _) ⟨b, off, none⟩ l.length cap (l.map SSlip.cells).flatten rfl HFL.out (fun j u hj => cell_alloc (HN.out j u hj) _) (by intro u hu; simp only [List.mem_flatten, List.mem_map] at hu; obtain ⟨r, ⟨s, _, rfl⟩, hu⟩ := hu; simp only [SSlip.cells, List.mem_cons, List.mem_nil_iff, or_false] at hu; rcases hu with rfl | rfl <;> rfl) (by unfold maxLen; omega) (by omega) (by simp) ?_; intro v5 w5 hown5 hgrow5 _))
  have hB5 : Below w.heap.size w w5 := Below.grown ((Below.refl w.heap.size w).alloc (Nat.le_refl _) _) hgrow5 (by simp) (fun k e => by
    have e2 : some w.heap.size = some k := e
    cases e2; exact Nat.le_refl _)
  rw [Nat.zero_add, List.nil_append] at hown5
  rcases hown5.2 with ⟨_, e0⟩ | ⟨g, c, cur, rfl, g1, g2, g3, g4, g5, g6⟩
  · omega
  · go_ret
    refine ⟨g, c, (cur.toList.drop (l.length * 2)), rfl, g3, g4, g1, ?_, hB5⟩
    unfold CellsBox
    rw [g2]
    have e : flatSl l ++ cur.toList.drop (l.length * 2) = cur.toList := by
      have : flatSl l = cur.toList.take (l.length * 2) := by rw [g6, flatSl, List.flatMap_def]
      rw [this, List.take_append_drop]
    rw [e]
/-- the floor with another Until of a slip -/
def withF (f : Floor) (A : Option Addr) (C : Nat) (k : Nat) (u : Int) : Floor := { f with sA := A, sC := C, slips := f.slips.modify k fun s => { s with till := u } }
theorem flatSl_at : ∀ (l : List SSlip) (k : Nat) (s : SSlip), l[k]? = some s → (flatSl l)[k * 2]? = some s.slice ∧ (flatSl l)[k * 2 + 1]? = some (vi s.till)
  | [], _, _, h => by simp at h
  | a :: l, 0, s, h => by simp at h; subst h; simp [flatSl, SSlip.cells]
  | a :: l, k + 1, s, h => by
    have ih := flatSl_at l k s (by simpa using h)
    have e2 : flatSl (a :: l) = a.slice :: vi a.till :: flatSl l := rfl
    rw [e2, show (k + 1) * 2 = k * 2 + 1 + 1 by omega]
    simpa using ih
theorem flatSl_len (l : List SSlip) : (flatSl l).length = l.length * 2 := by
  have := flat_len _ (slips_two l)
  rw [List.length_map] at this
  rw [flatSl, List.flatMap_def, this]
theorem flatSl_set : ∀ (l : List SSlip) (k : Nat) (u : Int), k < l.length → flatSl (l.modify k fun s => { s with till := u }) = (flatSl l).set (k * 2 + 1) (vi u)
  | [], _, _, h => by simp at h
  | a :: l, 0, u, _ => by simp [flatSl, SSlip.cells, List.modify]
  | a :: l, k + 1, u, h => by
    have ih := flatSl_set l k u (by simpa using h)
    have e2 : flatSl (a :: l) = a.slice :: vi a.till :: flatSl l := rfl
    have e1 : flatSl ((a :: l).modify (k + 1) fun s => { s with till := u }) = a.slice :: vi a.till :: flatSl (l.modify k fun s => { s with till := u }) := rfl
    rw [e1, e2, ih, show (k + 1) * 2 + 1 = (k * 2 + 1) + 1 + 1 by omega]
    simp
theorem slips_of_box {w : World} {g c : Nat} {l : List SSlip} {rest : List Value} (h : CellsBox w g 52 (flatSl l ++ rest)) (hc : l.length ≤ c) (hm : c ≤ maxLen) (h9 : l.length ≤ 35184372088832) : RowsAt w w.heap.size 2 (some ⟨g, 0, none⟩) c (l.map SSlip.cells) := by
  refine ⟨by simpa using hc, by have := hm; unfold maxLen at this; omega, by simpa using h9, fun _ => ⟨g, 0, rfl, h.lt, fun i r hr j u hj hu => ?_⟩⟩
  have := flat_at (sz := 2) (l.map SSlip.cells) (slips_two l) i r hr j u hj hu
  rw [Nat.zero_add]
  refine h.cell ?_
  have hlt := (List.getElem?_eq_some_iff.1 this).1
  rw [List.getElem?_append_left (by rw [flatSl, List.flatMap_def]; exact hlt), flatSl, List.flatMap_def]
  exact this
theorem with_rows {w w' : World} {f : Floor} {g c k : Nat} {u : Int} {rest : List Value} (h : FloorAt w w.heap.size f) (hb : Below w.heap.size w w') (hx : CellsBox w' g 52 (flatSl (f.slips.modify k fun s => { s with till := u }) ++ rest)) (hc : f.slips.length ≤ c) (hm : c ≤ maxLen) (h9 : f.slips.length ≤ 9) : FloorAt w' w'.heap.size (withF f (some ⟨g, 0, none⟩) c k u) := by
  have h' := h.to hb
  refine ⟨h'.far, h'.picks, slips_of_box hx (by simp only [withF, List.length_modify]; exact hc) hm (by simp only [withF, List.length_modify]; omega), fun s hs => ?_⟩
  have : ∃ s0 ∈ f.slips, s.ad = s0.ad ∧ s.cap = s0.cap ∧ s.lines = s0.lines := by
    simp only [withF] at hs
    obtain ⟨i, hi, rfl⟩ := List.mem_iff_getElem.1 hs
    rw [List.getElem_modify]
    have hi2 : i < f.slips.length := by simpa using hi
    refine ⟨f.slips[i], List.getElem_mem hi2, ?_⟩
    split <;> exact ⟨rfl, rfl, rfl⟩
  obtain ⟨s0, h0, e1, e2, e3⟩ := this
  have := h'.each s0 h0
  rw [e1, e2, e3]
  exact this
set_option maxRecDepth 100000 in
theorem with_any (f : Floor) (k : Nat) (s : SSlip) (hs : f.slips[k]? = some s) (h9 : f.slips.length ≤ 9) (u : Int) (w : World) (h : FloorAt w w.heap.size f) :
    Calls Tryd.prog 80 #[f.val, vi k, vi u] w fun e w' => ∃ g c, e = .returned (withF f (some ⟨g, 0, none⟩) c k u).val ∧ FloorAt w' w'.heap.size (withF f (some ⟨g, 0, none⟩) c k u) ∧ Below w.heap.size w w' := by
  have hk := (List.getElem?_eq_some_iff.1 hs).1
  have HF := Lib.hid h
  have CL := Lib.hid (fun (W : World) hW => clone_any f.sA f.sC f.slips (by omega) (by omega) W hW)
  have HWR := Lib.hid (fun (w' : World) (g c : Nat) (rest : List Value) (hb : Below w.heap.size w w') hx hc hm => with_rows (k := k) (u := u) (rest := rest) (g := g) (c := c) h hb hx hc hm h9)
  have hat := flatSl_at f.slips k s hs
  have HAT := Lib.hid hat
  have HSET := Lib.hid (flatSl_set f.slips k u hk)
  have hfl := flatSl_len f.slips
  have HLEN := Lib.hid hfl
  have hkI : (k : Int) < f.slips.length := by omega
  have h0k : (0 : Int) ≤ k := by omega
  clear h hs hat hfl
  go_enter Tryd.func80, Tryd.ntmps80
  go_wp2_with fail
  refine (CL.out _ (HF.out.slips.to (by (repeat (first | exact Below.refl _ _ | refine Below.setCell ?_ (by first | omega | (simp; omega) | (simp; done)) _ | refine Below.alloc ?_ (by first | omega | (simp; omega) | (simp; done)) _ | refine Below.drew ?_ | refine below_drewN ?_ _ | refine Below.trans ?_ (Below.mono (by assumption) (by first | omega | (simp; omega) | (simp; done)))))))).mono ?_
  rintro e W ⟨g, c, rest, rfl, hc1, hc2, hg, hX, hb⟩
  have HB0 : Below w.heap.size w W := by (repeat (first | exact Below.refl _ _ | refine Below.setCell ?_ (by first | omega | (simp; omega) | (simp; done)) _ | refine Below.alloc ?_ (by first | omega | (simp; omega) | (simp; done)) _ | refine Below.drew ?_ | refine below_drewN ?_ _ | refine Below.trans ?_ (Below.mono (by assumption) (by first | omega | (simp; omega) | (simp; done)))))
  have XF : Hid (CellsBox W w.heap.size 89 f.cells) := ((CellsBox.new w 89 f.cells).alloc _).keep hb
  have XR0 := CellsBox.new (w.alloc (.cells f.cells.toArray 89)) 89 [.slice none 0 0, vi 0, vi 0, .slice none 0 0, vi 0, .slice none 0 0]
  rw [World.size_alloc] at XR0
  have XR : Hid (CellsBox W (w.heap.size + 1) 89 [.slice none 0 0, vi 0, vi 0, .slice none 0 0, vi 0, .slice none 0 0]) := XR0.keep hb
  have HX := Lib.hid hX
  simp only [World.size_alloc] at hg
  have hzW := hb.size
  simp only [World.size_alloc] at hzW
  clear hb hX XR0
  have a0 := XF.out.cell (j := 0) rfl
  have a1 := XF.out.cell (j := 1) rfl
  have a2 := XF.out.cell (j := 2) rfl
  have a3 := XF.out.cell (j := 3) rfl
  have a4 := XF.out.cell (j := 4) rfl
  have a5 := XF.out.cell (j := 5) rfl
  have f5 := XF.out.frozen 5
  have zF := XF.out.lt
  have zR := XR.out.lt
  have zX := HX.out.lt
  have x1 : W.cell? ⟨g, 0 + (k * 2 + 1), none⟩ = some (vi s.till) := by
    rw [Nat.zero_add]
    exact HX.out.cell (by rw [List.getElem?_append_left (by rw [HLEN.out]; omega)]; exact HAT.out.2)
  rw [Nat.zero_add] at x1
  have y1 := HX.out.frozen (k * 2 + 1)
  have r0 := XR.out.cell (j := 0) rfl
  have r1 := XR.out.cell (j := 1) rfl
  have r2 := XR.out.cell (j := 2) rfl
  have r3 := XR.out.cell (j := 3) rfl
  have r4 := XR.out.cell (j := 4) rfl
  have r5 := XR.out.cell (j := 5) rfl
  have q0 := XR.out.frozen 0
  have q1 := XR.out.frozen 1
  have q2 := XR.out.frozen 2
  have q3 := XR.out.frozen 3
  have q4 := XR.out.frozen 4
  have q5 := XR.out.frozen 5
  have ngF : g ≠ w.heap.size := by omega
  have ngR : g ≠ w.heap.size + 1 := by omega
  have NX := Lib.hid ((((((((HX.out.apart ⟨w.heap.size, 5, none⟩ (.slice (some ⟨g, 0, none⟩) f.slips.length c) (by simp only; omega)).store (k * 2 + 1) (vi u)).apart ⟨w.heap.size + 1, 0, none⟩ (.slice f.fA f.far.length f.fC) (by simp only; omega)).apart ⟨w.heap.size + 1, 1, none⟩ (vi f.slo) (by simp only; omega)).apart ⟨w.heap.size + 1, 2, none⟩ (vi f.shi) (by simp only; omega)).apart ⟨w.heap.size + 1, 3, none⟩ (.slice f.pA f.picks.length f.pC) (by simp only; omega)).apart ⟨w.heap.size + 1, 4, none⟩ (vi f.carry) (by simp only; omega)).apart ⟨w.heap.size + 1, 5, none⟩ (.slice (some ⟨g, 0, none⟩) f.slips.length c) (by simp only; omega))
  have NR := Lib.hid ((((((((XR.out.apart ⟨w.heap.size, 5, none⟩ (.slice (some ⟨g, 0, none⟩) f.slips.length c) (by simp only; omega)).apart ⟨g, k * 2 + 1, none⟩ (vi u) (by simp only; omega)).store 0 (.slice f.fA f.far.length f.fC)).store 1 (vi f.slo)).store 2 (vi f.shi)).store 3 (.slice f.pA f.picks.length f.pC)).store 4 (vi f.carry)).store 5 (.slice (some ⟨g, 0, none⟩) f.slips.length c))
  have NB := Lib.hid ((((((((HB0.setCell (p := ⟨w.heap.size, 5, none⟩) (by simp only; omega) (.slice (some ⟨g, 0, none⟩) f.slips.length c)).setCell (p := ⟨g, k * 2 + 1, none⟩) (by simp only; omega) (vi u)).setCell (p := ⟨w.heap.size + 1, 0, none⟩) (by simp only; omega) (.slice f.fA f.far.length f.fC)).setCell (p := ⟨w.heap.size + 1, 1, none⟩) (by simp only; omega) (vi f.slo)).setCell (p := ⟨w.heap.size + 1, 2, none⟩) (by simp only; omega) (vi f.shi)).setCell (p := ⟨w.heap.size + 1, 3, none⟩) (by simp only; omega) (.slice f.pA f.picks.length f.pC)).setCell (p := ⟨w.heap.size + 1, 4, none⟩) (by simp only; omega) (vi f.carry)).setCell (p := ⟨w.heap.size + 1, 5, none⟩) (by simp only; omega) (.slice (some ⟨g, 0, none⟩) f.slips.length c))
  go_wp2_with fail
  refine (?_ : ∀ Z : World, CellsBox Z g 52 ((flatSl f.slips ++ rest).set (k * 2 + 1) (vi u)) → CellsBox Z (w.heap.size + 1) 89 [.slice f.fA f.far.length f.fC, vi f.slo, vi f.shi, .slice f.pA f.picks.length f.pC, vi f.carry, .slice (some ⟨g, 0, none⟩) f.slips.length c] → Below w.heap.size w Z → bodyPost _ _ _ _ _ Z) _ NX.out NR.out NB.out
  clear a0 a1 a2 a3 a4 a5 r0 r1 r2 r3 r4 r5 q0 q1 q2 q3 q4 q5 x1 y1 f5 NX NR NB
  intro Z ZX ZR ZB
  have r0 := ZR.cell (j := 0) rfl
  have r1 := ZR.cell (j := 1) rfl
  have r2 := ZR.cell (j := 2) rfl
  have r3 := ZR.cell (j := 3) rfl
  have r4 := ZR.cell (j := 4) rfl
  have r5 := ZR.cell (j := 5) rfl
  refine bodyPost_ret (v := .agg #[.slice f.fA f.far.length f.fC, vi f.slo, vi f.shi, .slice f.pA f.picks.length f.pC, vi f.carry, .slice (some ⟨g, 0, none⟩) f.slips.length c]) (by simp [results, Tryd.results80, go_sem, r0, r1, r2, r3, r4, r5]) rfl ⟨g, c, ?_, HWR.out Z g c rest ZB ?_ hc1 hc2, ZB⟩
  · simp [withF]
  · rw [List.set_append_left _ _ (by rw [HLEN.out]; omega)] at ZX
    rw [HSET.out]
    exact ZX
end Go.Proofs.YtomgnpfpaodpiaaDoor

