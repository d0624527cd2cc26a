/- The law SlipLates holds of every floor and two numbers. -/
import Derived.Test.YtomgnpfpaodpiaaDoorH38
import Derived.Test.YtomgnpfpaodpiaaDoorH51
set_option linter.unusedVariables false
set_option linter.unusedSimpArgs false
namespace Go.Proofs.YtomgnpfpaodpiaaDoor
open Go Go.RowKit
set_option maxHeartbeats 8000000
theorem rLate_any (f : Floor) (n : Int) (w : World) (h : FloorAt w w.heap.size f) :
    Calls Tryd.prog 31 #[f.val, vi n] w fun e w' => ∃ A cap, e = .returned (.tuple #[.slice A (LateV f n).1.length cap, vi (LateV f n).2]) ∧ IntsAt w' w'.heap.size A cap (LateV f n).1 ∧ Below w.heap.size w w' := by
  rw [← lateV_same]
  obtain ⟨b, hb⟩ : ∃ b, hasB 1 5 n = b := ⟨_, rfl⟩
  obtain ⟨c, hc⟩ : ∃ c, askedV f b = c := ⟨_, rfl⟩
  by_cases hc0 : c = 0
  · have hv : validB f = true ∧ b = true := by
      rw [← hc] at hc0
      unfold askedV checkV at hc0
      cases hv : validB f with
      | false => rw [hv] at hc0; simp at hc0
      | true =>
        rw [hv] at hc0
        cases b with
        | false => simp at hc0
        | true => exact ⟨rfl, rfl⟩
    have E : rLateV f n = (lateQ f n, 0) := by
      unfold rLateV checkV
      rw [if_pos hv.1, if_pos rfl, hb, hv.2, if_pos rfl]
    rw [E]
    exact rLate_ok f hv.1 n (by rw [hb]; exact hv.2) w h
  · have E : rLateV f n = ([], c) := by
      unfold rLateV
      rcases check_two f with ⟨h1, h2⟩ | ⟨h1, h2⟩
      · rw [if_neg (by omega), h1]
        unfold askedV at hc
        rw [if_neg (by omega), h1] at hc
        rw [hc]
      · rw [if_pos h1, hb]
        unfold askedV at hc
        rw [if_pos h1] at hc
        cases b with
        | false => rw [← hc]; rfl
        | true => exact absurd hc.symm hc0
    rw [E]
    refine (rLate_bad f n b hb c hc hc0 w h).mono ?_
    rintro e w' ⟨rfl, hB⟩
    exact ⟨none, 0, rfl, rows_nil _ _, hB⟩
set_option maxRecDepth 100000 in
theorem slipLates_any (f : Floor) (n m : Int) (w : World) (hl : Lim w) (h : FloorAt w w.heap.size f) :
    Calls Tryd.prog 5 #[f.val, .agg #[vi n, vi m]] w fun e w' => e = .returned (.bool true) ∧ Below w.heap.size w w' := by
  have HL := Lib.hid hl
  have HF := Lib.hid h
  obtain ⟨⟨D, dc⟩, hD⟩ : ∃ D, LateV f n = D := ⟨_, rfl⟩
  have C1 : Hid (∀ W : World, Lim W → FloorAt W W.heap.size f → Calls Tryd.prog 30 #[f.val, vi n] W fun e w' => ∃ A, e = .returned (.tuple #[.slice A D.length D.length, vi dc]) ∧ IntsAt w' w'.heap.size A D.length D ∧ Below W.heap.size W w') := fun W h1 h2 => by
    have := Late_any f n W h1 h2
    rwa [hD] at this
  have C2 : Hid (∀ W : World, FloorAt W W.heap.size f → Calls Tryd.prog 31 #[f.val, vi n] W fun e w' => ∃ A cap, e = .returned (.tuple #[.slice A D.length cap, vi dc]) ∧ IntsAt w' w'.heap.size A cap D ∧ Below W.heap.size W w') := fun W h2 => by
    have := rLate_any f n W h2
    rwa [hD] at this
  have C3 : Hid (∀ (W : World) (P Q : Option Addr) (cp cq : Nat), IntsAt W W.heap.size P D.length D → IntsAt W W.heap.size Q D.length D → Calls Tryd.prog 32 #[.slice P D.length cp, .slice Q D.length cq] W fun e w' => e = .returned (.bool true) ∧ Below W.heap.size W w') := fun W P Q cp cq h1 h2 => by
    have := match_free P Q cp cq D D W h1 h2
    simpa using this
  have C4 := Lib.hid (fun (W : World) h1 h2 => Spare_any f m W h1 h2)
  have C5 := Lib.hid (fun (W : World) h2 => rSpare_any f m W h2)
  have HSS := Lib.hid (fun (v c v' c' : Int) h1 h2 => spare_same (f := f) (n := m) (v := v) (c := c) (v' := v') (c' := c') h1 h2)
  obtain ⟨SA, hSA⟩ : ∃ SA, SA = SpareA f m := ⟨_, rfl⟩
  obtain ⟨SQ, hSQ⟩ : ∃ SQ, SQ = SpareQ f m := ⟨_, rfl⟩
  rw [← hSA] at C4 HSS
  rw [← hSQ] at C5 HSS
  clear hl h hD hSA hSQ
  have X0 := CellsBox.new w 28 f.cells
  have hb0 : Below w.heap.size w (w.alloc (.cells f.cells.toArray 28)) := below1 _ _
  have X1 := X0.alloc (.cells #[vi n, vi m] 54)
  have N1 := CellsBox.new (w.alloc (.cells f.cells.toArray 28)) 54 [vi n, vi m]
  have hb1 := hb0.alloc hb0.size (.cells #[vi n, vi m] 54)
  show Calls Tryd.prog 5 #[.agg #[.slice f.fA f.far.length f.fC, vi f.slo, vi f.shi, .slice f.pA f.picks.length f.pC, vi f.carry, .slice f.sA f.slips.length f.sC], .agg #[vi n, vi m]] w _
  go_enter Tryd.func5, Tryd.ntmps5
  go_upto_region 1 with fail
  refine (?_ : ∀ V : World, CellsBox V w.heap.size 28 f.cells → CellsBox V (w.heap.size + 1) 54 [vi n, vi m] → Below w.heap.size w V → Code.wp _ _ _ _ V) _ X1 (by simpa using N1) hb1
  clear X0 hb0 X1 N1 hb1
  intro V X0 N0 HB
  have HX := Lib.hid X0
  have HN := Lib.hid N0
  (have a0 := X0.cell (j := 0) rfl; have a1 := X0.cell (j := 1) rfl; have a2 := X0.cell (j := 2) rfl; have a3 := X0.cell (j := 3) rfl; have a4 := X0.cell (j := 4) rfl; have a5 := X0.cell (j := 5) rfl; have za := X0.lt)
  have n0 := N0.cell (j := 0) rfl
  have n1 := N0.cell (j := 1) rfl
  have zn := N0.lt
  clear X0 N0
  go_wp2_with fail
  refine (C1.out _ (HL.out.next HB) (HF.out.to HB)).mono ?_
  rintro e W1 ⟨R1, rfl, hR1, hb⟩
  have HR1 := Lib.hid hR1
  replace HN := Lib.hid (HN.out.keep hb)
  clear hR1 n0 n1 zn
  (replace HX := Lib.hid (HX.out.keep hb); replace HB : Below w.heap.size w W1 := HB.trans (hb.mono HB.size); clear hb a0 a1 a2 a3 a4 a5 za; (have a0 := HX.out.cell (j := 0) rfl; have a1 := HX.out.cell (j := 1) rfl; have a2 := HX.out.cell (j := 2) rfl; have a3 := HX.out.cell (j := 3) rfl; have a4 := HX.out.cell (j := 4) rfl; have a5 := HX.out.cell (j := 5) rfl; have za := HX.out.lt))
  have n0 := HN.out.cell (j := 0) rfl
  have n1 := HN.out.cell (j := 1) rfl
  have zn := HN.out.lt
  go_wp2_with fail
  refine (C2.out _ (HF.out.to HB)).mono ?_
  rintro e W2 ⟨R2, rc, rfl, hR2, hb⟩
  have HR2 := Lib.hid hR2
  replace HR1 := Lib.hid (HR1.out.to hb)
  replace HN := Lib.hid (HN.out.keep hb)
  clear hR2 n0 n1 zn
  (replace HX := Lib.hid (HX.out.keep hb); replace HB : Below w.heap.size w W2 := HB.trans (hb.mono HB.size); clear hb a0 a1 a2 a3 a4 a5 za; (have a0 := HX.out.cell (j := 0) rfl; have a1 := HX.out.cell (j := 1) rfl; have a2 := HX.out.cell (j := 2) rfl; have a3 := HX.out.cell (j := 3) rfl; have a4 := HX.out.cell (j := 4) rfl; have a5 := HX.out.cell (j := 5) rfl; have za := HX.out.lt))
  have n0 := HN.out.cell (j := 0) rfl
  have n1 := HN.out.cell (j := 1) rfl
  have zn := HN.out.lt
  go_wp2_with fail
  refine (C3.out _ _ _ _ _ HR1.out HR2.out.short).mono ?_
  rintro e W3 ⟨rfl, hb⟩
  replace HN := Lib.hid (HN.out.keep hb)
  clear n0 n1 zn HR1 HR2
  (replace HX := Lib.hid (HX.out.keep hb); replace HB : Below w.heap.size w W3 := HB.trans (hb.mono HB.size); clear hb a0 a1 a2 a3 a4 a5 za; (have a0 := HX.out.cell (j := 0) rfl; have a1 := HX.out.cell (j := 1) rfl; have a2 := HX.out.cell (j := 2) rfl; have a3 := HX.out.cell (j := 3) rfl; have a4 := HX.out.cell (j := 4) rfl; have a5 := HX.out.cell (j := 5) rfl; have za := HX.out.lt))
  have n0 := HN.out.cell (j := 0) rfl
  have n1 := HN.out.cell (j := 1) rfl
  have zn := HN.out.lt
  go_wp2_with fail
  refine (C4.out _ (HL.out.next HB) (HF.out.to HB)).mono ?_
  rintro e W4 ⟨v, c, rfl, hv, hb⟩
  have HV := Lib.hid hv
  replace HN := Lib.hid (HN.out.keep hb)
  clear n0 n1 zn hv
  (replace HX := Lib.hid (HX.out.keep hb); replace HB : Below w.heap.size w W4 := HB.trans (hb.mono HB.size); clear hb a0 a1 a2 a3 a4 a5 za; (have a0 := HX.out.cell (j := 0) rfl; have a1 := HX.out.cell (j := 1) rfl; have a2 := HX.out.cell (j := 2) rfl; have a3 := HX.out.cell (j := 3) rfl; have a4 := HX.out.cell (j := 4) rfl; have a5 := HX.out.cell (j := 5) rfl; have za := HX.out.lt))
  have n0 := HN.out.cell (j := 0) rfl
  have n1 := HN.out.cell (j := 1) rfl
  have zn := HN.out.lt
  go_wp2_with fail
  refine (C5.out _ (HF.out.to HB)).mono ?_
  rintro e W5 ⟨v', c', rfl, hv', hb⟩
  obtain ⟨rfl, rfl⟩ := HSS.out _ _ _ _ HV.out hv'
  clear n0 n1 zn hv' HV a0 a1 a2 a3 a4 a5 za
  (replace HB : Below w.heap.size w W5 := HB.trans (hb.mono HB.size); clear hb)
  go_wp2_with fail
  refine (works_any _ (HL.out.next HB)).mono ?_
  rintro e W ⟨rfl, hb⟩
  (replace HB : Below w.heap.size w W := HB.trans (hb.mono HB.size); clear hb)
  go_wp2_with fail
  go_ret
  exact ⟨rfl, HB⟩
end Go.Proofs.YtomgnpfpaodpiaaDoor

