/- Contract of done: the walk. -/
import Derived.Test.YtomgnpfpaodpiaaDoorK03
import Derived.Laws.MakeOwn
import Derived.Test.YtomgnpfpaodpiaaDoorK01
import Derived.Test.YtomgnpfpaodpiaaDoorK02
set_option linter.unusedVariables false
set_option linter.unusedSimpArgs false
namespace Go.Proofs.YtomgnpfpaodpiaaDoor
open Go Go.RowKit
set_option maxHeartbeats 2000000
theorem takes_tk {f : Floor} (hv : validB f = true) {x : Int} (hx : slipB f x = true) {a b : Int} (hab : tkF f x = (a, b)) (w : World) (h : FloorAt w w.heap.size f) :
    Calls Tryd.prog 61 #[f.val, vi x] w fun e w' => e = .returned (.agg #[vi a, vi b]) ∧ Below w.heap.size w w' := by
  unfold slipB at hx
  simp only [Bool.and_eq_true, decide_eq_true_eq] at hx
  have hk : x.toNat < f.slips.length := by omega
  have hs : f.slips[x.toNat]? = some f.slips[x.toNat] := List.getElem?_eq_getElem hk
  have := takes_any f hv x.toNat _ hs w h
  unfold tkF at hab
  rw [hs] at hab
  simp only at hab
  rw [hab, show ((x.toNat : Nat) : Int) = x by omega] at this
  exact this
theorem row_take (tk : Int → Int × Int) {l : List Int} {j : Nat} {x : Int} (st : (Int × Int) × List (Int × Int)) (h : l[j]? = some x) : (l.take (j + 1)).foldl (stepD tk) st = stepD tk ((l.take j).foldl (stepD tk) st) x := by
  obtain ⟨hj, rfl⟩ := List.getElem?_eq_some_iff.1 h
  rw [List.take_succ_eq_append_getElem hj, List.foldl_append]
  rfl
set_option maxRecDepth 100000 in
theorem done_any (f : Floor) (hv : validB f = true) (A : Option Addr) (cap : Nat) (ts : List SRow) (hrow : ∀ t ∈ ts, t.slips.length ≤ 9 ∧ ∀ x ∈ t.slips, slipB f x = true) (w : World) (h : FloorAt w w.heap.size f) (ht : RosterAt w w.heap.size A cap ts) :
    Calls Tryd.prog 66 #[f.val, .slice A ts.length cap] w fun e w' => ∃ b, e = .returned (.slice (some ⟨b, 0, none⟩) f.slips.length f.slips.length) ∧ w.heap.size ≤ b ∧ CellsBox w' b 24 (flatS (doneF f (ts.map SRow.slips))) ∧ Below w.heap.size w w' := by
  have htl := ht.rows.lens
  have h9 := (fine hv).slips9
  have HF := Lib.hid h
  have HT := Lib.hid ht
  have HTK := Lib.hid (fun (x a b : Int) hx (hab : tkF f x = (a, b)) (W : World) hW => takes_tk hv (x := x) hx hab W hW)
  have HRG := Lib.hid (tk_range hv)
  have HROW := Lib.hid hrow
  obtain ⟨G, hG⟩ : ∃ G : Nat → List (Int × Int), G = fun k => ((ts.map SRow.slips).take k).foldl (rowD (tkF f)) (List.replicate f.slips.length (0, 0)) := ⟨_, rfl⟩
  have G0 : Hid (G 0 = List.replicate f.slips.length (0, 0)) := by unfold Hid; rw [hG]; rfl
  have GL : Hid (∀ k, (G k).length = f.slips.length) := fun k => by rw [hG]; simp only; rw [done_len]; simp
  have GS : Hid (∀ (k : Nat) (t : SRow), ts[k]? = some t → G (k + 1) = rowD (tkF f) (G k) t.slips) := fun k t hk => by
    rw [hG]
    obtain ⟨hk2, rfl⟩ := List.getElem?_eq_some_iff.1 hk
    simp only
    rw [List.take_succ_eq_append_getElem (by simpa using hk2), List.foldl_append]
    simp
  have GA : Hid (G ts.length = doneF f (ts.map SRow.slips)) := by
    unfold Hid; rw [hG]
    simp only
    rw [show ts.length = (ts.map SRow.slips).length by simp, List.take_length]
    rfl
  obtain ⟨R, hR⟩ : ∃ R, R = doneF f (ts.map SRow.slips) := ⟨_, rfl⟩
  obtain ⟨tk, htk⟩ : ∃ tk, tk = tkF f := ⟨_, rfl⟩
  obtain ⟨sb, hsb⟩ : ∃ sb, sb = slipB f := ⟨_, rfl⟩
  have HSB : Hid (∀ x, sb x = true → 0 ≤ x ∧ x < f.slips.length) := fun x hx => by
    rw [hsb] at hx; unfold slipB at hx
    simpa using hx
  rw [← hR] at GA ⊢
  rw [← htk] at GS HRG HTK
  rw [← hsb] at HROW HTK
  clear hG hR htk hsb hrow h ht hv
  have hmk := mkSpans f.slips.length (by omega)
  go_enter Tryd.func66, Tryd.ntmps66
  go_wp2_with fail
  obtain ⟨V0, hV0⟩ : ∃ V0, V0 = (w.alloc (.cells #[.slice f.fA f.far.length f.fC, vi f.slo, vi f.shi, .slice f.pA f.picks.length f.pC, vi f.carry, .slice f.sA f.slips.length f.sC] 89)).alloc (.cells (Array.replicate (f.slips.length * 2) (vi 0)) 24) := ⟨_, rfl⟩
  have hb0 : Below w.heap.size w V0 := by rw [hV0]; (repeat (first | exact Below.refl _ _ | refine Below.setCell ?_ (by first | omega | (simp; omega) | (simp; done)) _ | refine Below.alloc ?_ (by first | omega | (simp; omega) | (simp; done)) _ | refine Below.drew ?_ | refine below_drewN ?_ _ | refine Below.trans ?_ (Below.mono (by assumption) (by first | omega | (simp; omega) | (simp; done)))))
  have XF : Hid (CellsBox V0 w.heap.size 89 f.cells) := by unfold Hid; rw [hV0]; exact (CellsBox.new w 89 f.cells).alloc _
  have XR : Hid (CellsBox V0 (w.heap.size + 1) 24 (flatS (G 0))) := by
    unfold Hid; rw [hV0, G0.out, flatS_rep]
    have := CellsBox.new (w.alloc (.cells #[.slice f.fA f.far.length f.fC, vi f.slo, vi f.shi, .slice f.pA f.picks.length f.pC, vi f.carry, .slice f.sA f.slips.length f.sC] 89)) 24 (List.replicate (f.slips.length * 2) (vi 0))
    simp only [List.toArray_replicate, World.size_alloc] at this
    exact this
  rw [← hV0]
  clear hV0 hmk
  go_loopw [7, 8, 10, 18, 25] (fun a b c i j wr => ∃ k : Nat, k ≤ ts.length ∧ i = .int .i64 k ∧ Below w.heap.size w wr ∧ Hid (CellsBox wr w.heap.size 89 f.cells) ∧ Hid (CellsBox wr (w.heap.size + 1) 24 (flatS (G k)))) (fun _ _ _ i _ _ => ts.length - (intOf i).toNat)
  case atStart => exact ⟨0, Nat.zero_le _, rfl, hb0, XF, XR⟩
  clear XF XR hb0 V0
  obtain ⟨k, hk, rfl, hB, XF, XR⟩ := hrel
  obtain ⟨wo, hwo⟩ : ∃ wo, wo = wr := ⟨_, rfl⟩
  subst hwo
  have hz := hB.size
  have zR := XR.out.lt
  by_cases hlt : k < ts.length
  · obtain ⟨t, ht⟩ : ∃ t, ts[k]? = some t := ⟨_, List.getElem?_eq_getElem hlt⟩
    have hTr := HT.out.to hB
    obtain ⟨bb, off, rfl, hbb, x0⟩ := row1 hTr.rows.row ht rfl
    have HTL := Lib.hid (hTr.each t (List.mem_of_getElem? ht))
    have hln := HTL.out.lens
    have HGk := Lib.hid (GS.out k t ht)
    obtain ⟨ht9, htB⟩ := HROW.out t (List.mem_of_getElem? ht)
    have HTB := Lib.hid htB
    have zbb : bb < wo.heap.size := cell_lt x0
    have hkI : (k : Int) < ts.length := by omega
    have h0k : (0 : Int) ≤ k := by omega
    have HTM := Lib.hid (List.mem_of_getElem? ht)
    clear ht hTr htB
    obtain ⟨tA, tC, tl⟩ := t
    simp only at HTL HGk hln ht9 HTB
    replace x0 : wo.cell? ⟨bb, off + k, none⟩ = some (.slice tA tl.length tC) := x0
    obtain ⟨S, hS⟩ : ∃ S : Nat → (Int × Int) × List (Int × Int), S = fun j => (tl.take j).foldl (stepD tk) ((0, 0), G k) := ⟨_, rfl⟩
    have S0 : Hid (S 0 = ((0, 0), G k)) := by unfold Hid; rw [hS]; rfl
    have SS : Hid (∀ (j : Nat) (x : Int), tl[j]? = some x → S (j + 1) = stepD tk (S j) x) := fun j x hx => by rw [hS]; exact row_take tk _ hx
    have SA : Hid ((S tl.length).2 = G (k + 1)) := by unfold Hid; rw [hS, HGk.out]; simp only; rw [List.take_length]; rfl
    have SR : Hid (∀ j, (0 ≤ (S j).1.1 ∧ (S j).1.1 ≤ 180000000) ∧ (0 ≤ (S j).1.2 ∧ (S j).1.2 ≤ 180000000)) := fun j => by
      have := now_range HRG.out (tl.take j) ((0, 0), G k)
      have hl : (tl.take j).length ≤ 9 := by rw [List.length_take]; omega
      rw [hS]; simp only at this ⊢; omega
    have SL : Hid (∀ j, (S j).2.length = f.slips.length) := fun j => by rw [hS]; simp only; rw [row_len]; exact GL.out k
    clear hS HGk
    go_wp2_with fail
    refine (one_any 0 _).mono ?_
    rintro e W1 ⟨rfl, hb1⟩
    have hzb := hb1.size
    obtain ⟨V1, hV1⟩ : ∃ V1, V1 = W1.alloc (.cells #[vi 0, vi 0] 24) := ⟨_, rfl⟩
    have hbV : Below wo.heap.size wo V1 := by rw [hV1]; exact hb1.alloc hzb _
    have XB : Hid (CellsBox V1 W1.heap.size 24 [vi (S 0).1.1, vi (S 0).1.2]) := by unfold Hid; rw [hV1, S0.out]; exact CellsBox.new W1 _ _
    have XF1 := Lib.hid (XF.out.keep hbV)
    have XR1 : Hid (CellsBox V1 (w.heap.size + 1) 24 (flatS (S 0).2)) := by unfold Hid; rw [S0.out]; exact XR.out.keep hbV
    obtain ⟨b8, hb8⟩ : ∃ b8, b8 = W1.heap.size := ⟨_, rfl⟩
    have hb8z : wo.heap.size ≤ b8 := by omega
    go_wp2_with fail
    rw [← hV1, ← hb8]
    rw [← hb8] at XB
    clear hV1 hb8 hb1 x0 hzb W1
    go_loopw [10, 25] (fun c i w2 => ∃ j : Nat, j ≤ tl.length ∧ i = .int .i64 j ∧ Below w.heap.size w w2 ∧ wo.heap.size ≤ w2.heap.size ∧ Hid (CellsBox w2 b8 24 [vi (S j).1.1, vi (S j).1.2]) ∧ Hid (CellsBox w2 w.heap.size 89 f.cells) ∧ Hid (CellsBox w2 (w.heap.size + 1) 24 (flatS (S j).2)) ∧ Hid (Below wo.heap.size wo w2 ∨ True)) (fun _ i _ => tl.length - (intOf i).toNat)
    case atStart => exact ⟨0, Nat.zero_le _, rfl, hB.trans (hbV.mono hz), hbV.size, XB, XF1, XR1, .inr trivial⟩
    clear XB XF1 XR1 hbV V1
    obtain ⟨j, hj, rfl, hB2, hzz, XB, XF2, XR2, -⟩ := hrel
    have zR2 := XR2.out.lt
    have z82 := XB.out.lt
    by_cases hjl : j < tl.length
    · obtain ⟨x, hx⟩ : ∃ x, tl[j]? = some x := ⟨_, List.getElem?_eq_getElem hjl⟩
      obtain ⟨bc, oc, htA, hbc, y0⟩ := ints_at ((HT.out.to hB2).each _ HTM.out) hx
      simp only at htA
      subst htA
      have hsx : sb x = true := HTB.out x (List.mem_of_getElem? hx)
      obtain ⟨hx0, hx1⟩ := HSB.out x hsx
      obtain ⟨p, q, hpq⟩ : ∃ p q, tk x = (p, q) := ⟨_, _, rfl⟩
      have TK := Lib.hid (fun (W : World) hW => HTK.out x p q hsx hpq W hW)
      have HSn := Lib.hid (SS.out j x hx)
      have hSj := SR.out j
      have hLj := SL.out j
      obtain ⟨sj, hsj⟩ : ∃ sj, sj = S j := ⟨_, rfl⟩
      rw [← hsj] at XB XR2 HSn hSj hLj
      obtain ⟨⟨lo, hi⟩, out⟩ := sj
      simp only at XB XR2 hSj hLj
      obtain ⟨s, rfl⟩ : ∃ s : Nat, x = s := ⟨x.toNat, by omega⟩
      have HSn2 : Hid (S (j + 1) = ((lo + p, hi + q), out.set s (lo + p, hi + q))) := by unfold Hid; rw [HSn.out, stepD, hpq]; simp [addS]
      have hpr := HRG.out s
      rw [hpq] at hpr
      simp only at hpr
      have AD := Lib.hid (fun (W : World) => add_any lo hi p q (by omega) (by omega) (by omega) (by omega) W)
      have hjI : (j : Int) < tl.length := by omega
      have h0j : (0 : Int) ≤ j := by omega
      have zbc : bc < wr.heap.size := cell_lt y0
      have hs1 : s < f.slips.length := by omega
      obtain ⟨os, hos⟩ : ∃ os, out[s]? = some os := ⟨_, List.getElem?_eq_getElem (by omega)⟩
      obtain ⟨v0, v1⟩ := flatS_at out s os hos
      have HV0 := Lib.hid v0
      have HV1 := Lib.hid v1
      have f0 := XF2.out.cell (j := 0) rfl
      have f1 := XF2.out.cell (j := 1) rfl
      have f2 := XF2.out.cell (j := 2) rfl
      have f3 := XF2.out.cell (j := 3) rfl
      have f4 := XF2.out.cell (j := 4) rfl
      have f5 := XF2.out.cell (j := 5) rfl
      have zF := XF2.out.lt
      have b0 := XB.out.cell (j := 0) rfl
      have b1 := XB.out.cell (j := 1) rfl
      clear hx hsx hsj HSn hpq hos v0 v1 HT HTL HTM HTB GS GA GL G0 SS SA SR SL S0 HROW
      go_wp2_with fail
      go_region_with (first
        | (go_at_call 61; go_loud (refine (TK.out _ (HF.out.to (gr_trans hB2 (by (repeat (first | exact Below.refl _ _ | refine Below.setCell ?_ (by first | omega | (simp; omega) | (simp; done)) _ | refine Below.alloc ?_ (by first | omega | (simp; omega) | (simp; done)) _ | refine Below.drew ?_ | refine below_drewN ?_ _ | refine Below.trans ?_ (Below.mono (by assumption) (by first | omega | (simp; omega) | (simp; done))))))))).mono ?_; rintro e wq ⟨rfl, hbq⟩; have HBq : Below wr.heap.size wr wq := (by (repeat (first | exact Below.refl _ _ | refine Below.setCell ?_ (by first | omega | (simp; omega) | (simp; done)) _ | refine Below.alloc ?_ (by first | omega | (simp; omega) | (simp; done)) _ | refine Below.drew ?_ | refine below_drewN ?_ _ | refine Below.trans ?_ (Below.mono (by assumption) (by first | omega | (simp; omega) | (simp; done)))))); have k0 : wq.cell? ⟨b8, 0, none⟩ = some (vi lo) := cell_keep HBq b0; have k1 : wq.cell? ⟨b8, 1, none⟩ = some (vi hi) := cell_keep HBq b1; have zq : b8 < wq.heap.size := cell_lt k0))
        | (go_at_call 99; go_loud (refine (AD.out _).mono ?_; rintro e wv ⟨rfl, hbv⟩; have HBv : Below wr.heap.size wr wv := gr_trans HBq (by (repeat (first | exact Below.refl _ _ | refine Below.setCell ?_ (by first | omega | (simp; omega) | (simp; done)) _ | refine Below.alloc ?_ (by first | omega | (simp; omega) | (simp; done)) _ | refine Below.drew ?_ | refine below_drewN ?_ _ | refine Below.trans ?_ (Below.mono (by assumption) (by first | omega | (simp; omega) | (simp; done)))))); have l0 : wv.cell? ⟨b8, 0, none⟩ = some (vi lo) := cell_keep HBv b0; have l1 : wv.cell? ⟨b8, 1, none⟩ = some (vi hi) := cell_keep HBv b1; have zv : b8 < wv.heap.size := cell_lt l0; have y0 : wv.frozen? ⟨b8, 0, none⟩ = false := (XB.out.keep HBv).frozen 0; have y1 : wv.frozen? ⟨b8, 1, none⟩ = false := (XB.out.keep HBv).frozen 1)))
      all_goals
        have Q8 := ((XB.out.keep HBv).store 0 (vi (lo + p))).store 1 (vi (hi + q))
        have QF := ((XF2.out.keep HBv).apart ⟨b8, 0, none⟩ (vi (lo + p)) (by simp only; omega)).apart ⟨b8, 1, none⟩ (vi (hi + q)) (by simp only; omega)
        have QR := ((XR2.out.keep HBv).apart ⟨b8, 0, none⟩ (vi (lo + p)) (by simp only; omega)).apart ⟨b8, 1, none⟩ (vi (hi + q)) (by simp only; omega)
        have QB := ((gr_trans hB2 HBv).setCell (p := ⟨b8, 0, none⟩) (by simp only; omega) (vi (lo + p))).setCell (p := ⟨b8, 1, none⟩) (by simp only; omega) (vi (hi + q))
        have QS : wo.heap.size ≤ ((wv.setCell ⟨b8, 0, none⟩ (vi (lo + p))).setCell ⟨b8, 1, none⟩ (vi (hi + q))).heap.size := by have := HBv.size; simp; omega
        refine (?_ : ∀ W9 : World, CellsBox W9 b8 24 [vi (lo + p), vi (hi + q)] → CellsBox W9 w.heap.size 89 f.cells → CellsBox W9 (w.heap.size + 1) 24 (flatS out) → Below w.heap.size w W9 → wo.heap.size ≤ W9.heap.size → Exit.then _ _ _ _ W9) _ Q8 QF QR QB QS
      all_goals
        clear b0 b1 f0 f1 f2 f3 f4 f5 k0 k1 l0 l1 y0 y1 zq zv HBq HBv hbq hbv
        intro W9 X8 X7 X6 B9 S9
        have b0 := X8.cell (j := 0) rfl
        have b1 := X8.cell (j := 1) rfl
        have g0 := X6.cell HV0.out
        have g1 := X6.cell HV1.out
        have z0 := X6.frozen (s * 2)
        have z1 := X6.frozen (s * 2 + 1)
        have z8 := X8.lt
        have z6 := X6.lt
        have N8 := Lib.hid ((X8.apart ⟨w.heap.size + 1, s * 2, none⟩ (vi (lo + p)) (by simp only; omega)).apart ⟨w.heap.size + 1, s * 2 + 1, none⟩ (vi (hi + q)) (by simp only; omega))
        have N7 := Lib.hid ((X7.apart ⟨w.heap.size + 1, s * 2, none⟩ (vi (lo + p)) (by simp only; omega)).apart ⟨w.heap.size + 1, s * 2 + 1, none⟩ (vi (hi + q)) (by simp only; omega))
        have N6 := Lib.hid ((X6.store (s * 2) (vi (lo + p))).store (s * 2 + 1) (vi (hi + q)))
        have NB := Lib.hid ((B9.setCell (p := ⟨w.heap.size + 1, s * 2, none⟩) (by simp only; omega) (vi (lo + p))).setCell (p := ⟨w.heap.size + 1, s * 2 + 1, none⟩) (by simp only; omega) (vi (hi + q)))
        have NS : Hid (wo.heap.size ≤ ((W9.setCell ⟨w.heap.size + 1, s * 2, none⟩ (vi (lo + p))).setCell ⟨w.heap.size + 1, s * 2 + 1, none⟩ (vi (hi + q))).heap.size) := by unfold Hid; simp; omega
        clear X8 X7 X6 B9 HV0 HV1
        go_wp2_with fail
        go_roundw
      all_goals first
        | exact ⟨j + 1, by omega, by go_num, NB.out, NS.out, by rw [HSn2.out]; exact N8, N7, by rw [HSn2.out]; unfold Hid; rw [flatS_set _ _ _ (by omega)]; exact N6.out, .inr trivial⟩
        | (simp [intOf]; omega)
    · obtain rfl : j = tl.length := by omega
      have XR3 : Hid (CellsBox wr (w.heap.size + 1) 24 (flatS (G (k + 1)))) := by unfold Hid; rw [← SA.out]; exact XR2.out
      go_wp2_with fail
      go_roundw
      case rel => exact ⟨k + 1, by omega, by go_num, hB2, XF2, XR3⟩
      case measure => simp [intOf]; omega
  · obtain rfl : k = ts.length := by omega
    rw [GA.out] at XR
    go_wp2_with fail
    go_ret
    exact ⟨_, rfl, by omega, XR.out, hB⟩
end Go.Proofs.YtomgnpfpaodpiaaDoor
/- Contract of Done. -/
namespace Go.Proofs.YtomgnpfpaodpiaaDoor
open Go Go.RowKit
set_option maxHeartbeats 2000000
def cntB (m : Nat) : Nat := (List.range 9).countP fun i => m.testBit i
theorem cnt_or : ∀ (m : Fin 512) (s : Fin 9), m.val.testBit s.val = false → cntB (m.val ||| 2 ^ s.val) = cntB m.val + 1 := by decide +kernel
theorem cnt_le (m : Nat) : cntB m ≤ 9 := by
  have := List.countP_le_length (p := fun i => m.testBit i) (l := List.range 9)
  simpa [cntB] using this
theorem row_good {f : Floor} (h9 : f.slips.length ≤ 9) : ∀ (l : List Int) (m m' : Nat), m < 512 → l.foldl (stepR f) (some m) = some m' → m' < 512 ∧ cntB m' = cntB m + l.length ∧ ∀ x ∈ l, slipB f x = true
  | [], m, m', hm, h => by
    simp at h; subst h
    exact ⟨hm, by simp, by simp⟩
  | x :: l, m, m', hm, h => by
    rw [List.foldl_cons] at h
    have e : stepR f (some m) x = if slipB f x && !(m.testBit x.toNat) then some (m ||| 2 ^ x.toNat) else none := rfl
    rw [e] at h
    by_cases hc : (slipB f x && !(m.testBit x.toNat)) = true
    · rw [if_pos hc] at h
      simp only [Bool.and_eq_true, Bool.not_eq_true'] at hc
      obtain ⟨h1, h2⟩ := hc
      have hs := h1
      unfold slipB at hs
      simp only [Bool.and_eq_true, decide_eq_true_eq] at hs
      have hx9 : x.toNat < 9 := by omega
      have hlt : m ||| 2 ^ x.toNat < 512 := Nat.or_lt_two_pow (n := 9) (by omega) (Nat.pow_lt_pow_right (by omega) hx9)
      obtain ⟨i1, i2, i3⟩ := row_good h9 l _ m' hlt h
      have := cnt_or ⟨m, hm⟩ ⟨x.toNat, hx9⟩ h2
      simp only at this
      refine ⟨i1, by rw [i2, this, List.length_cons]; omega, fun y hy => ?_⟩
      rcases List.mem_cons.1 hy with rfl | hy
      · exact h1
      · exact i3 y hy
    · rw [if_neg hc, step_none] at h
      cases h
theorem rows_good {f : Floor} (h9 : f.slips.length ≤ 9) : ∀ (ts : List SRow) (m m' : Nat), m < 512 → rowsR f (some m) ts = some m' → ∀ t ∈ ts, t.slips.length ≤ 9 ∧ ∀ x ∈ t.slips, slipB f x = true
  | [], _, _, _, _, t, ht => by simp at ht
  | a :: ts, m, m', hm, h, t, ht => by
    unfold rowsR at h
    rw [List.foldl_cons] at h
    cases h1 : a.slips.foldl (stepR f) (some m) with
    | none => rw [h1] at h; have := rows_none f ts; unfold rowsR at this; rw [this] at h; cases h
    | some m1 =>
      rw [h1] at h
      obtain ⟨i1, i2, i3⟩ := row_good h9 _ _ _ hm h1
      rcases List.mem_cons.1 ht with rfl | ht
      · have := cnt_le m1
        exact ⟨by omega, i3⟩
      · exact rows_good h9 ts m1 m' i1 h t ht
theorem roster_rows {f : Floor} {ts : List SRow} (h9 : f.slips.length ≤ 9) (h : rosterB f ts = true) : (1 ≤ ts.length ∧ ts.length ≤ 5) ∧ ∀ t ∈ ts, t.slips.length ≤ 9 ∧ ∀ x ∈ t.slips, slipB f x = true := by
  unfold rosterB at h
  simp only [Bool.and_eq_true, beq_iff_eq, hasB_iff] at h
  exact ⟨by omega, rows_good h9 ts 0 _ (by omega) h.2⟩
theorem rows_of_box {w : World} {b n : Nat} {l : List (Int × Int)} (h : CellsBox w b 24 (flatS l)) (hn : l.length = n) (h9 : n ≤ 35184372088832) : RowsAt w w.heap.size 2 (some ⟨b, 0, none⟩) n (l.map spanC) := by
  refine ⟨by simp [hn], by omega, by simp; omega, fun _ => ⟨b, 0, rfl, h.lt, fun i r hr j u hj hu => ?_⟩⟩
  have := flat_at (sz := 2) (l.map spanC) (fun r hr => by obtain ⟨p, _, rfl⟩ := List.mem_map.1 hr; rfl) i r hr j u hj hu
  rw [Nat.zero_add]
  exact h.cell (by rw [flatS, List.flatMap_def]; exact this)
theorem rows_nil (w : World) (sz : Nat) : RowsAt w w.heap.size sz none 0 [] := ⟨by simp, by omega, by simp, fun h => by simp at h⟩
def DoneV (f : Floor) (ts : List SRow) : List (Int × Int) × Int := if checkV f = 0 then (if rosterB f ts then (doneF f (ts.map SRow.slips), 0) else ([], 31)) else ([], checkV f)
theorem check_two (f : Floor) : (checkV f = 30 ∧ validB f = false) ∨ (checkV f = 0 ∧ validB f = true) := by
  unfold checkV
  cases validB f <;> simp
theorem roster_is {f : Floor} {ts : List SRow} {b : Bool} (hb : rosterB f ts = b) (hf9 : f.slips.length ≤ 9) (A : Option Addr) (cap : Nat) (w : World) (hl : Lim w) (ht : RosterAt w w.heap.size A cap ts) :
    Calls Tryd.prog 65 #[f.val, .slice A ts.length cap] w fun e w' => e = .returned (.bool b) ∧ Below w.heap.size w w' := by
  rw [← hb]
  exact isRoster_any f hf9 A cap ts w hl ht
set_option maxRecDepth 100000 in
theorem Done_any (f : Floor) (A : Option Addr) (cap : Nat) (ts : List SRow) (w : World) (hl : Lim w) (h : FloorAt w w.heap.size f) (ht : RosterAt w w.heap.size A cap ts) :
    Calls Tryd.prog 25 #[f.val, .slice A ts.length cap] w fun e w' => ∃ R, e = .returned (.tuple #[.slice R (DoneV f ts).1.length (DoneV f ts).1.length, vi (DoneV f ts).2]) ∧ RowsAt w' w'.heap.size 2 R (DoneV f ts).1.length ((DoneV f ts).1.map spanC) ∧ Below w.heap.size w w' := by
  have HL := Lib.hid hl
  have HF := Lib.hid h
  have HT := Lib.hid ht
  rcases check_two f with ⟨hc, hv⟩ | ⟨hc, hv⟩
  · have CH := Lib.hid (fun (W : World) hL hW => check_is hc W hL hW)
    have E : DoneV f ts = ([], 30) := by unfold DoneV; rw [if_neg (by omega), hc]
    rw [E]
    clear h hl ht hc E hv
    go_enter Tryd.func25, Tryd.ntmps25
    go_wp2_with fail
    refine (CH.out _ (HL.out.next (by (repeat (first | exact Below.refl _ _ | refine Below.setCell ?_ (by first | omega | (simp; omega) | (simp; done)) _ | refine Below.alloc ?_ (by first | omega | (simp; omega) | (simp; done)) _ | refine Below.drew ?_ | refine below_drewN ?_ _ | refine Below.trans ?_ (Below.mono (by assumption) (by first | omega | (simp; omega) | (simp; done))))))) (HF.out.to (by (repeat (first | exact Below.refl _ _ | refine Below.setCell ?_ (by first | omega | (simp; omega) | (simp; done)) _ | refine Below.alloc ?_ (by first | omega | (simp; omega) | (simp; done)) _ | refine Below.drew ?_ | refine below_drewN ?_ _ | refine Below.trans ?_ (Below.mono (by assumption) (by first | omega | (simp; omega) | (simp; done)))))))).mono ?_
    rintro e W ⟨rfl, hb⟩
    have HB0 : Below w.heap.size w W := by (repeat (first | exact Below.refl _ _ | refine Below.setCell ?_ (by first | omega | (simp; omega) | (simp; done)) _ | refine Below.alloc ?_ (by first | omega | (simp; omega) | (simp; done)) _ | refine Below.drew ?_ | refine below_drewN ?_ _ | refine Below.trans ?_ (Below.mono (by assumption) (by first | omega | (simp; omega) | (simp; done)))))
    clear hb
    go_wp2_with fail
    go_ret2
    exact ⟨none, rfl, rows_nil _ _, HB0⟩
  · have h9 := (fine hv).slips9
    have CH := Lib.hid (fun (W : World) hL hW => check_is hc W hL hW)
    rcases hr : rosterB f ts with _ | _
    · have E : DoneV f ts = ([], 31) := by unfold DoneV; rw [if_pos hc, hr]; rfl
      have RO := Lib.hid (fun (W : World) hL hT => roster_is hr h9 A cap W hL hT)
      rw [E]
      clear h hl ht hc E hv hr h9
      go_enter Tryd.func25, Tryd.ntmps25
      go_wp2_with fail
      refine (CH.out _ (HL.out.next (by (repeat (first | exact Below.refl _ _ | refine Below.setCell ?_ (by first | omega | (simp; omega) | (simp; done)) _ | refine Below.alloc ?_ (by first | omega | (simp; omega) | (simp; done)) _ | refine Below.drew ?_ | refine below_drewN ?_ _ | refine Below.trans ?_ (Below.mono (by assumption) (by first | omega | (simp; omega) | (simp; done))))))) (HF.out.to (by (repeat (first | exact Below.refl _ _ | refine Below.setCell ?_ (by first | omega | (simp; omega) | (simp; done)) _ | refine Below.alloc ?_ (by first | omega | (simp; omega) | (simp; done)) _ | refine Below.drew ?_ | refine below_drewN ?_ _ | refine Below.trans ?_ (Below.mono (by assumption) (by first | omega | (simp; omega) | (simp; done)))))))).mono ?_
      rintro e W ⟨rfl, hb⟩
      have HB0 : Below w.heap.size w W := by (repeat (first | exact Below.refl _ _ | refine Below.setCell ?_ (by first | omega | (simp; omega) | (simp; done)) _ | refine Below.alloc ?_ (by first | omega | (simp; omega) | (simp; done)) _ | refine Below.drew ?_ | refine below_drewN ?_ _ | refine Below.trans ?_ (Below.mono (by assumption) (by first | omega | (simp; omega) | (simp; done)))))
      have a0 : W.cell? ⟨w.heap.size, 0, none⟩ = some (.slice f.fA f.far.length f.fC) := cell_keep hb (by simp [go_sem])
      have a1 : W.cell? ⟨w.heap.size, 1, none⟩ = some (vi f.slo) := cell_keep hb (by simp [go_sem])
      have a2 : W.cell? ⟨w.heap.size, 2, none⟩ = some (vi f.shi) := cell_keep hb (by simp [go_sem])
      have a3 : W.cell? ⟨w.heap.size, 3, none⟩ = some (.slice f.pA f.picks.length f.pC) := cell_keep hb (by simp [go_sem])
      have a4 : W.cell? ⟨w.heap.size, 4, none⟩ = some (vi f.carry) := cell_keep hb (by simp [go_sem])
      have a5 : W.cell? ⟨w.heap.size, 5, none⟩ = some (.slice f.sA f.slips.length f.sC) := cell_keep hb (by simp [go_sem])
      clear hb
      go_wp2_with fail
      refine (RO.out _ (HL.out.next HB0) (HT.out.to HB0)).mono ?_
      rintro e W2 ⟨rfl, hb2⟩
      go_wp2_with fail
      go_ret2
      exact ⟨none, rfl, rows_nil _ _, gr_trans HB0 hb2⟩
    · have E : DoneV f ts = (doneF f (ts.map SRow.slips), 0) := by unfold DoneV; rw [if_pos hc, hr]; rfl
      have RO := Lib.hid (fun (W : World) hL hT => roster_is hr h9 A cap W hL hT)
      obtain ⟨_, hrow⟩ := roster_rows h9 hr
      have DO := Lib.hid (fun (W : World) hF hT => done_any f hv A cap ts hrow W hF hT)
      have HDL : Hid ((doneF f (ts.map SRow.slips)).length = f.slips.length) := by unfold Hid doneF; rw [done_len]; simp
      have HFIN := Lib.hid (fun (W : World) (b : Nat) hb => rows_of_box (w := W) (b := b) (l := doneF f (ts.map SRow.slips)) hb rfl (by rw [HDL.out]; omega))
      rw [E]
      obtain ⟨R, hR⟩ : ∃ R, R = doneF f (ts.map SRow.slips) := ⟨_, rfl⟩
      rw [← hR] at DO HDL HFIN ⊢
      clear h hl ht hc E hv hr hrow hR h9
      go_enter Tryd.func25, Tryd.ntmps25
      go_wp2_with fail
      refine (CH.out _ (HL.out.next (by (repeat (first | exact Below.refl _ _ | refine Below.setCell ?_ (by first | omega | (simp; omega) | (simp; done)) _ | refine Below.alloc ?_ (by first | omega | (simp; omega) | (simp; done)) _ | refine Below.drew ?_ | refine below_drewN ?_ _ | refine Below.trans ?_ (Below.mono (by assumption) (by first | omega | (simp; omega) | (simp; done))))))) (HF.out.to (by (repeat (first | exact Below.refl _ _ | refine Below.setCell ?_ (by first | omega | (simp; omega) | (simp; done)) _ | refine Below.alloc ?_ (by first | omega | (simp; omega) | (simp; done)) _ | refine Below.drew ?_ | refine below_drewN ?_ _ | refine Below.trans ?_ (Below.mono (by assumption) (by first | omega | (simp; omega) | (simp; done)))))))).mono ?_
      rintro e W ⟨rfl, hb⟩
      have HB0 : Below w.heap.size w W := by (repeat (first | exact Below.refl _ _ | refine Below.setCell ?_ (by first | omega | (simp; omega) | (simp; done)) _ | refine Below.alloc ?_ (by first | omega | (simp; omega) | (simp; done)) _ | refine Below.drew ?_ | refine below_drewN ?_ _ | refine Below.trans ?_ (Below.mono (by assumption) (by first | omega | (simp; omega) | (simp; done)))))
      have a0 : W.cell? ⟨w.heap.size, 0, none⟩ = some (.slice f.fA f.far.length f.fC) := cell_keep hb (by simp [go_sem])
      have a1 : W.cell? ⟨w.heap.size, 1, none⟩ = some (vi f.slo) := cell_keep hb (by simp [go_sem])
      have a2 : W.cell? ⟨w.heap.size, 2, none⟩ = some (vi f.shi) := cell_keep hb (by simp [go_sem])
      have a3 : W.cell? ⟨w.heap.size, 3, none⟩ = some (.slice f.pA f.picks.length f.pC) := cell_keep hb (by simp [go_sem])
      have a4 : W.cell? ⟨w.heap.size, 4, none⟩ = some (vi f.carry) := cell_keep hb (by simp [go_sem])
      have a5 : W.cell? ⟨w.heap.size, 5, none⟩ = some (.slice f.sA f.slips.length f.sC) := cell_keep hb (by simp [go_sem])
      clear hb
      go_wp2_with fail
      refine (RO.out _ (HL.out.next HB0) (HT.out.to HB0)).mono ?_
      rintro e W2 ⟨rfl, hb2⟩
      have b0 := cell_keep hb2 a0
      have b1 := cell_keep hb2 a1
      have b2 := cell_keep hb2 a2
      have b3 := cell_keep hb2 a3
      have b4 := cell_keep hb2 a4
      have b5 := cell_keep hb2 a5
      have HB2 := gr_trans HB0 hb2
      clear hb2 a0 a1 a2 a3 a4 a5
      go_wp2_with fail
      refine (DO.out _ (HF.out.to HB2) (HT.out.to HB2)).mono ?_
      rintro e W3 ⟨b, rfl, hbb, hX, hb3⟩
      have HX := Lib.hid hX
      clear hX b0 b1 b2 b3 b4 b5
      go_wp2_with fail
      go_ret2
      exact ⟨some ⟨b, 0, none⟩, by rw [HDL.out]; rfl, HFIN.out _ _ HX.out, gr_trans HB2 hb3⟩
end Go.Proofs.YtomgnpfpaodpiaaDoor
/- Contracts of slices.Clone and floor.with. -/
namespace Go.Proofs.YtomgnpfpaodpiaaDoor
open Go Go.RowKit
set_option maxHeartbeats 2000000
abbrev flatSl (l : List SSlip) : List Value := l.flatMap SSlip.cells
theorem info_slip : (Tryd.prog.info? 52).map (fun i => (i.zero, i.size, i.bytes)) = some (some (.agg #[.slice none 0 0, vi 0]), 2, 32) := by kernel_rfl
theorem slips_two (l : List SSlip) : ∀ r ∈ l.map SSlip.cells, r.length = 2 := fun r hr => by
  obtain ⟨s, _, rfl⟩ := List.mem_map.1 hr
  rfl
theorem own_empty (w : World) (e : TypeId) (sz : Nat) : (w.alloc (.cells #[] e)).ownsRow w.heap.size e sz (.slice (some ⟨w.heap.size, 0, none⟩) 0 0) 0 [] :=
  ⟨by simp, .inr ⟨w.heap.size, 0, #[], rfl, Nat.le_refl _, World.alloc_heap_new w _, Nat.le_refl _, by simp [maxLen], by simp, by simp⟩⟩
theorem row_cells {w : World} {B sz : Nat} {b off : Nat} {rows : List (List Value)} (h : RowAt w B sz (some ⟨b, off, none⟩) rows) (hsz : ∀ r ∈ rows, r.length = sz) (hp : 0 < sz) (h0 : 0 < rows.length) : ∀ j u, rows.flatten[j]? = some u → w.cell? ((⟨b, off, none⟩ : Addr).add j) = some u := by
  intro j u hj
  obtain ⟨b', off', hA, _, hc⟩ := h h0
  cases hA
  have hlt := (List.getElem?_eq_some_iff.1 hj).1
  rw [flat_len rows hsz] at hlt
  have hi : j / sz < rows.length := Nat.div_lt_of_lt_mul (by rw [Nat.mul_comm]; exact hlt)
  have hr : rows[j / sz]? = some rows[j / sz] := List.getElem?_eq_getElem hi
  have hrl := hsz _ (List.getElem_mem hi)
  have hm := Nat.mod_lt j hp
  have hu : rows[j / sz][j % sz]? = some rows[j / sz][j % sz] := List.getElem?_eq_getElem (by omega)
  have hf := flat_at rows hsz _ _ hr _ _ hm hu
  rw [Nat.div_add_mod' j sz, hj] at hf
  have := hc _ _ hr _ _ hm hu
  have e : off + j / sz * sz + j % sz = off + j := by rw [Nat.add_assoc, Nat.div_add_mod']
  rw [e] at this
  cases hf
  have ea : (⟨b, off, none⟩ : Addr).add j = ⟨b, off + j, none⟩ := by unfold Addr.add; split <;> simp_all
  rw [ea]
  exact this
set_option maxRecDepth 100000 in
theorem clone_any (A : Option Addr) (cap : Nat) (l : List SSlip) (h1 : 1 ≤ l.length) (h9 : l.length ≤ 1000) (w : World) (h : RowsAt w w.heap.size 2 A cap (l.map SSlip.cells)) :
    Calls Tryd.prog 110 #[.slice A l.length cap] w fun e w' => ∃ g c rest, e = .returned (.slice (some ⟨g, 0, none⟩) l.length c) ∧ l.length ≤ c ∧ c ≤ maxLen ∧ w.heap.size ≤ g ∧ CellsBox w' g 52 (flatSl l ++ rest) ∧ Below w.heap.size w w' := by
  obtain ⟨i0, hi, hy0, hy1, hy2⟩ := info_parts info_slip
  obtain ⟨b, off, rfl, hb, -⟩ := h.row (by simp; omega)
  have hnews := row_cells h.row (slips_two l) (by omega) (by simp; omega)
  have HN := Lib.hid hnews
  have hfl : (l.map SSlip.cells).flatten.length = l.length * 2 := by rw [flat_len _ (slips_two l)]; simp
  have HFL := Lib.hid hfl
  clear hnews hfl
  go_enter Tryd.func110, Tryd.ntmps110
  have hl0 : (0 : Int) < l.length := by omega
  have hle := h.lens
  have heq : ∀ w : World, (binOp .eql 26 (.slice (some ⟨b, off, none⟩) l.length cap) (.slice none 0 0)).run Tryd.prog w = .ok (.bool false) w := fun w => by (show (_ : Result _) = _); kernel_rfl
  go_wp2_with (at_builtin; go_loud (refine wpList_append_own _ rfl _ _ 26 rfl w.heap.size 52 i0 (.agg #[.slice none 0 0, vi 0]) 2 32 Tryd.underlying26 hi hy0 hy1 hy2 rfl (by decide) _ _ _ rfl (own_empty w _ _) ⟨b, off, none⟩ l.length cap (l.map SSlip.cells).flatten rfl HFL.out (fun j u hj => cell_alloc (HN.out j u hj) _) (by intro u hu; simp only [List.mem_flatten, List.mem_map] at hu; obtain ⟨r, ⟨s, _, rfl⟩, hu⟩ := hu; simp only [SSlip.cells, List.mem_cons, List.mem_nil_iff, or_false] at hu; rcases hu with rfl | rfl <;> rfl) (by unfold maxLen; omega) (by omega) (by simp) ?_; intro v5 w5 hown5 hgrow5 _))
  have hB5 : Below w.heap.size w w5 := Below.grown ((Below.refl w.heap.size w).alloc (Nat.le_refl _) _) hgrow5 (by simp) (fun k e => by
    have e2 : some w.heap.size = some k := e
    cases e2; exact Nat.le_refl _)
  rw [Nat.zero_add, List.nil_append] at hown5
  rcases hown5.2 with ⟨_, e0⟩ | ⟨g, c, cur, rfl, g1, g2, g3, g4, g5, g6⟩
  · omega
  · go_ret
    refine ⟨g, c, (cur.toList.drop (l.length * 2)), rfl, g3, g4, g1, ?_, hB5⟩
    unfold CellsBox
    rw [g2]
    have e : flatSl l ++ cur.toList.drop (l.length * 2) = cur.toList := by
      have : flatSl l = cur.toList.take (l.length * 2) := by rw [g6, flatSl, List.flatMap_def]
      rw [this, List.take_append_drop]
    rw [e]
/-- the floor with another Until of a slip -/
def withF (f : Floor) (A : Option Addr) (C : Nat) (k : Nat) (u : Int) : Floor := { f with sA := A, sC := C, slips := f.slips.modify k fun s => { s with till := u } }
theorem flatSl_at : ∀ (l : List SSlip) (k : Nat) (s : SSlip), l[k]? = some s → (flatSl l)[k * 2]? = some s.slice ∧ (flatSl l)[k * 2 + 1]? = some (vi s.till)
  | [], _, _, h => by simp at h
  | a :: l, 0, s, h => by simp at h; subst h; simp [flatSl, SSlip.cells]
  | a :: l, k + 1, s, h => by
    have ih := flatSl_at l k s (by simpa using h)
    have e2 : flatSl (a :: l) = a.slice :: vi a.till :: flatSl l := rfl
    rw [e2, show (k + 1) * 2 = k * 2 + 1 + 1 by omega]
    simpa using ih
theorem flatSl_len (l : List SSlip) : (flatSl l).length = l.length * 2 := by
  have := flat_len _ (slips_two l)
  rw [List.length_map] at this
  rw [flatSl, List.flatMap_def, this]
theorem flatSl_set : ∀ (l : List SSlip) (k : Nat) (u : Int), k < l.length → flatSl (l.modify k fun s => { s with till := u }) = (flatSl l).set (k * 2 + 1) (vi u)
  | [], _, _, h => by simp at h
  | a :: l, 0, u, _ => by simp [flatSl, SSlip.cells, List.modify]
  | a :: l, k + 1, u, h => by
    have ih := flatSl_set l k u (by simpa using h)
    have e2 : flatSl (a :: l) = a.slice :: vi a.till :: flatSl l := rfl
    have e1 : flatSl ((a :: l).modify (k + 1) fun s => { s with till := u }) = a.slice :: vi a.till :: flatSl (l.modify k fun s => { s with till := u }) := rfl
    rw [e1, e2, ih, show (k + 1) * 2 + 1 = (k * 2 + 1) + 1 + 1 by omega]
    simp
theorem slips_of_box {w : World} {g c : Nat} {l : List SSlip} {rest : List Value} (h : CellsBox w g 52 (flatSl l ++ rest)) (hc : l.length ≤ c) (hm : c ≤ maxLen) (h9 : l.length ≤ 35184372088832) : RowsAt w w.heap.size 2 (some ⟨g, 0, none⟩) c (l.map SSlip.cells) := by
  refine ⟨by simpa using hc, by have := hm; unfold maxLen at this; omega, by simpa using h9, fun _ => ⟨g, 0, rfl, h.lt, fun i r hr j u hj hu => ?_⟩⟩
  have := flat_at (sz := 2) (l.map SSlip.cells) (slips_two l) i r hr j u hj hu
  rw [Nat.zero_add]
  refine h.cell ?_
  have hlt := (List.getElem?_eq_some_iff.1 this).1
  rw [List.getElem?_append_left (by rw [flatSl, List.flatMap_def]; exact hlt), flatSl, List.flatMap_def]
  exact this
theorem with_rows {w w' : World} {f : Floor} {g c k : Nat} {u : Int} {rest : List Value} (h : FloorAt w w.heap.size f) (hb : Below w.heap.size w w') (hx : CellsBox w' g 52 (flatSl (f.slips.modify k fun s => { s with till := u }) ++ rest)) (hc : f.slips.length ≤ c) (hm : c ≤ maxLen) (h9 : f.slips.length ≤ 9) : FloorAt w' w'.heap.size (withF f (some ⟨g, 0, none⟩) c k u) := by
  have h' := h.to hb
  refine ⟨h'.far, h'.picks, slips_of_box hx (by simp only [withF, List.length_modify]; exact hc) hm (by simp only [withF, List.length_modify]; omega), fun s hs => ?_⟩
  have : ∃ s0 ∈ f.slips, s.ad = s0.ad ∧ s.cap = s0.cap ∧ s.lines = s0.lines := by
    simp only [withF] at hs
    obtain ⟨i, hi, rfl⟩ := List.mem_iff_getElem.1 hs
    rw [List.getElem_modify]
    have hi2 : i < f.slips.length := by simpa using hi
    refine ⟨f.slips[i], List.getElem_mem hi2, ?_⟩
    split <;> exact ⟨rfl, rfl, rfl⟩
  obtain ⟨s0, h0, e1, e2, e3⟩ := this
  have := h'.each s0 h0
  rw [e1, e2, e3]
  exact this
set_option maxRecDepth 100000 in
theorem with_any (f : Floor) (k : Nat) (s : SSlip) (hs : f.slips[k]? = some s) (h9 : f.slips.length ≤ 9) (u : Int) (w : World) (h : FloorAt w w.heap.size f) :
    Calls Tryd.prog 80 #[f.val, vi k, vi u] w fun e w' => ∃ g c, e = .returned (withF f (some ⟨g, 0, none⟩) c k u).val ∧ FloorAt w' w'.heap.size (withF f (some ⟨g, 0, none⟩) c k u) ∧ Below w.heap.size w w' := by
  have hk := (List.getElem?_eq_some_iff.1 hs).1
  have HF := Lib.hid h
  have CL := Lib.hid (fun (W : World) hW => clone_any f.sA f.sC f.slips (by omega) (by omega) W hW)
  have HWR := Lib.hid (fun (w' : World) (g c : Nat) (rest : List Value) (hb : Below w.heap.size w w') hx hc hm => with_rows (k := k) (u := u) (rest := rest) (g := g) (c := c) h hb hx hc hm h9)
  have hat := flatSl_at f.slips k s hs
  have HAT := Lib.hid hat
  have HSET := Lib.hid (flatSl_set f.slips k u hk)
  have hfl := flatSl_len f.slips
  have HLEN := Lib.hid hfl
  have hkI : (k : Int) < f.slips.length := by omega
  have h0k : (0 : Int) ≤ k := by omega
  clear h hs hat hfl
  go_enter Tryd.func80, Tryd.ntmps80
  go_wp2_with fail
  refine (CL.out _ (HF.out.slips.to (by (repeat (first | exact Below.refl _ _ | refine Below.setCell ?_ (by first | omega | (simp; omega) | (simp; done)) _ | refine Below.alloc ?_ (by first | omega | (simp; omega) | (simp; done)) _ | refine Below.drew ?_ | refine below_drewN ?_ _ | refine Below.trans ?_ (Below.mono (by assumption) (by first | omega | (simp; omega) | (simp; done)))))))).mono ?_
  rintro e W ⟨g, c, rest, rfl, hc1, hc2, hg, hX, hb⟩
  have HB0 : Below w.heap.size w W := by (repeat (first | exact Below.refl _ _ | refine Below.setCell ?_ (by first | omega | (simp; omega) | (simp; done)) _ | refine Below.alloc ?_ (by first | omega | (simp; omega) | (simp; done)) _ | refine Below.drew ?_ | refine below_drewN ?_ _ | refine Below.trans ?_ (Below.mono (by assumption) (by first | omega | (simp; omega) | (simp; done)))))
  have XF : Hid (CellsBox W w.heap.size 89 f.cells) := ((CellsBox.new w 89 f.cells).alloc _).keep hb
  have XR0 := CellsBox.new (w.alloc (.cells f.cells.toArray 89)) 89 [.slice none 0 0, vi 0, vi 0, .slice none 0 0, vi 0, .slice none 0 0]
  rw [World.size_alloc] at XR0
  have XR : Hid (CellsBox W (w.heap.size + 1) 89 [.slice none 0 0, vi 0, vi 0, .slice none 0 0, vi 0, .slice none 0 0]) := XR0.keep hb
  have HX := Lib.hid hX
  simp only [World.size_alloc] at hg
  have hzW := hb.size
  simp only [World.size_alloc] at hzW
  clear hb hX XR0
  have a0 := XF.out.cell (j := 0) rfl
  have a1 := XF.out.cell (j := 1) rfl
  have a2 := XF.out.cell (j := 2) rfl
  have a3 := XF.out.cell (j := 3) rfl
  have a4 := XF.out.cell (j := 4) rfl
  have a5 := XF.out.cell (j := 5) rfl
  have f5 := XF.out.frozen 5
  have zF := XF.out.lt
  have zR := XR.out.lt
  have zX := HX.out.lt
  have x1 : W.cell? ⟨g, 0 + (k * 2 + 1), none⟩ = some (vi s.till) := by
    rw [Nat.zero_add]
    exact HX.out.cell (by rw [List.getElem?_append_left (by rw [HLEN.out]; omega)]; exact HAT.out.2)
  rw [Nat.zero_add] at x1
  have y1 := HX.out.frozen (k * 2 + 1)
  have r0 := XR.out.cell (j := 0) rfl
  have r1 := XR.out.cell (j := 1) rfl
  have r2 := XR.out.cell (j := 2) rfl
  have r3 := XR.out.cell (j := 3) rfl
  have r4 := XR.out.cell (j := 4) rfl
  have r5 := XR.out.cell (j := 5) rfl
  have q0 := XR.out.frozen 0
  have q1 := XR.out.frozen 1
  have q2 := XR.out.frozen 2
  have q3 := XR.out.frozen 3
  have q4 := XR.out.frozen 4
  have q5 := XR.out.frozen 5
  have ngF : g ≠ w.heap.size := by omega
  have ngR : g ≠ w.heap.size + 1 := by omega
  have NX := Lib.hid ((((((((HX.out.apart ⟨w.heap.size, 5, none⟩ (.slice (some ⟨g, 0, none⟩) f.slips.length c) (by simp only; omega)).store (k * 2 + 1) (vi u)).apart ⟨w.heap.size + 1, 0, none⟩ (.slice f.fA f.far.length f.fC) (by simp only; omega)).apart ⟨w.heap.size + 1, 1, none⟩ (vi f.slo) (by simp only; omega)).apart ⟨w.heap.size + 1, 2, none⟩ (vi f.shi) (by simp only; omega)).apart ⟨w.heap.size + 1, 3, none⟩ (.slice f.pA f.picks.length f.pC) (by simp only; omega)).apart ⟨w.heap.size + 1, 4, none⟩ (vi f.carry) (by simp only; omega)).apart ⟨w.heap.size + 1, 5, none⟩ (.slice (some ⟨g, 0, none⟩) f.slips.length c) (by simp only; omega))
  have NR := Lib.hid ((((((((XR.out.apart ⟨w.heap.size, 5, none⟩ (.slice (some ⟨g, 0, none⟩) f.slips.length c) (by simp only; omega)).apart ⟨g, k * 2 + 1, none⟩ (vi u) (by simp only; omega)).store 0 (.slice f.fA f.far.length f.fC)).store 1 (vi f.slo)).store 2 (vi f.shi)).store 3 (.slice f.pA f.picks.length f.pC)).store 4 (vi f.carry)).store 5 (.slice (some ⟨g, 0, none⟩) f.slips.length c))
  have NB := Lib.hid ((((((((HB0.setCell (p := ⟨w.heap.size, 5, none⟩) (by simp only; omega) (.slice (some ⟨g, 0, none⟩) f.slips.length c)).setCell (p := ⟨g, k * 2 + 1, none⟩) (by simp only; omega) (vi u)).setCell (p := ⟨w.heap.size + 1, 0, none⟩) (by simp only; omega) (.slice f.fA f.far.length f.fC)).setCell (p := ⟨w.heap.size + 1, 1, none⟩) (by simp only; omega) (vi f.slo)).setCell (p := ⟨w.heap.size + 1, 2, none⟩) (by simp only; omega) (vi f.shi)).setCell (p := ⟨w.heap.size + 1, 3, none⟩) (by simp only; omega) (.slice f.pA f.picks.length f.pC)).setCell (p := ⟨w.heap.size + 1, 4, none⟩) (by simp only; omega) (vi f.carry)).setCell (p := ⟨w.heap.size + 1, 5, none⟩) (by simp only; omega) (.slice (some ⟨g, 0, none⟩) f.slips.length c))
  go_wp2_with fail
  refine (?_ : ∀ Z : World, CellsBox Z g 52 ((flatSl f.slips ++ rest).set (k * 2 + 1) (vi u)) → CellsBox Z (w.heap.size + 1) 89 [.slice f.fA f.far.length f.fC, vi f.slo, vi f.shi, .slice f.pA f.picks.length f.pC, vi f.carry, .slice (some ⟨g, 0, none⟩) f.slips.length c] → Below w.heap.size w Z → bodyPost _ _ _ _ _ Z) _ NX.out NR.out NB.out
  clear a0 a1 a2 a3 a4 a5 r0 r1 r2 r3 r4 r5 q0 q1 q2 q3 q4 q5 x1 y1 f5 NX NR NB
  intro Z ZX ZR ZB
  have r0 := ZR.cell (j := 0) rfl
  have r1 := ZR.cell (j := 1) rfl
  have r2 := ZR.cell (j := 2) rfl
  have r3 := ZR.cell (j := 3) rfl
  have r4 := ZR.cell (j := 4) rfl
  have r5 := ZR.cell (j := 5) rfl
  refine bodyPost_ret (v := .agg #[.slice f.fA f.far.length f.fC, vi f.slo, vi f.shi, .slice f.pA f.picks.length f.pC, vi f.carry, .slice (some ⟨g, 0, none⟩) f.slips.length c]) (by simp [results, Tryd.results80, go_sem, r0, r1, r2, r3, r4, r5]) rfl ⟨g, c, ?_, HWR.out Z g c rest ZB ?_ hc1 hc2, ZB⟩
  · simp [withF]
  · rw [List.set_append_left _ _ (by rw [HLEN.out]; omega)] at ZX
    rw [HSET.out]
    exact ZX
end Go.Proofs.YtomgnpfpaodpiaaDoor
/- Sorting by insertion: plain forms; contracts of Compare and of the desk's comparison. -/
namespace Go.Proofs.YtomgnpfpaodpiaaDoor
open Go Go.RowKit
set_option maxHeartbeats 2000000
def insR (key : Int → Int) (x : Int) : List Int → List Int
  | [] => [x]
  | y :: ys => if key x < key y then y :: insR key x ys else x :: y :: ys
def insF (key : Int → Int) (x : Int) (l : List Int) : List Int := (insR key x l.reverse).reverse
def isortF (key : Int → Int) (l : List Int) : List Int := l.foldl (fun acc x => insF key x acc) []
theorem insR_len (key : Int → Int) (x : Int) : ∀ l, (insR key x l).length = l.length + 1
  | [] => rfl
  | y :: ys => by
    rw [insR]
    split
    · simp [insR_len key x ys]
    · simp
theorem insF_len (key : Int → Int) (x : Int) (l : List Int) : (insF key x l).length = l.length + 1 := by simp [insF, insR_len]
theorem insR_past {key : Int → Int} {x : Int} : ∀ (c b : List Int), (∀ y ∈ c, key x < key y) → insR key x (c ++ b) = c ++ insR key x b
  | [], _, _ => rfl
  | y :: c, b, h => by
    rw [List.cons_append, insR, if_pos (h y (by simp)), insR_past c b (fun z hz => h z (by simp [hz]))]
    rfl
/-- where the one that is put in comes to lie -/
theorem insF_at {key : Int → Int} {x : Int} {l : List Int} {j : Nat} (hj : j ≤ l.length) (h1 : ∀ y ∈ l.drop j, key x < key y) (h2 : ∀ (i : Nat) (y : Int), j = i + 1 → l[i]? = some y → ¬ key x < key y) : insF key x l = l.take j ++ x :: l.drop j := by
  have e : l.reverse = (l.drop j).reverse ++ (l.take j).reverse := by rw [← List.reverse_append, List.take_append_drop]
  have hstop : insR key x (l.take j).reverse = x :: (l.take j).reverse := by
    cases j with
    | zero => simp [insR]
    | succ i =>
      have hi : l[i]? = some l[i] := List.getElem?_eq_getElem (by omega)
      rw [List.take_succ_eq_append_getElem (by omega), List.reverse_append, List.reverse_singleton, List.singleton_append, insR, if_neg (h2 i _ rfl hi)]
  unfold insF
  rw [e, insR_past _ _ (fun y hy => h1 y (List.mem_reverse.1 hy)), hstop, List.reverse_append, List.reverse_cons, List.reverse_reverse, List.reverse_reverse]
  simp
theorem isort_succ {key : Int → Int} {l : List Int} {i : Nat} {x : Int} (h : l[i]? = some x) : isortF key (l.take (i + 1)) = insF key x (isortF key (l.take i)) := by
  obtain ⟨hi, rfl⟩ := List.getElem?_eq_some_iff.1 h
  unfold isortF
  rw [List.take_succ_eq_append_getElem hi, List.foldl_append]
  rfl
theorem isort_len (key : Int → Int) (l : List Int) : (isortF key l).length = l.length := by
  have : ∀ (l acc : List Int), (l.foldl (fun acc x => insF key x acc) acc).length = acc.length + l.length := by
    intro l
    induction l with
    | nil => intro acc; simp
    | cons x l ih => intro acc; rw [List.foldl_cons, ih, insF_len, List.length_cons]; omega
  have h := this l []
  simp only [List.length_nil, Nat.zero_add] at h
  exact h
theorem insR_mem {key : Int → Int} {x y : Int} : ∀ {l : List Int}, y ∈ insR key x l ↔ y = x ∨ y ∈ l
  | [] => by simp [insR]
  | z :: l => by
    rw [insR]
    split
    · rw [List.mem_cons, insR_mem, List.mem_cons]; exact ⟨fun h => by rcases h with h | h | h <;> simp [h], fun h => by rcases h with h | h | h <;> simp [h]⟩
    · rw [List.mem_cons]
theorem isort_mem {key : Int → Int} {y : Int} {l : List Int} : y ∈ isortF key l ↔ y ∈ l := by
  have : ∀ (l acc : List Int), y ∈ l.foldl (fun acc x => insF key x acc) acc ↔ y ∈ acc ∨ y ∈ l := by
    intro l
    induction l with
    | nil => intro acc; simp
    | cons x l ih =>
      intro acc
      rw [List.foldl_cons, ih, insF, List.mem_reverse, insR_mem, List.mem_reverse, List.mem_cons]
      exact ⟨fun h => by rcases h with (h | h) | h <;> simp [h], fun h => by rcases h with h | h | h <;> simp [h]⟩
  simpa [isortF] using this l []
/-- the list at a point of the sorting -/
def midL (A : List Int) (x : Int) (j : Nat) (rest : List Int) : List Int := A.take j ++ x :: (A.drop j ++ rest)
theorem mid_len (A : List Int) (x : Int) (j : Nat) (rest : List Int) : (midL A x j rest).length = A.length + 1 + rest.length := by
  simp [midL]; omega
theorem mid_at {A : List Int} {x : Int} {j : Nat} {rest : List Int} (hj : j ≤ A.length) : (midL A x j rest)[j]? = some x := by
  unfold midL
  rw [List.getElem?_append_right (by simp; omega)]
  simp [Nat.min_eq_left hj]
theorem mid_before {A : List Int} {x : Int} {i : Nat} {rest : List Int} (hj : i + 1 ≤ A.length) : (midL A x (i + 1) rest)[i]? = A[i]? := by
  unfold midL
  rw [List.getElem?_append_left (by simp; omega), List.getElem?_take, if_pos (by omega)]
theorem mid_swap {A : List Int} {x y : Int} {i : Nat} {rest : List Int} (hj : i + 1 ≤ A.length) (hy : A[i]? = some y) : ((midL A x (i + 1) rest).set (i + 1) y).set i x = midL A x i rest := by
  obtain ⟨h, rfl⟩ := List.getElem?_eq_some_iff.1 hy
  unfold midL
  have e1 : A.take (i + 1) = A.take i ++ [A[i]] := List.take_succ_eq_append_getElem h
  have e2 : A.drop i = A[i] :: A.drop (i + 1) := List.drop_eq_getElem_cons h
  have l1 : (A.take i).length = i := by simp; omega
  rw [e1, e2, List.append_assoc, List.set_append_right _ _ (by omega), l1, show i + 1 - i = 1 by omega]
  simp only [List.singleton_append, List.set_cons_succ, List.set_cons_zero]
  rw [List.set_append_right _ _ (by omega), l1, Nat.sub_self]
  simp only [List.set_cons_zero, List.cons_append]
theorem mid_start {A : List Int} {x : Int} {rest : List Int} : midL A x A.length rest = A ++ x :: rest := by simp [midL]
def cmpF (a b : Int) : Int := if a < b then -1 else if a > b then 1 else 0
theorem isNaN_any (a : Int) (w : World) : Calls Tryd.prog 115 #[vi a] w fun e w' => e = .returned (.bool false) ∧ Below w.heap.size w w' := by
  go_enter Tryd.func115, Tryd.ntmps115
  go_wp2
  go_ret
  exact ⟨rfl, Below.refl _ _⟩
theorem compare_is {a b n : Int} (hn : cmpF a b = n) (w : World) : Calls Tryd.prog 103 #[vi a, vi b] w fun e w' => e = .returned (vi n) ∧ Below w.heap.size w w' := by
  by_cases h1 : a < b
  · have e : n = -1 := by rw [← hn, cmpF, if_pos h1]
    clear hn
    subst e
    go_enter Tryd.func103, Tryd.ntmps103
    go_wp2_with fail
    refine (isNaN_any a _).mono ?_
    rintro e W ⟨rfl, hb⟩
    go_wp2_with fail
    refine (isNaN_any b _).mono ?_
    rintro e W2 ⟨rfl, hb2⟩
    go_wp2_with fail
    go_ret
    exact ⟨rfl, gr_trans hb hb2⟩
  · by_cases h2 : b < a
    · have e : n = 1 := by rw [← hn, cmpF, if_neg h1, if_pos h2]
      clear hn
      subst e
      go_enter Tryd.func103, Tryd.ntmps103
      go_wp2_with fail
      refine (isNaN_any a _).mono ?_
      rintro e W ⟨rfl, hb⟩
      go_wp2_with fail
      refine (isNaN_any b _).mono ?_
      rintro e W2 ⟨rfl, hb2⟩
      go_wp2_with fail
      go_ret
      exact ⟨rfl, gr_trans hb hb2⟩
    · have e : n = 0 := by rw [← hn, cmpF, if_neg h1, if_neg h2]
      clear hn
      subst e
      go_enter Tryd.func103, Tryd.ntmps103
      go_wp2_with fail
      refine (isNaN_any a _).mono ?_
      rintro e W ⟨rfl, hb⟩
      go_wp2_with fail
      refine (isNaN_any b _).mono ?_
      rintro e W2 ⟨rfl, hb2⟩
      go_wp2_with fail
      go_ret
      exact ⟨rfl, gr_trans hb hb2⟩
/-- the desk's comparison -/
theorem before_any (f : Floor) (bF B : Nat) (x y : Nat) (s t : SSlip) (hs : f.slips[x]? = some s) (ht : f.slips[y]? = some t) (w : World) (hX : CellsBox w bF 89 f.cells) (h : FloorAt w B f) :
    Calls Tryd.prog 102 #[vi x, vi y, .pointer (some ⟨bF, 0, none⟩)] w fun e w' => e = .returned (vi (cmpF s.till t.till)) ∧ Below w.heap.size w w' := by
  have hsl := h.slips.lens
  obtain ⟨b, off, hA, hb, x0, x1⟩ := row2 h.slips.row hs rfl
  obtain ⟨b', off', hA', _, y0, y1⟩ := row2 h.slips.row ht rfl
  rw [hA] at hA'
  cases hA'
  have hx := (List.getElem?_eq_some_iff.1 hs).1
  have hy := (List.getElem?_eq_some_iff.1 ht).1
  have f5 := hX.cell (j := 5) rfl
  have zF := hX.lt
  have zb := cell_lt x0
  simp only at zb
  have h0x : (0 : Int) ≤ x := by omega
  have h0y : (0 : Int) ≤ y := by omega
  have hxI : (x : Int) < f.slips.length := by omega
  have hyI : (y : Int) < f.slips.length := by omega
  rw [hA] at f5
  obtain ⟨n, hn⟩ : ∃ n, cmpF s.till t.till = n := ⟨_, rfl⟩
  have CO := Lib.hid (fun W => compare_is hn W)
  rw [hn]
  clear hs ht hX h hn hA
  go_enter Tryd.func102, Tryd.ntmps102
  go_wp2_with fail
  (refine wp_region_grow_lit (by kernel_rfl) (by kernel_rfl) ?_; (repeat (go_big_quiet_step ((go_at_call 103; refine Calls.grow_of (CO.out _))))); refine wpQuiet_nil ?_; intro w1 hw1; have hb1 := below_of_plus hw1; clear hw1; obtain ⟨⟨hc1, hf1, hs1⟩, hz1⟩ := after hb1; (try simp only [World.size_alloc, World.size_setCell, World.size_drew] at hz1))
  have HB1 : Below w.heap.size w w1 := by (repeat (first | exact Below.refl _ _ | refine Below.setCell ?_ (by first | omega | (simp; omega) | (simp; done)) _ | refine Below.alloc ?_ (by first | omega | (simp; omega) | (simp; done)) _ | refine Below.drew ?_ | refine below_drewN ?_ _ | refine Below.trans ?_ (Below.mono (by assumption) (by first | omega | (simp; omega) | (simp; done)))))
  clear hb1 hc1 hf1 hs1 hz1
  go_wp2_with fail
  go_ret
  exact ⟨rfl, HB1⟩
end Go.Proofs.YtomgnpfpaodpiaaDoor
/- Contract of the insertion sort, over the desk's comparison. -/
namespace Go.Proofs.YtomgnpfpaodpiaaDoor
open Go Go.RowKit
set_option maxHeartbeats 2000000
def keyF (f : Floor) (x : Int) : Int := match f.slips[x.toNat]? with | some s => s.till | none => 0
abbrev cmpV (bF : Nat) : Value := .func (.func 102) #[] #[.pointer (some ⟨bF, 0, none⟩)]
theorem before_is {f : Floor} {bF B x y : Nat} (hx : x < f.slips.length) (hy : y < f.slips.length) {n : Int} (hn : cmpF (keyF f x) (keyF f y) = n) (w : World) (hX : CellsBox w bF 89 f.cells) (h : FloorAt w B f) :
    Calls Tryd.prog 102 #[vi x, vi y, .pointer (some ⟨bF, 0, none⟩)] w fun e w' => e = .returned (vi n) ∧ Below w.heap.size w w' := by
  have e1 : f.slips[x]? = some f.slips[x] := List.getElem?_eq_getElem hx
  have e2 : f.slips[y]? = some f.slips[y] := List.getElem?_eq_getElem hy
  have := before_any f bF B x y _ _ e1 e2 w hX h
  rw [show cmpF f.slips[x].till f.slips[y].till = n from by rw [← hn]; simp [keyF, e1, e2]] at this
  exact this
theorem cmp_neg (a b : Int) : cmpF a b < 0 ↔ a < b := by
  unfold cmpF
  by_cases h1 : a < b
  · simp [h1]
  · by_cases h2 : b < a <;> simp [h1, h2]
theorem box_spare {n₀ L k : Nat} {a b : World} {t : TypeId} {cs : List Value} (h : Spare n₀ L a b) (hk : CellsBox a k t cs) (h1 : k < n₀) (h2 : k ≠ L) : CellsBox b k t cs := (h.block k h1 h2).trans hk
theorem cells_map (l : List Int) (rest : List Value) (k : Nat) (x : Int) (h : l[k]? = some x) : (l.map vi ++ rest)[k]? = some (vi x) := by
  have hk := (List.getElem?_eq_some_iff.1 h).1
  rw [List.getElem?_append_left (by simpa using hk), List.getElem?_map, h]
  rfl
set_option maxRecDepth 100000 in
theorem insertion_any (f : Floor) (bF B : Nat) (l : List Int) (hl : ∀ x ∈ l, 0 ≤ x ∧ x < f.slips.length) (h2 : 1 ≤ l.length) (h9 : l.length ≤ 9) (g c : Nat) (rest : List Value) (w : World) (hX : CellsBox w bF 89 f.cells) (h : FloorAt w B f) (hB : B ≤ g) (hgF : bF ≠ g) (hG : CellsBox w g 3 (l.map vi ++ rest)) :
    Calls Tryd.prog 122 #[.slice (some ⟨g, 0, none⟩) l.length c, vi 0, vi l.length, cmpV bF] w fun e w' => (∃ v, e = .returned v) ∧ CellsBox w' g 3 ((isortF (keyF f) l).map vi ++ rest) ∧ Spare w.heap.size g w w' := by
  have HX := Lib.hid hX
  have HF := Lib.hid h
  have HL := Lib.hid hl
  have zg := hG.lt
  have zF := hX.lt
  obtain ⟨key, hkey⟩ : ∃ key, key = keyF f := ⟨_, rfl⟩
  have BE : Hid (∀ (x y : Int) (n : Int), (0 ≤ x ∧ x < f.slips.length) → (0 ≤ y ∧ y < f.slips.length) → cmpF (key x) (key y) = n → ∀ W : World, CellsBox W bF 89 f.cells → FloorAt W B f → Calls Tryd.prog 102 #[vi x, vi y, .pointer (some ⟨bF, 0, none⟩)] W fun e w' => e = .returned (vi n) ∧ Below W.heap.size W w') := fun x y n hx hy hn W hW hWF => by
    obtain ⟨x', rfl⟩ : ∃ x' : Nat, x = x' := ⟨x.toNat, by omega⟩
    obtain ⟨y', rfl⟩ : ∃ y' : Nat, y = y' := ⟨y.toNat, by omega⟩
    rw [hkey] at hn
    exact before_is (by omega) (by omega) hn W hW hWF
  rw [← hkey]
  obtain ⟨P, hP⟩ : ∃ P : Nat → List Int, P = fun i => isortF key (l.take i) := ⟨_, rfl⟩
  have PL : Hid (∀ i, i ≤ l.length → (P i).length = i) := fun i hi => by rw [hP]; simp only; rw [isort_len, List.length_take]; omega
  have PM : Hid (∀ i y, y ∈ P i → 0 ≤ y ∧ y < f.slips.length) := fun i y hy => by
    rw [hP] at hy; simp only at hy
    exact hl y (List.mem_of_mem_take (isort_mem.1 hy))
  have PS : Hid (∀ (i : Nat) (x : Int), l[i]? = some x → P (i + 1) = insF key x (P i)) := fun i x hx => by rw [hP]; exact isort_succ hx
  have PA : Hid (P l.length = isortF key l) := by unfold Hid; rw [hP]; simp only; rw [List.take_length]
  have P1 : Hid (P 1 ++ l.drop 1 = l) := by
    unfold Hid
    have : l[0]? = some l[0] := List.getElem?_eq_getElem (by omega)
    have e := PS.out 0 _ this
    have e0 : P 0 = [] := by rw [hP]; simp [isortF]
    rw [e, e0, show insF key l[0] [] = [l[0]] from rfl]
    have : l = l[0] :: l.drop 1 := by
      have := List.drop_eq_getElem_cons (show 0 < l.length by omega)
      simpa using this
    conv => rhs; rw [this]
    rfl
  obtain ⟨R, hR⟩ : ∃ R, R = isortF key l := ⟨_, rfl⟩
  rw [← hR] at PA ⊢
  have HG : Hid (CellsBox w g 3 ((P 1 ++ l.drop 1).map vi ++ rest)) := by rw [P1.out]; exact hG
  clear hkey hP hR hX h hl hG P1
  go_enter Tryd.func122, Tryd.ntmps122
  go_wp2_with fail
  go_loopw [8, 9] (fun i j wr => ∃ k : Nat, 1 ≤ k ∧ k ≤ l.length ∧ i = .int .i64 k ∧ Hid (CellsBox wr g 3 ((P k ++ l.drop k).map vi ++ rest)) ∧ Hid (Spare w.heap.size g w wr)) (fun i _ _ => l.length - (intOf i).toNat)
  case atStart => exact ⟨1, Nat.le_refl _, h2, by go_num, HG, Spare.refl _ _ _⟩
  clear HG
  obtain ⟨k, hk1, hk, rfl, HC, HS⟩ := hrel
  obtain ⟨wo, hwo⟩ : ∃ wo, wo = wr := ⟨_, rfl⟩
  subst hwo
  by_cases hlt : k < l.length
  · obtain ⟨x, hx⟩ : ∃ x, l[k]? = some x := ⟨_, List.getElem?_eq_getElem hlt⟩
    have hkI : (k : Int) < l.length := by omega
    have HPk := Lib.hid (PS.out k x hx)
    have HXX := Lib.hid (HL.out x (List.mem_of_getElem? hx))
    have hPl := PL.out k hk
    obtain ⟨A, hA⟩ : ∃ A, A = P k := ⟨_, rfl⟩
    have HAM : Hid (∀ y ∈ A, 0 ≤ y ∧ y < f.slips.length) := fun y hy => PM.out k y (by rw [← hA]; exact hy)
    have hdr : l.drop k = x :: l.drop (k + 1) := by
      obtain ⟨h1, rfl⟩ := List.getElem?_eq_some_iff.1 hx
      exact List.drop_eq_getElem_cons h1
    obtain ⟨D, hD⟩ : ∃ D, D = l.drop (k + 1) := ⟨_, rfl⟩
    have HD := Lib.hid hD
    rw [hdr, ← hD, ← hA] at HC
    rw [← hA] at HPk hPl
    have HC2 : Hid (CellsBox wo g 3 ((midL A x k D).map vi ++ rest)) := by rw [← hPl, mid_start]; exact HC
    clear hx hdr hD hA HC
    go_wp2_with fail
    go_loopw [9] (fun j w2 => ∃ m : Nat, m ≤ k ∧ j = .int .i64 m ∧ Hid (CellsBox w2 g 3 ((midL A x m D).map vi ++ rest)) ∧ Hid (Spare w.heap.size g w w2) ∧ Hid (∀ y ∈ A.drop m, key x < key y)) (fun j _ => (intOf j).toNat)
    case atStart => exact ⟨k, Nat.le_refl _, rfl, HC2, HS, fun y hy => by rw [List.drop_of_length_le (by omega)] at hy; simp at hy⟩
    clear HC2 HS
    obtain ⟨m, hm, rfl, HC, HS, HGT⟩ := hrel
    rcases Nat.eq_zero_or_pos m with rfl | hm0
    · have DONE : Hid (P (k + 1) ++ l.drop (k + 1) = midL A x 0 D) := by
        unfold Hid
        rw [HPk.out, insF_at (j := 0) (by omega) HGT.out (fun i y hi => by omega), ← HD.out]
        simp [midL]
      have HC3 : Hid (CellsBox wr g 3 ((P (k + 1) ++ l.drop (k + 1)).map vi ++ rest)) := by unfold Hid; rw [DONE.out]; exact HC.out
      clear HC DONE HGT
      go_wp2_with fail
      go_quiet (fail)
      go_wp2_with fail
      go_roundw
      case rel => exact ⟨k + 1, by omega, by omega, by go_num, HC3, HS.out.trans (spare_of_below g (below_drewN (Below.refl _ _) _) (by have := HS.out.size; omega))⟩
      case measure => simp [intOf]; omega
    · obtain ⟨i, hmi⟩ : ∃ i, m = i + 1 := ⟨m - 1, by omega⟩
      obtain ⟨y, hy⟩ : ∃ y, A[i]? = some y := ⟨_, List.getElem?_eq_getElem (by omega)⟩
      have HYY := Lib.hid (HAM.out y (List.mem_of_getElem? hy))
      have HMI := Lib.hid hmi
      have hmI : (m : Int) - 1 = i := by omega
      have hmJ : (0 : Int) < m := by omega
      have hgd : decide (0 < m) = true := by simp; omega
      have hmK : (m : Int) < l.length := by omega
      have hiK : (i : Int) < l.length := by omega
      have h0i : (0 : Int) ≤ i := by omega
      have h0m : (0 : Int) ≤ m := by omega
      have c1 : wr.cell? ⟨g, m, none⟩ = some (vi x) := HC.out.cell (cells_map _ _ _ _ (mid_at (by omega)))
      have c0 : wr.cell? ⟨g, i, none⟩ = some (vi y) := HC.out.cell (cells_map _ _ _ _ (by rw [HMI.out, mid_before (by omega), hy]))
      have zg2 := HC.out.lt
      have HY := Lib.hid hy
      have HSP := HS
      have HXw : Hid (CellsBox wr bF 89 f.cells) := box_spare HS.out HX.out zF hgF
      have HFw : Hid (FloorAt wr B f) := HF.out.below (HS.out.below (by omega) hB)
      obtain ⟨n, hn⟩ : ∃ n, cmpF (key x) (key y) = n := ⟨_, rfl⟩
      have BE1 := Lib.hid (fun (W : World) hW hWF => BE.out x y n HXX.out HYY.out hn W hW hWF)
      have HN := Lib.hid hn
      clear hy hmi hm0 hn
      by_cases hneg : n < 0
      · have HLT : Hid (key x < key y) := (cmp_neg _ _).1 (by rw [HN.out]; exact hneg)
        go_wp2_with fail
        (refine wp_region_grow_lit (by kernel_rfl) (by kernel_rfl) ?_; (repeat (go_big_quiet_step ((go_at_call 102; refine Calls.grow_of (BE1.out _ (HXw.out.keep (plus_below _ _)) (HFw.out.below ((plus_below _ _).mono (by omega)))))))); refine wpQuiet_nil ?_; intro w1 hw1; have hb1 := below_of_plus hw1; clear hw1; obtain ⟨⟨hc1, hf1, hs1⟩, hz1⟩ := after hb1; (try simp only [World.size_alloc, World.size_setCell, World.size_drew] at hz1))
        have HB1 : Below wr.heap.size wr w1 := by (repeat (first | exact Below.refl _ _ | refine Below.setCell ?_ (by first | omega | (simp; omega) | (simp; done)) _ | refine Below.alloc ?_ (by first | omega | (simp; omega) | (simp; done)) _ | refine Below.drew ?_ | refine below_drewN ?_ _ | refine Below.trans ?_ (Below.mono (by assumption) (by first | omega | (simp; omega) | (simp; done)))))
        have HC1 := Lib.hid (HC.out.keep HB1)
        have HS1 : Hid (Spare w.heap.size g w w1) := HS.out.trans (spare_of_below g HB1 (by have := HS.out.size; omega))
        clear hb1 hc1 hf1 hs1 hz1 c0 c1
        have c1 : w1.cell? ⟨g, m, none⟩ = some (vi x) := HC1.out.cell (cells_map _ _ _ _ (mid_at (by omega)))
        have c0 : w1.cell? ⟨g, i, none⟩ = some (vi y) := HC1.out.cell (cells_map _ _ _ _ (by rw [HMI.out, mid_before (by have := HMI.out; omega), HY.out]))
        have z1 := HC1.out.frozen m
        have z0 := HC1.out.frozen i
        have zg1 := HC1.out.lt
        have hne : i ≠ m := by omega
        have NC := ((HC1.out.store m (vi y)).store i (vi x))
        have NS : Spare w.heap.size g w ((w1.setCell ⟨g, m, none⟩ (vi y)).setCell ⟨g, i, none⟩ (vi x)) := HS1.out.trans ⟨rfl, rfl, rfl, by simp, fun k hk hl => (heap_setCell_other _ _ k _ hl).trans (heap_setCell_other _ _ k _ hl)⟩
        have NC2 : CellsBox ((w1.setCell ⟨g, m, none⟩ (vi y)).setCell ⟨g, i, none⟩ (vi x)) g 3 ((midL A x i D).map vi ++ rest) := by
          have e := mid_swap (x := x) (rest := D) (by have := HMI.out; omega) HY.out
          have hl2 := mid_len A x m D
          rw [← e]
          rw [HMI.out] at NC hl2 ⊢
          rw [List.map_set, List.map_set, List.set_append_left _ _ (by simp; omega), List.set_append_left _ _ (by simp; omega)] at *
          exact NC
        have HNC := Lib.hid NC2
        have HNS := Lib.hid NS
        clear NC NC2 NS
        go_wp2_with fail
        go_region
        have HGT2 : Hid (∀ z ∈ A.drop i, key x < key z) := fun z hz => by
          obtain ⟨h1, e1⟩ := List.getElem?_eq_some_iff.1 HY.out
          rw [List.drop_eq_getElem_cons h1, e1, ← HMI.out] at hz
          rcases List.mem_cons.1 hz with rfl | hz
          · exact HLT.out
          · exact HGT.out z hz
        refine (?_ : ∀ Z : World, CellsBox Z g 3 ((midL A x i D).map vi ++ rest) → Spare w.heap.size g w Z → Exit.inBlock _ _ _ _ Z) _ HNC.out (HNS.out.trans (spare_of_below g (Below.drew (Below.refl _ _)) (by have := HNS.out.size; omega)))
        clear HNC HNS c0 c1 z0 z1 zg1 HC1 HS1
        intro Z ZC ZS
        have HZC := Lib.hid ZC
        have HZS := Lib.hid ZS
        clear ZC ZS
        go_wp2_with fail
        go_roundw
        case rel => exact ⟨i, by omega, by go_num, HZC, HZS, HGT2⟩
        case measure => simp [intOf]; omega
      · have HLE : Hid (¬ key x < key y) := fun h => hneg (by rw [← HN.out]; exact (cmp_neg _ _).2 h)
        have DONE : Hid (P (k + 1) ++ l.drop (k + 1) = midL A x m D) := by
          unfold Hid
          rw [HPk.out, insF_at (j := m) (by omega) HGT.out (fun i' y' hi' hy' => by
            have e : i' = i := by have := HMI.out; omega
            subst e
            rw [HY.out] at hy'
            cases hy'
            exact HLE.out), ← HD.out]
          simp [midL]
        have HC3 : Hid (CellsBox wr g 3 ((P (k + 1) ++ l.drop (k + 1)).map vi ++ rest)) := by unfold Hid; rw [DONE.out]; exact HC.out
        clear DONE HLE HC
        go_wp2_with fail
        (refine wp_region_grow_lit (by kernel_rfl) (by kernel_rfl) ?_; (repeat (go_big_quiet_step ((go_at_call 102; refine Calls.grow_of (BE1.out _ (HXw.out.keep (plus_below _ _)) (HFw.out.below ((plus_below _ _).mono (by omega)))))))); refine wpQuiet_nil ?_; intro w1 hw1; have hb1 := below_of_plus hw1; clear hw1; obtain ⟨⟨hc1, hf1, hs1⟩, hz1⟩ := after hb1; (try simp only [World.size_alloc, World.size_setCell, World.size_drew] at hz1))
        have HB1 : Below wr.heap.size wr w1 := by (repeat (first | exact Below.refl _ _ | refine Below.setCell ?_ (by first | omega | (simp; omega) | (simp; done)) _ | refine Below.alloc ?_ (by first | omega | (simp; omega) | (simp; done)) _ | refine Below.drew ?_ | refine below_drewN ?_ _ | refine Below.trans ?_ (Below.mono (by assumption) (by first | omega | (simp; omega) | (simp; done)))))
        have HC4 := Lib.hid (HC3.out.keep HB1)
        have HS1 : Hid (Spare w.heap.size g w w1) := HS.out.trans (spare_of_below g HB1 (by have := HS.out.size; omega))
        clear hb1 hc1 hf1 hs1 hz1 c0 c1
        go_wp2_with fail
        go_roundw
        case rel => exact ⟨k + 1, by omega, by omega, by go_num, HC4, HS1⟩
        case measure => simp [intOf]; omega
  · obtain rfl : k = l.length := by omega
    rw [PA.out] at HC
    have HC3 : Hid (CellsBox wo g 3 (R.map vi ++ rest)) := by
      have := HC.out
      rwa [List.drop_length, List.append_nil] at this
    go_wp2_with fail
    go_end0
    exact ⟨⟨_, rfl⟩, HC3.out, HS.out⟩
end Go.Proofs.YtomgnpfpaodpiaaDoor
/- Contract of SortStableFunc for a desk. -/
namespace Go.Proofs.YtomgnpfpaodpiaaDoor
open Go Go.RowKit
set_option maxHeartbeats 2000000
theorem insertion_none (A : Option Addr) (c bF : Nat) (w : World) :
    Calls Tryd.prog 122 #[.slice A 0 c, vi 0, vi 0, cmpV bF] w fun e w' => (∃ v, e = .returned v) ∧ w' = w := by
  go_enter Tryd.func122, Tryd.ntmps122
  go_wp2_with fail
  go_loopw [8, 9] (fun i j wr => i = .int .i64 1 ∧ wr = w) (fun _ _ _ => 0)
  case atStart => exact ⟨by go_num, rfl⟩
  obtain ⟨rfl, rfl⟩ := hrel
  go_wp2_with fail
  go_end0
  exact ⟨⟨_, rfl⟩, rfl⟩
set_option maxRecDepth 100000 in
theorem stable_any (A : Option Addr) (n c bF : Nat) (hn : n ≤ 9) (w : World) (R : World → Prop)
    (h : Calls Tryd.prog 122 #[.slice A n c, vi 0, vi n, cmpV bF] w fun e w' => (∃ v, e = .returned v) ∧ R w') :
    Calls Tryd.prog 114 #[.slice A n c, vi n, cmpV bF] w fun e w' => (∃ v, e = .returned v) ∧ R w' := by
  have H := Lib.hid h
  have hI : (n : Int) ≤ 9 := by omega
  have h0 : (0 : Int) ≤ n := by omega
  clear h
  go_enter Tryd.func114, Tryd.ntmps114
  go_wp2_with fail
  go_loopw [7, 8] (fun a b wr => a = .int .i64 0 ∧ b = .int .i64 20 ∧ wr = w) (fun _ _ _ => 0)
  case atStart => exact ⟨rfl, rfl, rfl⟩
  obtain ⟨rfl, rfl, rfl⟩ := hrel
  go_wp2_with fail
  refine H.out.mono ?_
  rintro e W ⟨⟨v, rfl⟩, hR⟩
  have HR := Lib.hid hR
  clear hR
  go_wp2_with fail
  go_loopw [6, 7, 8, 9] (fun s a b m wr => s = .int .i64 20 ∧ wr = W) (fun _ _ _ _ _ => 0)
  case atStart => exact ⟨rfl, rfl⟩
  obtain ⟨rfl, rfl⟩ := hrel
  go_wp2_with fail
  go_end0
  exact ⟨⟨_, rfl⟩, HR.out⟩
theorem sortStable_any (A : Option Addr) (n c bF : Nat) (hn : n ≤ 9) (w : World) (R : World → Prop)
    (h : Calls Tryd.prog 122 #[.slice A n c, vi 0, vi n, cmpV bF] w fun e w' => (∃ v, e = .returned v) ∧ R w') :
    Calls Tryd.prog 101 #[.slice A n c, cmpV bF] w fun e w' => (∃ v, e = .returned v) ∧ R w' := by
  have H := Lib.hid (stable_any A n c bF hn w R h)
  clear h
  go_enter Tryd.func101, Tryd.ntmps101
  go_wp2_with fail
  refine H.out.mono ?_
  rintro e W ⟨⟨v, rfl⟩, hR⟩
  have HR := Lib.hid hR
  clear hR
  go_wp2_with fail
  go_end0
  exact ⟨⟨_, rfl⟩, HR.out⟩
end Go.Proofs.YtomgnpfpaodpiaaDoor
/- The law of Up within the round of a loop over a function. -/
namespace Go.Proofs.YtomgnpfpaodpiaaDoor
open Go Go.RowKit
variable {P : Program} {n : Nat}
theorem op_in {o : Oper} {a : Act} {w : World} {K : Act → World → Prop} {Q : Exit → Act → World → Prop} (hd : ∀ c, o.op ≠ .defer c) (h : o.wp P a w K Q) : o.wpIn Fence.wide n P a w K Q := by
  unfold Oper.wp at h
  unfold Oper.wpIn
  refine ⟨fun _ _ => trivial, ?_⟩
  rw [Oper.semAt_eq _ _ _ hd]
  generalize (execOp a.eval o).run P w = r at *
  cases r with
  | ok x w' =>
    cases x <;> first
      | exact h
      | exact ⟨fun h => by simp [Fence.wide] at h, callsIn_wide.2 h⟩
      | exact ⟨fun h => by simp [Fence.wide] at h, h⟩
      | exact ⟨fun h => by simp [Fence.wide] at h, fun c cs _ => let ⟨v, w2, r, s⟩ := h c cs; ⟨v, w2, r, stepsIn_wide.2 s⟩⟩
      | exact False.elim h
  | halt x w' => cases x <;> exact h
theorem any_in {md : Region.Mode} {ops : Array Oper} {Q : Exit → Act → World → Prop} (hd : noDefer ops.toList = true) (hno : ∀ a w, ¬ Q .outgrown a w) : ∀ (fuel : Nat) (listed : Array Bool) (a : Act) (w : World), wpAny P md ops Q fuel listed a w → wpAnyIn Fence.wide n P md ops Q fuel listed a w := by
  intro fuel
  induction fuel with
  | zero => exact fun _ _ _ h => h
  | succ fuel ih =>
    intro listed a w h
    refine ⟨h.1, fun i hi => ?_⟩
    have h2 := h.2 i hi
    unfold wpOp at h2
    unfold wpOpIn
    cases ho : ops[i]? with
    | none => rw [ho] at h2; exact ih _ _ _ h2
    | some o =>
      rw [ho] at h2
      dsimp only at h2 ⊢
      have hdo : ∀ c, o.op ≠ .defer c := by
        intro c hc
        have := List.all_eq_true.1 hd o (by rw [Array.mem_toList_iff]; exact Array.mem_of_getElem? ho)
        simp [hc] at this
      split
      · rename_i hw
        rw [if_pos hw] at h2
        rcases h2 with h2 | ⟨_, a1, w1, h3⟩
        · exact op_in hdo (Oper.wp_mono (fun a w => ih _ a w) h2)
        · exact absurd h3 (hno a1 w1)
      · rename_i hw
        rw [if_neg hw] at h2
        exact ⟨fun _ _ => trivial, ih _ _ _ h2⟩
theorem wp_region_box_round {lo : Nat} (C : World → Prop) (hC : Stays C) {id : Nat} {Q : Exit → Act → World → Prop} {a : Act} {w : World} {l : List Oper} (hdf : noDefer l = true) (hno : ∀ a w, ¬ Q .outgrown a w) (ks : List Nat) (m N : Nat) {lq : List Oper} {a' : Act} (hm : P.follows .mixedOrders = true) (hs : Region.noSelect l.toArray = true) (hn : l.length = m + ks.length)
    (hB : upB .any l.toArray ks (Array.replicate l.length false) = true) (hk : ks.all (fun k => decide (k < l.length)) = true) (hN : a.tmps.size = N) (hd : slotsB N (ks.map (fun k => l.getD k default)) = true)
    (hl : ks.map (fun k => l.getD k default) = lq) (h0 : C w) (hq : ∀ w0, C w0 → wpQuiet P l.toArray (fun w' => ∃ g, w' = plus w0 g) (fun a'' => a'' = a') lq a)
    (h : wpUp P .any l.toArray (NoPanic Q) C m (upTo ks (Array.replicate l.length false)) a' w) : (Code.region id l.toArray true).wpIn (Fence.wide.inRound lo) n P Q a w := by
  subst hl hN
  have hb : Below w.heap.size w { w with drawn := w.drawn + 1 } := ⟨rfl, rfl, rfl, Nat.le_refl _, fun _ _ => rfl⟩
  refine wpIn_mono (wpIn_region_any hm (wpAnyIn_round (by simpa using hdf) _ _ _ _ (any_in (Q := NoPanic Q) (by simpa using hdf) (fun a w h => hno a w h) _ _ _ _ (wpUp_any (C := C) _ _ _ _ (hC _ _ h0 hb) ?_)))) NoPanic.imp
  have hsz : l.toArray.size = m + ks.length := by simpa using hn
  rw [hsz]
  have := wpUp_lex (md := .any) hC h0 hs (fun _ _ _ _ h => h) ks _ (Array.replicate l.length false) a (picks_map ks hk) hB hd (fun w0 h1 => by have := hq w0 h1; rwa [plus_class] at this) h
  rw [hn] at this
  have h9 := wpUp_up this hb
  simpa using h9
end Go.Proofs.YtomgnpfpaodpiaaDoor
/- An append to a list that a field of a box holds. -/
namespace Go.Proofs.YtomgnpfpaodpiaaDoor
open Go Go.RowKit
theorem own_other {w7 w8 : World} {base n k : Nat} {v : Value} {xs : List Value} {t : TypeId} {cs : List Value} (h : w7.ownsRow base 3 1 v n xs) (hg : w7.grownBy w8 v.ownBlock) (ht : t ≠ 3) (hk : CellsBox w7 k t cs) : CellsBox w8 k t cs :=
  (hg.block k hk.lt fun e => by
    rcases h.2 with ⟨rfl, _⟩ | ⟨g, cap, cur, rfl, _, h2, _⟩
    · cases e
    · cases e
      unfold CellsBox at hk
      rw [h2] at hk; cases hk; exact ht rfl).trans hk
theorem own_spare {w7 w8 w9 : World} {base n L i : Nat} {v u : Value} {xs : List Value} (h : w7.ownsRow base 3 1 v n xs) (hg : w7.grownBy w8 v.ownBlock) (h9 : Below w8.heap.size w8 w9) (hb : base ≤ w7.heap.size) : Spare base L w7 (w9.setCell ⟨L, i, none⟩ u) := by
  have hsz := hg.size
  refine ⟨h9.os.trans hg.os, h9.tape.trans hg.tape, h9.output.trans hg.output, by have := h9.size; simp; omega, fun k hk hl => ?_⟩
  rw [heap_setCell_other w9 _ k u hl, h9.block k (by omega)]
  refine hg.block k (by omega) fun e => ?_
  have := (h.lt k e.symm).1
  omega
theorem own_set {w8 w9 : World} {base n L i : Nat} {v u : Value} {xs cs : List Value} {t : TypeId} (h : w8.ownsRow base 3 1 v n xs) (h9 : Below w8.heap.size w8 w9) (ht : t ≠ 3) (hL : CellsBox w9 L t cs) : (w9.setCell ⟨L, i, none⟩ u).ownsRow base 3 1 v n xs := by
  have h2 := own_keep h h9
  refine h2.kept (grownBy_set w9 L i u) ?_
  rcases h2.2 with ⟨rfl, _⟩ | ⟨g, cap, cur, rfl, _, h3, _⟩
  · exact .inl rfl
  · right
    intro e
    cases e
    unfold CellsBox at hL
    rw [h3] at hL; cases hL; exact ht rfl
theorem news_i {w : World} {b : Nat} {u : Value} (h : w.cell? ⟨b, 0, none⟩ = some u) : ∀ j x, [u][j]? = some x → w.cell? ((⟨b, 0, none⟩ : Addr).add j) = some x := by
  intro j x hj
  cases j with
  | zero => simp at hj; subst hj; simpa [Addr.add] using h
  | succ j => simp at hj
def secsL (f : Floor) : List Int := f.slips.map fun s => (takesF f s).2
theorem secsL_at {f : Floor} {k : Nat} {s : SSlip} (h : f.slips[k]? = some s) : (secsL f).take (k + 1) = (secsL f).take k ++ [(takesF f s).2] := by
  obtain ⟨hk, rfl⟩ := List.getElem?_eq_some_iff.1 h
  have hk2 : k < (secsL f).length := by simpa [secsL] using hk
  rw [List.take_succ_eq_append_getElem hk2]
  simp [secsL]
end Go.Proofs.YtomgnpfpaodpiaaDoor
