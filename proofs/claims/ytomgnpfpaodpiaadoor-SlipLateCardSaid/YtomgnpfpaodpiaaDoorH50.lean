/- Contract of the specification's Done. -/
import Derived.Test.YtomgnpfpaodpiaaDoorH49
import Derived.Test.YtomgnpfpaodpiaaDoorH19
import Derived.Test.YtomgnpfpaodpiaaDoorH47
set_option linter.unusedVariables false
set_option linter.unusedSimpArgs false
namespace Go.Proofs.YtomgnpfpaodpiaaDoor
open Go Go.RowKit
set_option maxHeartbeats 4000000
set_option maxRecDepth 100000 in
theorem rDone_bad (f : Floor) (hf : f.slips.length ≤ 4398046511104) (A : Option Addr) (cap : Nat) (ts : List SRow) (hb b : Bool) (hhb : hasB 1 5 ts.length = hb) (hq : rosterQ f ts = b) (c : Int) (hc : askedV f (hb && b) = c) (hc0 : c ≠ 0) (w : World) (h : FloorAt w w.heap.size f) (ht : RosterAt w w.heap.size A cap ts) :
    Calls Tryd.prog 26 #[f.val, .slice A ts.length cap] w fun e w' => e = .returned (.tuple #[.slice none 0 0, vi c]) ∧ Below w.heap.size w w' := by
  have HF := Lib.hid h
  have HT := Lib.hid ht
  have TW := Lib.hid (fun (W : World) => tween_is hhb W)
  have RO : Hid (∀ W : World, RosterAt W W.heap.size A cap ts → Calls Tryd.prog 67 #[f.val, .slice A ts.length cap] W fun e w' => e = .returned (.bool b) ∧ Below W.heap.size W w') := fun W hT => by
    have := rIsRoster_any f hf A cap ts W hT
    rwa [hq] at this
  have AS := Lib.hid (fun (W : World) hW => asked_is hc W hW)
  have hne : (c != 0) = true := by simpa using hc0
  clear h ht hhb hq hc hc0 hf
  obtain ⟨fA, fC, ff, slo, shi, pA, pC, fp, fc, sA, sC, fs⟩ := f
  show Calls Tryd.prog 26 #[.agg #[.slice fA ff.length fC, vi slo, vi shi, .slice pA fp.length pC, vi fc, .slice sA fs.length sC], .slice A ts.length cap] w _
  have hb0 := below1 w (.cells #[.slice fA ff.length fC, vi slo, vi shi, .slice pA fp.length pC, vi fc, .slice sA fs.length sC] 28)
  have X0 := CellsBox.new w 28 [.slice fA ff.length fC, vi slo, vi shi, .slice pA fp.length pC, vi fc, .slice sA fs.length sC]
  go_enter Tryd.func26, Tryd.ntmps26
  go_wp2_with fail
  obtain ⟨wl, hW⟩ : ∃ W, W = w.alloc (.cells #[.slice fA ff.length fC, vi slo, vi shi, .slice pA fp.length pC, vi fc, .slice sA fs.length sC] 28) := ⟨_, rfl⟩
  rw [← hW] at hb0 X0 ⊢
  have a0 := X0.cell (j := 0) rfl
  have a1 := X0.cell (j := 1) rfl
  have a2 := X0.cell (j := 2) rfl
  have a3 := X0.cell (j := 3) rfl
  have a4 := X0.cell (j := 4) rfl
  have a5 := X0.cell (j := 5) rfl
  have za := X0.lt
  clear hW X0
  rcases hb with _ | _
  · simp only [Bool.false_and] at AS
    (refine wp_region_grow_lit (by kernel_rfl) (by kernel_rfl) ?_; (repeat (go_big_quiet_step (first | (go_at_call 39; refine Calls.grow_same (TW.out _)) | (go_at_call 54; refine Calls.grow_of (AS.out _ (HF.out.to (hb0.trans ((plus_below _ _).mono hb0.size)))))))); refine wpQuiet_nil ?_; intro w1 hw1; have hb1 := below_of_plus hw1; clear hw1; obtain ⟨⟨hc1, hf1, hs1⟩, hz1⟩ := after hb1; (try simp only [World.size_alloc, World.size_setCell, World.size_drew] at hz1))
    have HB1 : Below w.heap.size w w1 := hb0.trans (hb1.mono hb0.size)
    clear hb1 hc1 hf1 hs1 hz1 a0 a1 a2 a3 a4 a5 za
    go_wp2_with fail
    go_ret2
    exact ⟨rfl, HB1⟩
  · simp only [Bool.true_and] at AS
    (refine wp_region_grow_lit (by kernel_rfl) (by kernel_rfl) ?_; (repeat (go_big_quiet_step (first | (go_at_call 39; refine Calls.grow_same (TW.out _)) | (go_at_call 67; refine Calls.grow_of (RO.out _ (HT.out.to (hb0.trans ((plus_below _ _).mono hb0.size))))) | (go_at_call 54; refine Calls.grow_of (AS.out _ (HF.out.to (hb0.trans ((plus_below _ _).mono hb0.size)))))))); refine wpQuiet_nil ?_; intro w1 hw1; have hb1 := below_of_plus hw1; clear hw1; obtain ⟨⟨hc1, hf1, hs1⟩, hz1⟩ := after hb1; (try simp only [World.size_alloc, World.size_setCell, World.size_drew] at hz1))
    have HB1 : Below w.heap.size w w1 := hb0.trans (hb1.mono hb0.size)
    clear hb1 hc1 hf1 hs1 hz1 a0 a1 a2 a3 a4 a5 za
    go_wp2_with fail
    go_ret2
    exact ⟨rfl, HB1⟩
theorem rtakes_tk {f : Floor} (hv : validB f = true) {x : Int} (hx : slipB f x = true) {a b : Int} (hab : tkF f x = (a, b)) (w : World) (h : FloorAt w w.heap.size f) :
    Calls Tryd.prog 62 #[f.val, vi x] w fun e w' => e = .returned (.agg #[vi a, vi b]) ∧ Below w.heap.size w w' := by
  unfold slipB at hx
  simp only [Bool.and_eq_true, decide_eq_true_eq] at hx
  have hk : x.toNat < f.slips.length := by omega
  have hs : f.slips[x.toNat]? = some f.slips[x.toNat] := List.getElem?_eq_getElem hk
  have := rtakes_any f hv x.toNat _ hs w h
  rw [takes_same hv hs] at this
  unfold tkF at hab
  rw [hs] at hab
  simp only at hab
  rw [hab, show ((x.toNat : Nat) : Int) = x by omega] at this
  exact this
set_option maxRecDepth 100000 in
theorem rDone_ok (f : Floor) (hv : validB f = true) (A : Option Addr) (cap : Nat) (ts : List SRow) (hr : rosterB f ts = true) (w : World) (h : FloorAt w w.heap.size f) (ht : RosterAt w w.heap.size A cap ts) :
    Calls Tryd.prog 26 #[f.val, .slice A ts.length cap] w fun e w' => ∃ b, e = .returned (.tuple #[.slice (some ⟨b, 0, none⟩) f.slips.length f.slips.length, vi 0]) ∧ CellsBox w' b 24 (flatS (doneF f (ts.map SRow.slips))) ∧ Below w.heap.size w w' := by
  have htl := ht.rows.lens
  have h9 := (fine hv).slips9
  have HF := Lib.hid h
  have HT := Lib.hid ht
  have hrq : hasB 1 5 ts.length = true ∧ rosterQ f ts = true := by
    rw [← rosterQ_is, Bool.and_eq_true] at hr
    exact hr
  have hc : askedV f true = 0 := by
    unfold askedV checkV
    rw [if_pos hv, if_pos rfl, if_pos rfl]
  have TW := Lib.hid (fun (W : World) => tween_is hrq.1 W)
  have RO : Hid (∀ W : World, RosterAt W W.heap.size A cap ts → Calls Tryd.prog 67 #[f.val, .slice A ts.length cap] W fun e w' => e = .returned (.bool true) ∧ Below W.heap.size W w') := fun W hT => by
    have := rIsRoster_any f (by omega) A cap ts W hT
    rwa [hrq.2] at this
  have AS := Lib.hid (fun (W : World) hW => asked_is hc W hW)
  have HTK := Lib.hid (fun (x a b : Int) hx (hab : tkF f x = (a, b)) (W : World) hW => rtakes_tk hv (x := x) hx hab W hW)
  have HRG := Lib.hid (tk_range hv)
  have HROW := Lib.hid (roster_rows h9 hr).2
  obtain ⟨G, hG⟩ : ∃ G : Nat → List (Int × Int), G = fun k => ((ts.map SRow.slips).take k).foldl (rowD (tkF f)) (List.replicate f.slips.length (0, 0)) := ⟨_, rfl⟩
  have G0 : Hid (G 0 = List.replicate f.slips.length (0, 0)) := by unfold Hid; rw [hG]; rfl
  have GL : Hid (∀ k, (G k).length = f.slips.length) := fun k => by rw [hG]; simp only; rw [done_len]; simp
  have GS : Hid (∀ (k : Nat) (t : SRow), ts[k]? = some t → G (k + 1) = rowD (tkF f) (G k) t.slips) := fun k t hk => by
    rw [hG]
    obtain ⟨hk2, rfl⟩ := List.getElem?_eq_some_iff.1 hk
    simp only
    rw [List.take_succ_eq_append_getElem (by simpa using hk2), List.foldl_append]
    simp
  have GA : Hid (G ts.length = doneF f (ts.map SRow.slips)) := by
    unfold Hid; rw [hG]
    simp only
    rw [show ts.length = (ts.map SRow.slips).length by simp, List.take_length]
    rfl
  obtain ⟨R, hR⟩ : ∃ R, R = doneF f (ts.map SRow.slips) := ⟨_, rfl⟩
  obtain ⟨tk, htk⟩ : ∃ tk, tk = tkF f := ⟨_, rfl⟩
  obtain ⟨sb, hsb⟩ : ∃ sb, sb = slipB f := ⟨_, rfl⟩
  have HSB : Hid (∀ x, sb x = true → 0 ≤ x ∧ x < f.slips.length) := fun x hx => by
    rw [hsb] at hx; unfold slipB at hx
    simpa using hx
  rw [← hR] at GA ⊢
  rw [← htk] at GS HRG HTK
  rw [← hsb] at HROW HTK
  clear hG hR htk hsb hr hrq hc h ht hv
  obtain ⟨fA, fC, ff, slo, shi, pA, pC, fp, fc, sA, sC, fs⟩ := f
  simp only at h9 G0 GL HSB
  have hmk := mkSpans fs.length (by omega)
  show Calls Tryd.prog 26 #[.agg #[.slice fA ff.length fC, vi slo, vi shi, .slice pA fp.length pC, vi fc, .slice sA fs.length sC], .slice A ts.length cap] w _
  have hb0 := below1 w (.cells #[.slice fA ff.length fC, vi slo, vi shi, .slice pA fp.length pC, vi fc, .slice sA fs.length sC] 28)
  have X0 := CellsBox.new w 28 [.slice fA ff.length fC, vi slo, vi shi, .slice pA fp.length pC, vi fc, .slice sA fs.length sC]
  go_enter Tryd.func26, Tryd.ntmps26
  go_wp2_with fail
  obtain ⟨wl, hW⟩ : ∃ W, W = w.alloc (.cells #[.slice fA ff.length fC, vi slo, vi shi, .slice pA fp.length pC, vi fc, .slice sA fs.length sC] 28) := ⟨_, rfl⟩
  rw [← hW] at hb0 X0 ⊢
  have a0 := X0.cell (j := 0) rfl
  have a1 := X0.cell (j := 1) rfl
  have a2 := X0.cell (j := 2) rfl
  have a3 := X0.cell (j := 3) rfl
  have a4 := X0.cell (j := 4) rfl
  have a5 := X0.cell (j := 5) rfl
  have za := X0.lt
  have HX0 := Lib.hid X0
  clear hW X0
  (refine wp_region_grow_lit (by kernel_rfl) (by kernel_rfl) ?_; (repeat (go_big_quiet_step (first | (go_at_call 39; refine Calls.grow_same (TW.out _)) | (go_at_call 67; refine Calls.grow_of (RO.out _ (HT.out.to (hb0.trans ((plus_below _ _).mono hb0.size))))) | (go_at_call 54; refine Calls.grow_of (AS.out _ (HF.out.to (hb0.trans ((plus_below _ _).mono hb0.size)))))))); refine wpQuiet_nil ?_; intro w1 hw1; have hb1 := below_of_plus hw1; clear hw1; obtain ⟨⟨hc1, hf1, hs1⟩, hz1⟩ := after hb1; (try simp only [World.size_alloc, World.size_setCell, World.size_drew] at hz1))
  have HB1 : Below w.heap.size w w1 := hb0.trans (hb1.mono hb0.size)
  have HX1 := Lib.hid (HX0.out.keep hb1)
  clear hb1 hc1 hf1 hs1 hz1 a0 a1 a2 a3 a4 a5 za HX0
  have a5 := HX1.out.cell (j := 5) rfl
  have za := HX1.out.lt
  go_wp2_with fail
  obtain ⟨V0, hV0⟩ : ∃ V0, V0 = w1.alloc (.cells (Array.replicate (fs.length * 2) (vi 0)) 24) := ⟨_, rfl⟩
  have hbV0 : Below w1.heap.size w1 V0 := by rw [hV0]; exact below1 _ _
  have hb0 : Below w.heap.size w V0 := HB1.trans (hbV0.mono HB1.size)
  obtain ⟨bR, hbR⟩ : ∃ bR, bR = w1.heap.size := ⟨_, rfl⟩
  have XR : Hid (CellsBox V0 bR 24 (flatS (G 0))) := by
    unfold Hid; rw [hV0, hbR, G0.out, flatS_rep]
    have := CellsBox.new w1 24 (List.replicate (fs.length * 2) (vi 0))
    simp only [List.toArray_replicate] at this
    exact this
  have XF := Lib.hid (HX1.out.keep hbV0)
  have hFR : w.heap.size < bR := by have := HX1.out.lt; omega
  rw [← hV0, ← hbR]
  clear hV0 hmk a5 za hbV0 hbR HX1 HB1
  go_loopw [8, 9, 10, 11] (fun i b c d wr => ∃ k : Nat, k ≤ ts.length ∧ i = .int .i64 k ∧ Below w.heap.size w wr ∧ Hid (CellsBox wr w.heap.size 28 [.slice fA ff.length fC, vi slo, vi shi, .slice pA fp.length pC, vi fc, .slice sA fs.length sC]) ∧ Hid (CellsBox wr bR 24 (flatS (G k)))) (fun i _ _ _ _ => ts.length - (intOf i).toNat)
  case atStart => exact ⟨0, Nat.zero_le _, rfl, hb0, XF, XR⟩
  clear XF XR hb0 V0
  obtain ⟨k, hk, rfl, hB, XF, XR⟩ := hrel
  obtain ⟨wo, hwo⟩ : ∃ wo, wo = wr := ⟨_, rfl⟩
  subst hwo
  have hz := hB.size
  have zR := XR.out.lt
  by_cases hlt : k < ts.length
  · obtain ⟨t, ht⟩ : ∃ t, ts[k]? = some t := ⟨_, List.getElem?_eq_getElem hlt⟩
    obtain ⟨bb, off, htb, hbb, x0⟩ := row1 HT.out.rows.row ht rfl
    subst htb
    have HTL := Lib.hid (HT.out.each t (List.mem_of_getElem? ht))
    have hln := HTL.out.lens
    have HGk := Lib.hid (GS.out k t ht)
    obtain ⟨ht9, htB⟩ := HROW.out t (List.mem_of_getElem? ht)
    have HTB := Lib.hid htB
    have hkI : (k : Int) < ts.length := by omega
    have h0k : (0 : Int) ≤ k := by omega
    clear ht htB
    obtain ⟨tA, tC, tl⟩ := t
    simp only at HTL HGk hln ht9 HTB
    replace x0 : w.cell? ⟨bb, off + k, none⟩ = some (.slice tA tl.length tC) := x0
    have HX0 := Lib.hid x0
    obtain ⟨S, hS⟩ : ∃ S : Nat → (Int × Int) × List (Int × Int), S = fun j => (tl.take j).foldl (stepD tk) ((0, 0), G k) := ⟨_, rfl⟩
    have S0 : Hid (S 0 = ((0, 0), G k)) := by unfold Hid; rw [hS]; rfl
    have SS : Hid (∀ (j : Nat) (x : Int), tl[j]? = some x → S (j + 1) = stepD tk (S j) x) := fun j x hx => by rw [hS]; exact row_take tk _ hx
    have SA : Hid ((S tl.length).2 = G (k + 1)) := by unfold Hid; rw [hS, HGk.out]; simp only; rw [List.take_length]; rfl
    have SR : Hid (∀ j, (0 ≤ (S j).1.1 ∧ (S j).1.1 ≤ 180000000) ∧ (0 ≤ (S j).1.2 ∧ (S j).1.2 ≤ 180000000)) := fun j => by
      have := now_range HRG.out (tl.take j) ((0, 0), G k)
      have hl : (tl.take j).length ≤ 9 := by rw [List.length_take]; omega
      rw [hS]; simp only at this ⊢; omega
    have SL : Hid (∀ j, (S j).2.length = fs.length) := fun j => by rw [hS]; simp only; rw [row_len]; exact GL.out k
    clear hS HGk x0
    go_wp2_with fail
    refine (to_any 0 0 _).mono ?_
    rintro e W1 ⟨rfl, hb1⟩
    have hzb := hb1.size
    obtain ⟨V1, hV1⟩ : ∃ V1, V1 = W1.alloc (.cells #[vi 0, vi 0] 24) := ⟨_, rfl⟩
    have hbV : Below wo.heap.size wo V1 := by rw [hV1]; exact hb1.alloc hzb _
    have XB : Hid (CellsBox V1 W1.heap.size 24 [vi (S 0).1.1, vi (S 0).1.2]) := by unfold Hid; rw [hV1, S0.out]; exact CellsBox.new W1 _ _
    have XF1 := Lib.hid (XF.out.keep hbV)
    have XR1 : Hid (CellsBox V1 bR 24 (flatS (S 0).2)) := by unfold Hid; rw [S0.out]; exact XR.out.keep hbV
    obtain ⟨b8, hb8⟩ : ∃ b8, b8 = W1.heap.size := ⟨_, rfl⟩
    have hb8z : wo.heap.size ≤ b8 := by omega
    go_wp2_with fail
    rw [← hV1, ← hb8]
    rw [← hb8] at XB
    clear hV1 hb8 hb1 hzb W1
    go_loopw [10, 11] (fun i c w2 => ∃ j : Nat, j ≤ tl.length ∧ i = .int .i64 j ∧ Below w.heap.size w w2 ∧ wo.heap.size ≤ w2.heap.size ∧ Hid (CellsBox w2 b8 24 [vi (S j).1.1, vi (S j).1.2]) ∧ Hid (CellsBox w2 w.heap.size 28 [.slice fA ff.length fC, vi slo, vi shi, .slice pA fp.length pC, vi fc, .slice sA fs.length sC]) ∧ Hid (CellsBox w2 bR 24 (flatS (S j).2))) (fun i _ _ => tl.length - (intOf i).toNat)
    case atStart => exact ⟨0, Nat.zero_le _, rfl, hB.trans (hbV.mono hz), hbV.size, XB, XF1, XR1⟩
    clear XB XF1 XR1 hbV V1
    obtain ⟨j, hj, rfl, hB2, hzz, XB, XF2, XR2⟩ := hrel
    have zR2 := XR2.out.lt
    have z82 := XB.out.lt
    have t0 : wr.cell? ⟨bb, off + k, none⟩ = some (.slice tA tl.length tC) := (hB2.cell hbb).trans HX0.out
    have zbb : bb < wr.heap.size := cell_lt t0
    by_cases hjl : j < tl.length
    · obtain ⟨x, hx⟩ : ∃ x, tl[j]? = some x := ⟨_, List.getElem?_eq_getElem hjl⟩
      obtain ⟨bc, oc, htA, hbc, yw⟩ := ints_at HTL.out hx
      subst htA
      have y0 : wr.cell? ⟨bc, oc + j, none⟩ = some (vi x) := (hB2.cell hbc).trans yw
      have HYW := Lib.hid yw
      clear yw
      have hsx : sb x = true := HTB.out x (List.mem_of_getElem? hx)
      obtain ⟨hx0, hx1⟩ := HSB.out x hsx
      obtain ⟨p, q, hpq⟩ : ∃ p q, tk x = (p, q) := ⟨_, _, rfl⟩
      have TK := Lib.hid (fun (W : World) hW => HTK.out x p q hsx hpq W hW)
      have HSn := Lib.hid (SS.out j x hx)
      have hSj := SR.out j
      have hLj := SL.out j
      obtain ⟨sj, hsj⟩ : ∃ sj, sj = S j := ⟨_, rfl⟩
      rw [← hsj] at XB XR2 HSn hSj hLj
      obtain ⟨⟨lo, hi⟩, out⟩ := sj
      simp only at XB XR2 hSj hLj
      obtain ⟨s, rfl⟩ : ∃ s : Nat, x = s := ⟨x.toNat, by omega⟩
      have HSn2 : Hid (S (j + 1) = ((lo + p, hi + q), out.set s (lo + p, hi + q))) := by unfold Hid; rw [HSn.out, stepD, hpq]; simp [addS]
      have hpr := HRG.out s
      rw [hpq] at hpr
      simp only at hpr
      have hwa : IntKind.wrap .i64 (lo + p) = lo + p := wrapI (by omega) (by omega)
      have hwb : IntKind.wrap .i64 (hi + q) = hi + q := wrapI (by omega) (by omega)
      have hjI : (j : Int) < tl.length := by omega
      have h0j : (0 : Int) ≤ j := by omega
      have zbc : bc < wr.heap.size := cell_lt y0
      have hs1 : s < fs.length := by omega
      obtain ⟨os, hos⟩ : ∃ os, out[s]? = some os := ⟨_, List.getElem?_eq_getElem (by omega)⟩
      obtain ⟨v0, v1⟩ := flatS_at out s os hos
      have HV0 := Lib.hid v0
      have HV1 := Lib.hid v1
      clear hx hsx hsj HSn hpq hos v0 v1 HTB GS GA GL G0 SS SA SR SL S0 HROW
      go_wp2_with fail
      refine' wp_region_box (fun w' => Below wr.heap.size wr w') (fun a b h h' => gr_trans h h') [0, 1, 2, 3, 4, 5, 6, 7, 8] 2 76 (by kernel_rfl) (by kernel_rfl) rfl (by kernel_rfl) (by kernel_rfl) rfl (by kernel_rfl) ?hl5 (Below.refl _ _) ?hq5 ?hr5
      case hl5 =>
        simp only [List.map_cons, List.map_nil, List.getD_cons_zero, List.getD_cons_succ]
        exact rfl
      case hq5 =>
        intro w0 K
        have XFK := XF2.out.keep K
        have f0 := XFK.cell (j := 0) rfl
        have f1 := XFK.cell (j := 1) rfl
        have f2 := XFK.cell (j := 2) rfl
        have f3 := XFK.cell (j := 3) rfl
        have f4 := XFK.cell (j := 4) rfl
        have f5 := XFK.cell (j := 5) rfl
        have zf := XFK.lt
        have t0w := cell_keep K t0
        have y0w := cell_keep K y0
        have ztw : bb < w0.heap.size := cell_lt t0w
        have zyw : bc < w0.heap.size := cell_lt y0w
        (repeat (go_big_quiet_step ((go_at_call 62; refine Calls.grow_of (TK.out _ (HF.out.to (hB2.trans ((K.mono hB2.size).trans ((plus_below _ _).mono (by have := K.size; have := hB2.size; omega))))))))))
        exact wpQuiet_nil rfl
      case hr5 =>
        refine wpUp_one (i := 9) (by kernel_rfl) rfl rfl (fun wa b1 b2 Ka hKa => ?_)
        go_simp
        obtain ⟨V9, hV9⟩ : ∃ V9, V9 = wa.alloc (.cells #[vi 0, vi 0] 24) := ⟨_, rfl⟩
        have hbV9 : Below wa.heap.size wa V9 := by rw [hV9]; exact below1 _ _
        have X9 : CellsBox V9 wa.heap.size 24 [vi 0, vi 0] := by rw [hV9]; exact CellsBox.new wa _ _
        rw [← hV9]
        clear hV9
        have hsa := b1.size
        refine hKa _ _ (gr_trans b1 hbV9) ?_
        refine wpUp_one (i := 10) (by kernel_rfl) rfl rfl (fun wc c1 c2 Kc hKc => ?_)
        have Y9 := X9.keep c1
        have d0 := Y9.cell (j := 0) rfl
        have d1 := Y9.cell (j := 1) rfl
        have e0 := Y9.frozen 0
        have e1 := Y9.frozen 1
        have zz := Y9.lt
        go_simp
        have Z9 := (Y9.store 0 (vi p)).store 1 (vi q)
        have hbc : Below wr.heap.size wr ((wc.setCell ⟨wa.heap.size, 0, none⟩ (vi p)).setCell ⟨wa.heap.size, 1, none⟩ (vi q)) := (c2.setCell hsa _).setCell hsa _
        refine hKc _ _ hbc (wpUp_done (by kernel_rfl) (fun W8 g1 g2 => NoPanic.normal ?_))
        have HZ8 : Hid (CellsBox W8 wa.heap.size 24 [vi p, vi q]) := Z9.keep g1
        have HB8 : Below wr.heap.size wr W8 := g2
        have hne : b8 ≠ wa.heap.size := by omega
        clear hKa hKc X9 Y9 d0 d1 e0 e1 zz Z9 hbc g1 g2 c1 c2 b1 b2 hbV9
        obtain ⟨b9, hb9⟩ : ∃ b9, b9 = wa.heap.size := ⟨_, rfl⟩
        rw [← hb9] at HZ8 hne ⊢
        clear hb9
        have t0v := cell_keep HB8 t0
        have y0v := cell_keep HB8 y0
        have XBv := Lib.hid (XB.out.keep HB8)
        have XFv := Lib.hid (XF2.out.keep HB8)
        have XRv := Lib.hid (XR2.out.keep HB8)
        have s0 := XBv.out.cell (j := 0) rfl
        have s1 := XBv.out.cell (j := 1) rfl
        have zs := XBv.out.lt
        have u0 := HZ8.out.cell (j := 0) rfl
        have u1 := HZ8.out.cell (j := 1) rfl
        have zt := HZ8.out.lt
        have HB8w : Below w.heap.size w W8 := hB2.trans (HB8.mono hB2.size)
        have HS8 : wo.heap.size ≤ W8.heap.size := by have := HB8.size; omega
        clear t0 y0 zbb zbc zR2 z82
        have ztb : bb < W8.heap.size := cell_lt t0v
        have zyb : bc < W8.heap.size := cell_lt y0v
        go_wp2_with fail
        refine (to_any (lo + p) (hi + q) _).mono ?_
        rintro e W7 ⟨rfl, hb7⟩
        have XB7 := XBv.out.keep hb7
        have XF7 := XFv.out.keep hb7
        have XR7 := XRv.out.keep hb7
        have HB7 : Below w.heap.size w W7 := HB8w.trans (hb7.mono HB8w.size)
        have HS7 : wo.heap.size ≤ W7.heap.size := by have := hb7.size; omega
        have t07 := cell_keep hb7 t0v
        have y07 := cell_keep hb7 y0v
        have ztb7 : bb < W7.heap.size := cell_lt t07
        have zyb7 : bc < W7.heap.size := cell_lt y07
        have k0 := XB7.cell (j := 0) rfl
        have k1 := XB7.cell (j := 1) rfl
        have q0 := XB7.frozen 0
        have q1 := XB7.frozen 1
        have z7 := XB7.lt
        clear t0v y0v s0 s1 zs u0 u1 zt ztb zyb hb7 XBv XFv XRv HZ8
        have hb8w : w.heap.size ≤ b8 := by omega
        have P8 := Lib.hid ((XB7.store 0 (vi (lo + p))).store 1 (vi (hi + q)))
        have PF := Lib.hid ((XF7.apart ⟨b8, 0, none⟩ (vi (lo + p)) (by simp only; omega)).apart ⟨b8, 1, none⟩ (vi (hi + q)) (by simp only; omega))
        have PR := Lib.hid ((XR7.apart ⟨b8, 0, none⟩ (vi (lo + p)) (by simp only; omega)).apart ⟨b8, 1, none⟩ (vi (hi + q)) (by simp only; omega))
        have PB := Lib.hid ((HB7.setCell (p := ⟨b8, 0, none⟩) hb8w (vi (lo + p))).setCell (p := ⟨b8, 1, none⟩) hb8w (vi (hi + q)))
        have PS : Hid (wo.heap.size ≤ ((W7.setCell ⟨b8, 0, none⟩ (vi (lo + p))).setCell ⟨b8, 1, none⟩ (vi (hi + q))).heap.size) := by unfold Hid; simp; omega
        have PT : Hid (((W7.setCell ⟨b8, 0, none⟩ (vi (lo + p))).setCell ⟨b8, 1, none⟩ (vi (hi + q))).cell? ⟨bb, off + k, none⟩ = some (.slice (some ⟨bc, oc, none⟩) tl.length tC)) := PB.out.cell hbb |>.trans HX0.out
        have PY : Hid (((W7.setCell ⟨b8, 0, none⟩ (vi (lo + p))).setCell ⟨b8, 1, none⟩ (vi (hi + q))).cell? ⟨bc, oc + j, none⟩ = some (vi s)) := PB.out.cell hbc |>.trans HYW.out
        go_wp2_with fail
        refine (?_ : ∀ W9 : World, CellsBox W9 b8 24 [vi (lo + p), vi (hi + q)] → CellsBox W9 w.heap.size 28 [.slice fA ff.length fC, vi slo, vi shi, .slice pA fp.length pC, vi fc, .slice sA fs.length sC] → CellsBox W9 bR 24 (flatS out) → Below w.heap.size w W9 → wo.heap.size ≤ W9.heap.size → W9.cell? ⟨bb, off + k, none⟩ = some (.slice (some ⟨bc, oc, none⟩) tl.length tC) → W9.cell? ⟨bc, oc + j, none⟩ = some (vi s) → Code.wp _ _ _ _ W9) _ P8.out PF.out PR.out PB.out PS.out PT.out PY.out
        clear P8 PF PR PB PS PT PY k0 k1 q0 q1 z7 t07 y07 ztb7 zyb7 HB7 HS7 XB7 XF7 XR7
        intro W9 X8 X7 X6 B9 S9 t09 y09
        have b0 := X8.cell (j := 0) rfl
        have b1 := X8.cell (j := 1) rfl
        have g0 := X6.cell HV0.out
        have g1 := X6.cell HV1.out
        have z0 := X6.frozen (s * 2)
        have z1 := X6.frozen (s * 2 + 1)
        have z8 := X8.lt
        have z6 := X6.lt
        have ztb : bb < W9.heap.size := cell_lt t09
        have zyb : bc < W9.heap.size := cell_lt y09
        have hs0 : (0 : Int) ≤ s := by omega
        have hsI : (s : Int) < fs.length := by omega
        have N8 := Lib.hid ((X8.apart ⟨bR, s * 2, none⟩ (vi (lo + p)) (by simp only; omega)).apart ⟨bR, s * 2 + 1, none⟩ (vi (hi + q)) (by simp only; omega))
        have N7 := Lib.hid ((X7.apart ⟨bR, s * 2, none⟩ (vi (lo + p)) (by simp only; omega)).apart ⟨bR, s * 2 + 1, none⟩ (vi (hi + q)) (by simp only; omega))
        have N6 := Lib.hid ((X6.store (s * 2) (vi (lo + p))).store (s * 2 + 1) (vi (hi + q)))
        have NB := Lib.hid ((B9.setCell (p := ⟨bR, s * 2, none⟩) (by simp only; omega) (vi (lo + p))).setCell (p := ⟨bR, s * 2 + 1, none⟩) (by simp only; omega) (vi (hi + q)))
        have NS : Hid (wo.heap.size ≤ ((W9.setCell ⟨bR, s * 2, none⟩ (vi (lo + p))).setCell ⟨bR, s * 2 + 1, none⟩ (vi (hi + q))).heap.size) := by unfold Hid; simp; omega
        clear X8 X7 X6 B9 HV0 HV1
        go_region_with (fail)
        all_goals
          go_wp2_with fail
          go_roundw
        all_goals first
          | exact ⟨j + 1, by omega, by go_num, NB.out, NS.out, by rw [HSn2.out]; exact N8, N7, by rw [HSn2.out]; unfold Hid; rw [flatS_set _ _ _ (by omega)]; exact N6.out⟩
          | exact ⟨j + 1, by omega, by go_num, NB.out.drew, NS.out, by rw [HSn2.out]; exact N8, N7, by rw [HSn2.out]; unfold Hid; rw [flatS_set _ _ _ (by omega)]; exact N6.out⟩
          | (simp [intOf]; omega)
    · obtain rfl : j = tl.length := by omega
      have XR3 : Hid (CellsBox wr bR 24 (flatS (G (k + 1)))) := by unfold Hid; rw [← SA.out]; exact XR2.out
      go_wp2_with fail
      go_roundw
      case rel => exact ⟨k + 1, by omega, by go_num, hB2, XF2, XR3⟩
      case measure => simp [intOf]; omega
  · obtain rfl : k = ts.length := by omega
    rw [GA.out] at XR
    go_wp2_with fail
    go_ret2
    exact ⟨_, rfl, XR.out, hB⟩
end Go.Proofs.YtomgnpfpaodpiaaDoor

/- Contracts of the specification's Done, whatever is asked, and of Pickers. -/
namespace Go.Proofs.YtomgnpfpaodpiaaDoor
open Go Go.RowKit
set_option maxHeartbeats 4000000
theorem rDone_any (f : Floor) (hf : f.slips.length ≤ 4398046511104) (A : Option Addr) (cap : Nat) (ts : List SRow) (w : World) (h : FloorAt w w.heap.size f) (ht : RosterAt w w.heap.size A cap ts) :
    Calls Tryd.prog 26 #[f.val, .slice A ts.length cap] w fun e w' => ∃ R, e = .returned (.tuple #[.slice R (DoneV f ts).1.length (DoneV f ts).1.length, vi (DoneV f ts).2]) ∧ RowsAt w' w'.heap.size 2 R (DoneV f ts).1.length ((DoneV f ts).1.map spanC) ∧ Below w.heap.size w w' := by
  obtain ⟨hb, hhb⟩ : ∃ hb, hasB 1 5 ts.length = hb := ⟨_, rfl⟩
  obtain ⟨b, hq⟩ : ∃ b, rosterQ f ts = b := ⟨_, rfl⟩
  have hr : rosterB f ts = (hb && b) := by rw [← rosterQ_is, hhb, hq]
  obtain ⟨c, hc⟩ : ∃ c, askedV f (hb && b) = c := ⟨_, rfl⟩
  by_cases hc0 : c = 0
  · have hv : validB f = true ∧ (hb && b) = true := by
      rw [← hc] at hc0
      unfold askedV checkV at hc0
      cases hv : validB f with
      | false => rw [hv] at hc0; simp at hc0
      | true =>
        rw [hv] at hc0
        cases hbb : (hb && b) with
        | false => rw [hbb] at hc0; simp at hc0
        | true => exact ⟨rfl, rfl⟩
    rw [hv.2] at hr
    have h9 := (fine hv.1).slips9
    have E : DoneV f ts = (doneF f (ts.map SRow.slips), 0) := by
      unfold DoneV checkV
      rw [if_pos hv.1, if_pos rfl, if_pos hr]
    have hl : (doneF f (ts.map SRow.slips)).length = f.slips.length := by unfold doneF; rw [done_len]; simp
    rw [E]
    refine (rDone_ok f hv.1 A cap ts hr w h ht).mono ?_
    rintro e w' ⟨bb, rfl, hX, hB⟩
    refine ⟨some ⟨bb, 0, none⟩, ?_, ?_, hB⟩
    · rw [hl]
    · exact rows_of_box hX rfl (by rw [hl]; omega)
  · have E : DoneV f ts = ([], c) := by
      unfold DoneV
      rcases check_two f with ⟨h1, h2⟩ | ⟨h1, h2⟩
      · rw [if_neg (by omega), h1]
        unfold askedV at hc
        rw [if_neg (by omega), h1] at hc
        rw [hc]
      · rw [if_pos h1, hr]
        unfold askedV at hc
        rw [if_pos h1] at hc
        cases hbb : (hb && b) with
        | false => rw [hbb] at hc; rw [← hc]; rfl
        | true => rw [hbb] at hc; exact absurd hc.symm hc0
    rw [E]
    refine (rDone_bad f hf A cap ts hb b hhb hq c hc hc0 w h ht).mono ?_
    rintro e w' ⟨rfl, hB⟩
    exact ⟨none, rfl, rows_nil _ _, hB⟩
theorem last_few (f : Floor) : (PM.outG (aloneQ f) (2 ^ f.slips.length))[2 ^ f.slips.length - 1]? = some (fewQ f (allF f)) := by
  have h1 := Nat.two_pow_pos f.slips.length
  have e : 2 ^ f.slips.length - 1 + 1 = 2 ^ f.slips.length := by omega
  have hl : 2 ^ f.slips.length - 1 < (PM.outG (aloneQ f) (2 ^ f.slips.length)).length := by rw [PM.out_len]; omega
  rw [fewQ, allF, PM.fewG, e, List.getElem?_eq_getElem hl]
  rfl
set_option maxRecDepth 100000 in
theorem Pickers_any (f : Floor) (w : World) (h : FloorAt w w.heap.size f) :
    Calls Tryd.prog 29 #[f.val] w fun e w' => e = .returned (.tuple #[vi (PickersV f).1, vi (PickersV f).2]) ∧ Below w.heap.size w w' := by
  have HF := Lib.hid h
  rcases check_two f with ⟨hc, hv⟩ | ⟨hc, hv⟩
  · have CH := Lib.hid (fun (W : World) hW => rcheck_is hc W hW)
    have E : PickersV f = (0, 30) := by unfold PickersV; rw [if_neg (by omega), hc]
    rw [E]
    clear h hc hv E
    obtain ⟨fA, fC, ff, slo, shi, pA, pC, fp, fc, sA, sC, fs⟩ := f
    show Calls Tryd.prog 29 #[.agg #[.slice fA ff.length fC, vi slo, vi shi, .slice pA fp.length pC, vi fc, .slice sA fs.length sC]] w _
    go_enter Tryd.func29, Tryd.ntmps29
    go_wp2_with fail
    refine (CH.out _ (HF.out.to (by (repeat (first | exact Below.refl _ _ | refine Below.setCell ?_ (by first | omega | (simp; omega) | (simp; done)) _ | refine Below.alloc ?_ (by first | omega | (simp; omega) | (simp; done)) _ | refine Below.drew ?_ | refine below_drewN ?_ _ | refine Below.trans ?_ (Below.mono (by assumption) (by first | omega | (simp; omega) | (simp; done)))))))).mono ?_
    rintro e W ⟨rfl, hb⟩
    have HB0 : Below w.heap.size w W := by (repeat (first | exact Below.refl _ _ | refine Below.setCell ?_ (by first | omega | (simp; omega) | (simp; done)) _ | refine Below.alloc ?_ (by first | omega | (simp; omega) | (simp; done)) _ | refine Below.drew ?_ | refine below_drewN ?_ _ | refine Below.trans ?_ (Below.mono (by assumption) (by first | omega | (simp; omega) | (simp; done)))))
    clear hb
    go_wp2_with fail
    go_ret2
    exact ⟨rfl, HB0⟩
  · have CH := Lib.hid (fun (W : World) hW => rcheck_is hc W hW)
    have FE := Lib.hid (fun (W : World) hW => fewest_any2 f hv W hW)
    have h9 := (fine hv).slips9
    have hN := pow_512 h9
    have hN1 : 1 ≤ 2 ^ f.slips.length := Nat.two_pow_pos _
    have hall := all_fact ⟨f.slips.length, by omega⟩
    simp only at hall
    have HLF := Lib.hid (last_few f)
    have HLN : Hid ((PM.outG (aloneQ f) (2 ^ f.slips.length)).length = 2 ^ f.slips.length) := PM.out_len _ _
    have hy : 0 ≤ fewQ f (allF f) ∧ fewQ f (allF f) ≤ 99 := ⟨PM.few_nonneg _ _, PM.few_top _ _⟩
    have E : PickersV f = if 5 < max 1 (fewQ f (allF f)) then (0, 4) else (max 1 (fewQ f (allF f)), 0) := by unfold PickersV manyQ; rw [if_pos hc]
    obtain ⟨y, hyy⟩ : ∃ y, y = fewQ f (allF f) := ⟨_, rfl⟩
    rw [← hyy] at HLF hy E
    obtain ⟨O, hO⟩ : ∃ O, O = PM.outG (aloneQ f) (2 ^ f.slips.length) := ⟨_, rfl⟩
    rw [← hO] at FE HLF HLN
    obtain ⟨PV, hPV⟩ : ∃ PV, PV = PickersV f := ⟨_, rfl⟩
    rw [← hPV] at E ⊢
    have HE := Lib.hid E
    obtain ⟨N, hNN⟩ : ∃ N, N = 2 ^ f.slips.length := ⟨_, rfl⟩
    rw [← hNN] at HLF HLN hN hN1 hall
    clear h hc hv E hyy hO hPV hNN
    obtain ⟨fA, fC, ff, slo, shi, pA, pC, fp, fc, sA, sC, fs⟩ := f
    simp only at h9 hall
    show Calls Tryd.prog 29 #[.agg #[.slice fA ff.length fC, vi slo, vi shi, .slice pA fp.length pC, vi fc, .slice sA fs.length sC]] w _
    have hl0 : (0 : Int) ≤ fs.length := by omega
    have hl9 : (fs.length : Int) ≤ 9 := by omega
    have hb0 := below1 w (.cells #[.slice fA ff.length fC, vi slo, vi shi, .slice pA fp.length pC, vi fc, .slice sA fs.length sC] 28)
    have X0 := CellsBox.new w 28 [.slice fA ff.length fC, vi slo, vi shi, .slice pA fp.length pC, vi fc, .slice sA fs.length sC]
    go_enter Tryd.func29, Tryd.ntmps29
    go_wp2_with fail
    refine (CH.out _ (HF.out.to (by (repeat (first | exact Below.refl _ _ | refine Below.setCell ?_ (by first | omega | (simp; omega) | (simp; done)) _ | refine Below.alloc ?_ (by first | omega | (simp; omega) | (simp; done)) _ | refine Below.drew ?_ | refine below_drewN ?_ _ | refine Below.trans ?_ (Below.mono (by assumption) (by first | omega | (simp; omega) | (simp; done)))))))).mono ?_
    rintro e W1 ⟨rfl, hb⟩
    have HB1 : Below w.heap.size w W1 := by (repeat (first | exact Below.refl _ _ | refine Below.setCell ?_ (by first | omega | (simp; omega) | (simp; done)) _ | refine Below.alloc ?_ (by first | omega | (simp; omega) | (simp; done)) _ | refine Below.drew ?_ | refine below_drewN ?_ _ | refine Below.trans ?_ (Below.mono (by assumption) (by first | omega | (simp; omega) | (simp; done)))))
    have HX := Lib.hid (X0.keep hb)
    clear hb hb0 X0
    go_wp2_with fail
    refine' wp_region_box (fun w' => Below W1.heap.size W1 w') (fun a b h h' => gr_trans h h') [0, 2, 3, 4, 5, 6] 5 24 (by kernel_rfl) (by kernel_rfl) rfl (by kernel_rfl) (by kernel_rfl) rfl (by kernel_rfl) ?hl5 (Below.refl _ _) ?hq5 ?hr5
    case hl5 =>
      simp only [List.map_cons, List.map_nil, List.getD_cons_zero, List.getD_cons_succ]
      exact rfl
    case hq5 =>
      intro w0 K
      have XK := HX.out.keep K
      have f0 := XK.cell (j := 0) rfl
      have f1 := XK.cell (j := 1) rfl
      have f2 := XK.cell (j := 2) rfl
      have f3 := XK.cell (j := 3) rfl
      have f4 := XK.cell (j := 4) rfl
      have f5 := XK.cell (j := 5) rfl
      have zf := XK.lt
      (repeat (go_big_quiet_step (fail)))
      exact wpQuiet_nil rfl
    case hr5 =>
      refine wpUp_one (i := 1) (by kernel_rfl) rfl rfl (fun wa a1 a2 Ka hKa => ?_)
      go_simp
      refine (FE.out wa (HF.out.to (HB1.trans (a2.mono HB1.size)))).mono ?_
      rintro e w3 ⟨A, cap, rfl, hAt, hb3⟩
      have HAT := Lib.hid hAt
      have hln := HLN.out
      obtain ⟨bb, off, rfl, hbb, x0⟩ := ints_at hAt HLF.out
      clear hAt
      refine hKa _ _ (gr_trans a2 hb3) ?_
      have hi1 : ((N - 1 : Nat) : Int) < N := by omega
      have hi0 : (0 : Int) ≤ ((N - 1 : Nat) : Int) := by omega
      refine wpUp_one (i := 7) (by kernel_rfl) rfl rfl (fun wb b1 b2 Kb hKb => ?_)
      go_simp
      refine hKb _ _ b2 ?_
      refine wpUp_one (i := 8) (by kernel_rfl) rfl rfl (fun wc c1 c2 Kc hKc => ?_)
      have x0c := cell_keep (gr_trans b1 c1) x0
      have zc := cell_lt x0c
      go_simp
      refine hKc _ _ c2 ?_
      refine wpUp_one (i := 9) (by kernel_rfl) rfl rfl (fun wd d1 d2 Kd hKd => ?_)
      go_simp
      refine hKd _ _ d2 ?_
      refine wpUp_one (i := 10) (by kernel_rfl) rfl rfl (fun we e1 e2 Ke hKe => ?_)
      go_simp
      refine hKe _ _ e2 (wpUp_done (by kernel_rfl) (fun W8 g1 g2 => NoPanic.normal ?_))
      have HB8 : Below w.heap.size w W8 := HB1.trans (g2.mono HB1.size)
      clear hKa hKb hKc hKd hKe a1 a2 b1 b2 c1 c2 d1 d2 e1 e2 g1 g2 x0 x0c zc hb3 HAT hbb hi0 hi1
      obtain ⟨m, hm⟩ : ∃ m, m = (if 1 < y then y else 1) := ⟨_, rfl⟩
      have HM : Hid (PV = if 5 < m then (0, 4) else (m, 0)) := by
        have : max 1 y = m := by rw [hm]; split <;> omega
        unfold Hid
        rw [HE.out, this]
      rw [← hm]
      clear hm
      rcases hd : decide (5 < m) with _ | _
      · have E : Hid (PV = (m, 0)) := by unfold Hid; rw [HM.out, if_neg (by simpa using hd)]
        go_wp2_with fail
        go_ret2
        rw [E.out]
        exact ⟨rfl, HB8⟩
      · have E : Hid (PV = (0, 4)) := by unfold Hid; rw [HM.out, if_pos (by simpa using hd)]
        go_wp2_with fail
        go_ret2
        rw [E.out]
        exact ⟨rfl, HB8⟩
end Go.Proofs.YtomgnpfpaodpiaaDoor

/- Rosters as lists, on other slips, and of some slips alone: plain mathematics. -/
namespace Go.Proofs.YtomgnpfpaodpiaaDoor
open Go Go.RowKit
set_option maxHeartbeats 2000000
theorem PM.fit_rows {sec till : Nat → Int} : ∀ (p m : Nat), PM.Fit sec till p m ↔ ∃ rows : List (List Nat), rows.length = p ∧ (∀ r ∈ rows, PM.inT sec till 0 r) ∧ rows.flatten.Nodup ∧ ∀ s, s ∈ rows.flatten ↔ m.testBit s = true
  | 0, m => by
    constructor
    · intro h
      obtain rfl : m = 0 := h
      exact ⟨[], rfl, by simp, by simp, by simp⟩
    · rintro ⟨rows, h1, _, _, h4⟩
      obtain rfl := List.length_eq_zero_iff.1 h1
      show m = 0
      apply Nat.eq_of_testBit_eq
      intro i
      rw [Nat.zero_testBit]
      cases hb : m.testBit i with
      | false => rfl
      | true => have := (h4 i).2 hb; simp at this
  | p + 1, m => by
    constructor
    · rintro ⟨l, h1, h2, h3, h4⟩
      obtain ⟨rows, g1, g2, g3, g4⟩ := (PM.fit_rows p _).1 h4
      refine ⟨l :: rows, by simp [g1], fun r hr => ?_, ?_, fun s => ?_⟩
      · rcases List.mem_cons.1 hr with rfl | hr
        · exact h3
        · exact g2 r hr
      · rw [List.flatten_cons, List.nodup_append]
        refine ⟨h1, g3, fun a ha b hb hab => ?_⟩
        subst hab
        have := (g4 a).1 hb
        rw [PM.less_bit, PM.setF_bit] at this
        simp [ha] at this
      · rw [List.flatten_cons, List.mem_append, g4, PM.less_bit, PM.setF_bit]
        constructor
        · rintro (h | h)
          · exact h2 s h
          · rw [Bool.and_eq_true] at h; exact h.1
        · intro h
          by_cases hs : s ∈ l
          · exact .inl hs
          · exact .inr (by simp [h, hs])
    · rintro ⟨rows, h1, h2, h3, h4⟩
      obtain ⟨l, rows, rfl⟩ : ∃ l r, rows = l :: r := by
        cases rows with
        | nil => simp at h1
        | cons l r => exact ⟨l, r, rfl⟩
      rw [List.flatten_cons, List.nodup_append] at h3
      simp only [List.flatten_cons, List.mem_append] at h4
      refine ⟨l, h3.1, fun s hs => (h4 s).1 (.inl hs), h2 l (by simp), (PM.fit_rows p _).2 ⟨rows, by simpa using h1, fun r hr => h2 r (by simp [hr]), h3.2.1, fun s => ?_⟩⟩
      rw [PM.less_bit, PM.setF_bit]
      constructor
      · intro hs
        have h5 := (h4 s).1 (.inr hs)
        have h6 : s ∉ l := fun hl => h3.2.2 s hl s hs rfl
        simp [h5, h6]
      · intro h
        rw [Bool.and_eq_true] at h
        rcases (h4 s).2 h.1 with hl | hr
        · simp [hl] at h
        · exact hr
theorem PM.inT_image {sec till sec' till' : Nat → Int} {φ : Nat → Nat} : ∀ (l : List Nat) (t t' : Int), t ≤ t' → (∀ s ∈ l, sec (φ s) ≤ sec' s ∧ till' s ≤ till (φ s)) → PM.inT sec' till' t' l → PM.inT sec till t (l.map φ)
  | [], _, _, _, _, _ => trivial
  | s :: l, t, t', ht, h, k => by
    have h1 := h s (by simp)
    obtain ⟨k1, k2⟩ := k
    refine ⟨by omega, PM.inT_image l _ _ (by omega) (fun r hr => h r (by simp [hr])) k2⟩
theorem map_nodup {α β : Type} {φ : α → β} {l : List α} (h : l.Nodup) (k : ∀ a ∈ l, ∀ b ∈ l, φ a = φ b → a = b) : (l.map φ).Nodup := by
  rw [List.Nodup, List.pairwise_map]
  exact List.Pairwise.imp_of_mem (fun {a b} ha hb hab e => hab (k a ha b hb e)) h
/-- a roster of other slips, renumbered, quicker, and with later Untils -/
theorem PM.fit_image {sec till sec' till' : Nat → Int} {φ : Nat → Nat} {p m m' : Nat} (hi : ∀ s t, m'.testBit s = true → m'.testBit t = true → φ s = φ t → s = t) (hs : ∀ s, m'.testBit s = true → sec (φ s) ≤ sec' s ∧ till' s ≤ till (φ s)) (hm : ∀ t, m.testBit t = true ↔ ∃ s, m'.testBit s = true ∧ φ s = t) (h : PM.Fit sec' till' p m') : PM.Fit sec till p m := by
  obtain ⟨rows, g1, g2, g3, g4⟩ := (PM.fit_rows p m').1 h
  have ef : ∀ rows : List (List Nat), (rows.map (List.map φ)).flatten = rows.flatten.map φ := fun rows => by rw [List.map_flatten]
  refine (PM.fit_rows p m).2 ⟨rows.map (List.map φ), by simp [g1], fun r hr => ?_, ?_, fun t => ?_⟩
  · obtain ⟨r0, h0, rfl⟩ := List.mem_map.1 hr
    exact PM.inT_image r0 0 0 (Int.le_refl _) (fun s hs0 => hs s ((g4 s).1 (List.mem_flatten.2 ⟨r0, h0, hs0⟩))) (g2 r0 h0)
  · rw [ef]
    exact map_nodup g3 fun a ha b hb e => hi a b ((g4 a).1 ha) ((g4 b).1 hb) e
  · rw [ef, List.mem_map, hm]
    constructor
    · rintro ⟨s, h1, h2⟩; exact ⟨s, (g4 s).1 h1, h2⟩
    · rintro ⟨s, h1, h2⟩; exact ⟨s, (g4 s).2 h1, h2⟩
/-- some slips alone -/
theorem PM.fit_part {sec till : Nat → Int} (hs : ∀ s, 0 ≤ sec s) {p m m' : Nat} (hp : PM.Part m' m) (h : PM.Fit sec till p m) : PM.Fit sec till p m' := by
  obtain ⟨rows, g1, g2, g3, g4⟩ := (PM.fit_rows p m).1 h
  have ef : ∀ rows : List (List Nat), (rows.map (List.filter fun s => m'.testBit s)).flatten = rows.flatten.filter fun s => m'.testBit s := fun rows => by rw [List.filter_flatten]
  refine (PM.fit_rows p m').2 ⟨rows.map (List.filter fun s => m'.testBit s), by simp [g1], fun r hr => ?_, ?_, fun t => ?_⟩
  · obtain ⟨r0, h0, rfl⟩ := List.mem_map.1 hr
    exact PM.inT_sub hs List.filter_sublist 0 (g2 r0 h0)
  · rw [ef]
    exact g3.sublist List.filter_sublist
  · rw [ef, List.mem_filter, g4]
    exact ⟨fun h => h.2, fun h => ⟨hp t h, h⟩⟩
/-- how many are late: no more than of any others that do -/
theorem late_least {f : Floor} {p : Nat} {y : List Int} (h1 : y.Sublist (slipsF f)) (h2 : canLess f p y = true) : (lateF f p).length ≤ y.length := by
  have := (late_top (f := f) p).first y h1 h2
  cases hb : decide (y.length < (lateF f p).length) with
  | true =>
    exfalso
    unfold PM.prefB at this
    rw [hb] at this
    simp at this
  | false => simpa using hb
theorem less_late {f : Floor} {y : List Int} (i : Nat) : (lessF (allF f) (setF (y.map Int.toNat))).testBit i = true ↔ i < f.slips.length ∧ i ∉ y.map Int.toNat := by
  rw [PM.less_bit, all_bit, PM.setF_bit]
  simp
/-- an easier floor, of the same slips, or the first of them -/
structure Easier (f x : Floor) : Prop where
  vf : validB f = true
  vx : validB x = true
  len : x.slips.length ≤ f.slips.length
  sec : ∀ s, s < x.slips.length → secF x s ≤ secF f s
  due : ∀ s, s < x.slips.length → dueF f s ≤ dueF x s
theorem Easier.fit {f x : Floor} (h : Easier f x) {p m m' : Nat} (hm : ∀ t, m.testBit t = true ↔ t < x.slips.length ∧ m'.testBit t = true) (hf : PM.Fit (secF f) (dueF f) p m') : PM.Fit (secF x) (dueF x) p m := by
  have h1 : PM.Fit (secF f) (dueF f) p m := PM.fit_part (sec_nonneg h.vf) (fun t ht => ((hm t).1 ht).2) hf
  exact PM.fit_image (φ := id) (m' := m) (fun s t _ _ e => e) (fun s hs => ⟨h.sec s ((hm s).1 hs).1, h.due s ((hm s).1 hs).1⟩) (fun t => ⟨fun ht => ⟨t, ht, rfl⟩, fun ⟨s, hs, e⟩ => by cases e; exact hs⟩) h1
theorem Easier.can {f x : Floor} (h : Easier f x) {p : Nat} (hc : canF f p (allF f) = true) : canF x p (allF x) = true := by
  rw [can_fit h.vf p _ (all_in f)] at hc
  rw [can_fit h.vx p _ (all_in x)]
  refine h.fit (fun t => ?_) hc
  rw [all_bit, all_bit, decide_eq_true_eq, decide_eq_true_eq]
  have := h.len
  exact ⟨fun k => ⟨k, by omega⟩, fun k => k.1⟩
theorem can_up {f : Floor} (hv : validB f = true) {p q m : Nat} (hm : ∀ i, m.testBit i = true → i < f.slips.length) (hpq : p ≤ q) (h : canF f p m = true) : canF f q m = true := by
  rw [can_fit hv p m hm] at h
  rw [can_fit hv q m hm]
  exact PM.fit_le h hpq
/-- with an easier floor, and no fewer pickers, no more slips are late -/
theorem Easier.late {f x : Floor} (h : Easier f x) {p q : Nat} (hpq : p ≤ q) : (lateF x q).length ≤ (lateF f p).length := by
  obtain ⟨k1, k2, _⟩ := late_top (f := f) p
  have hy : ((lateF f p).filter fun n : Int => decide (n < (x.slips.length : Int))).Sublist (slipsF x) := by
    have h1 : ((lateF f p).filter fun n : Int => decide (n < (x.slips.length : Int))).Sublist ((slipsF f).filter fun n : Int => decide (n < (x.slips.length : Int))) := k1.filter _
    have h2 : (slipsF f).filter (fun n : Int => decide (n < (x.slips.length : Int))) = slipsF x := by
      refine lt_unique ((slips_lt f).sublist List.filter_sublist) (slips_lt x) fun n => ?_
      rw [List.mem_filter, slips_mem, slips_mem, decide_eq_true_eq]
      have := h.len
      omega
    rw [h2] at h1
    exact h1
  have hc : canLess x q ((lateF f p).filter fun n : Int => decide (n < (x.slips.length : Int))) = true := by
    have hin : ∀ i, (lessF (allF x) (setF (((lateF f p).filter fun n : Int => decide (n < (x.slips.length : Int))).map Int.toNat))).testBit i = true → i < x.slips.length := fun i hi => ((less_late i).1 hi).1
    unfold canLess at k2 ⊢
    refine can_up h.vx hin hpq ?_
    rw [can_fit h.vf p _ (fun i hi => ((less_late i).1 hi).1)] at k2
    rw [can_fit h.vx p _ hin]
    refine h.fit (fun t => ?_) k2
    rw [less_late, less_late]
    have hlen := h.len
    constructor
    · rintro ⟨a1, a2⟩
      refine ⟨a1, by omega, fun hm => a2 ?_⟩
      obtain ⟨n, hn, e⟩ := List.mem_map.1 hm
      have hn0 := (slips_mem f n).1 (k1.subset hn)
      exact List.mem_map.2 ⟨n, List.mem_filter.2 ⟨hn, by rw [decide_eq_true_eq]; omega⟩, e⟩
    · rintro ⟨a1, a2, a3⟩
      refine ⟨a1, fun hm => a3 ?_⟩
      obtain ⟨n, hn, e⟩ := List.mem_map.1 hm
      exact List.mem_map.2 ⟨n, (List.mem_filter.1 hn).1, e⟩
  have := late_least hy hc
  have := List.length_filter_le (fun n : Int => decide (n < (x.slips.length : Int))) (lateF f p)
  omega
theorem Easier.refl {f : Floor} (hv : validB f = true) : Easier f f := ⟨hv, hv, Nat.le_refl _, fun _ _ => Int.le_refl _, fun _ _ => Int.le_refl _⟩
/-- and no more pickers are needed -/
theorem Easier.few {f x : Floor} (h : Easier f x) : fewF f = none ∨ ∃ p q, fewF f = some p ∧ fewF x = some q ∧ q ≤ p := by
  cases hf : fewF f with
  | none => exact .inl rfl
  | some p =>
    right
    obtain ⟨p1, p5, hc⟩ := few_can hf
    have hx := h.can hc
    cases hq : fewF x with
    | none =>
      have := few_no hq p p1 p5
      rw [hx] at this; cases this
    | some q =>
      refine ⟨p, q, rfl, rfl, ?_⟩
      apply Classical.byContradiction
      intro hn
      have := few_below hq p p1 (by omega)
      rw [hx] at this; cases this
/-- how many steps a slip takes, of the distances -/
theorem steps_dist {f : Floor} (hv : validB f = true) {k : Nat} {s : SSlip} (hs : f.slips[k]? = some s) : 1 ≤ f.carry.toNat ∧ stepsF f s = PM.stD f.carry.toNat (distF f s.lines).length (distF f s.lines) ∧ (distF f s.lines).Pairwise (· ≥ ·) ∧ ∀ d ∈ distF f s.lines, 0 ≤ d ∧ d ≤ (500 : Nat) := by
  have hf := fine hv
  obtain ⟨h1, h2, h3, h4⟩ := slip_lines hv hs
  obtain ⟨c, hc⟩ : ∃ c : Nat, f.carry = c := ⟨f.carry.toNat, by have := hf.carry1; omega⟩
  have hc1 : 1 ≤ c := by have := hf.carry1; omega
  refine ⟨by omega, ?_, dist_sorted f _ (far_sorted hv h1), fun d hd => ?_⟩
  · rw [← steps_same hv hs, rstepsF, state_fold, hc, Int.toNat_natCast]
    have e1 := fold_st hc1 (distF f s.lines) 0 0
    rw [List.drop_zero, Int.zero_add] at e1
    exact e1
  · obtain ⟨x, hx, rfl⟩ := dist_mem f _ d hd
    exact fk_range hv x.shelf.toNat
theorem get_app_le {a b a' b' : List Int} (hl : a.length = a'.length) (h1 : ∀ (i : Nat) (x y : Int), a[i]? = some x → a'[i]? = some y → x ≤ y) (h2 : ∀ (i : Nat) (x y : Int), b[i]? = some x → b'[i]? = some y → x ≤ y) : ∀ (i : Nat) (x y : Int), (a ++ b)[i]? = some x → (a' ++ b')[i]? = some y → x ≤ y := fun i x y hx hy => by
  by_cases hi : i < a.length
  · rw [List.getElem?_append_left hi] at hx
    rw [List.getElem?_append_left (by omega)] at hy
    exact h1 i x y hx hy
  · rw [List.getElem?_append_right (by omega)] at hx
    rw [List.getElem?_append_right (by omega)] at hy
    rw [← hl] at hy
    exact h2 _ x y hx hy
theorem dist_near {f x : Floor} : ∀ (l : List SLine), (∀ y ∈ l, farF x y ≤ farF f y) → (distF x l).length = (distF f l).length ∧ ∀ (i : Nat) (a b : Int), (distF x l)[i]? = some a → (distF f l)[i]? = some b → a ≤ b
  | [], _ => ⟨rfl, fun i a b h => by simp [distF] at h⟩
  | y :: l, h => by
    obtain ⟨i1, i2⟩ := dist_near l fun z hz => h z (by simp [hz])
    rw [distF, distF]
    refine ⟨by simp [i1], get_app_le i1 i2 fun i a b ha hb => ?_⟩
    rw [List.getElem?_replicate] at ha hb
    have := h y (by simp)
    split at ha <;> split at hb <;> simp at ha hb <;> omega
/-- nearer shelves, a greater Carry: no more steps -/
theorem steps_easier {f x : Floor} (hv : validB f = true) (hx : validB x = true) {k : Nat} {s s' : SSlip} (hs : f.slips[k]? = some s) (hs' : x.slips[k]? = some s') (hl : s'.lines = s.lines) (hc : f.carry ≤ x.carry) (hfar : ∀ y ∈ s.lines, farF x y ≤ farF f y) : stepsF x s' ≤ stepsF f s := by
  obtain ⟨a1, a2, a3, a4⟩ := steps_dist hv hs
  obtain ⟨b1, b2, b3, b4⟩ := steps_dist hx hs'
  rw [a2, b2, hl]
  obtain ⟨d1, d2⟩ := dist_near s.lines hfar
  rw [d1]
  have h1 := PM.st_near (C := x.carry.toNat) (distF f s.lines).length (distF x s.lines) (distF f s.lines) d1 d2
  have h2 := PM.st_carry a1 (show f.carry.toNat ≤ x.carry.toNat by omega) 500 (distF f s.lines).length (distF f s.lines) (Nat.le_refl _) a3 a4
  omega
theorem secs_easier {f x : Floor} (l : List SLine) {st st' : Int} (hst : 0 ≤ st' ∧ st' ≤ st) (hi : x.shi ≤ f.shi) (h0 : 0 ≤ f.shi) (hm : ∀ y ∈ l, 0 ≤ y.many) (hp : ∀ y ∈ l, ((x.picks[y.shelf.toNat]?).getD (0, 0)).2 ≤ ((f.picks[y.shelf.toNat]?).getD (0, 0)).2) : ∀ k : Nat, secsKHi x l st' k ≤ secsKHi f l st k
  | 0 => by
    show st' * x.shi ≤ st * f.shi
    have h1 : st' * x.shi ≤ st' * f.shi := Int.mul_le_mul_of_nonneg_left hi hst.1
    have h2 : st' * f.shi ≤ st * f.shi := Int.mul_le_mul_of_nonneg_right hst.2 h0
    omega
  | k + 1 => by
    have ih := secs_easier l hst hi h0 hm hp k
    rw [secsKHi, secsKHi]
    cases hk : l[k]? with
    | none => simp only; omega
    | some y =>
      have hy := List.mem_of_getElem? hk
      have := Int.mul_le_mul_of_nonneg_left (hp y hy) (hm y hy)
      simp only
      omega
/-- all of it: no slip takes longer -/
theorem takes_easier {f x : Floor} (hv : validB f = true) (hx : validB x = true) {k : Nat} {s s' : SSlip} (hs : f.slips[k]? = some s) (hs' : x.slips[k]? = some s') (hl : s'.lines = s.lines) (hc : f.carry ≤ x.carry) (hfar : ∀ y ∈ s.lines, farF x y ≤ farF f y) (hi : x.shi ≤ f.shi) (hp : ∀ y ∈ s.lines, ((x.picks[y.shelf.toNat]?).getD (0, 0)).2 ≤ ((f.picks[y.shelf.toNat]?).getD (0, 0)).2) : (takesF x s').2 ≤ (takesF f s).2 := by
  have h1 := steps_easier hv hx hs hs' hl hc hfar
  have h2 := stepsF_range (fine hx) (List.mem_of_getElem? hs')
  obtain ⟨_, h3, _⟩ := slip_lines hv hs
  have h4 := (valid_parts hv).2.2.2.1
  show secsKHi x s'.lines _ s'.lines.length ≤ secsKHi f s.lines _ s.lines.length
  rw [hl]
  exact secs_easier s.lines ⟨h2.1, h1⟩ hi (by omega) (fun y hy => by have := (h3 y hy).2.1; omega) hp _
theorem secF_at {f : Floor} {k : Nat} {s : SSlip} (hs : f.slips[k]? = some s) : secF f k = (takesF f s).2 := by
  unfold secF secsL
  rw [List.getElem?_map, hs]
  rfl
theorem dueF_at {f : Floor} {k : Nat} {s : SSlip} (hs : f.slips[k]? = some s) : dueF f k = s.till := by
  rw [← till_due, tillQ_at hs]
end Go.Proofs.YtomgnpfpaodpiaaDoor

/- The law SlipRosters holds of every floor and roster. -/
namespace Go.Proofs.YtomgnpfpaodpiaaDoor
open Go Go.RowKit
set_option maxHeartbeats 8000000
theorem roster_pick (f : Floor) : (∃ c : Int, c ≠ 0 ∧ RosterV f = ([], c) ∧ PickersV f = (0, c)) ∨ ∃ p : Nat, validB f = true ∧ fewF f = some p ∧ RosterV f = (rosterF f p (allF f), 0) ∧ PickersV f = ((p : Int), 0) := by
  rcases check_two f with ⟨hc, hv⟩ | ⟨hc, hv⟩
  · left
    refine ⟨30, by omega, ?_, ?_⟩
    · unfold RosterV; rw [if_neg (by omega), hc]
    · unfold PickersV; rw [if_neg (by omega), hc]
  · rcases many_is hv with ⟨h1, h2⟩ | ⟨p, h1, h2, h3, h4⟩
    · left
      refine ⟨4, by omega, ?_, ?_⟩
      · unfold RosterV; rw [if_pos hc, h1]
      · unfold PickersV; rw [if_pos hc, if_pos h2]
    · right
      refine ⟨p, hv, h1, ?_, ?_⟩
      · unfold RosterV; rw [if_pos hc, h1]
      · unfold PickersV; rw [if_pos hc, if_neg (by omega), h2]
set_option maxRecDepth 100000 in
theorem slipRosters_any (f : Floor) (hf : f.slips.length ≤ 4398046511104) (A : Option Addr) (cap : Nat) (ts : List SRow) (w : World) (hl : Lim w) (h : FloorAt w w.heap.size f) (ht : RosterAt w w.heap.size A cap ts) :
    Calls Tryd.prog 4 #[f.val, .slice A ts.length cap] w fun e w' => e = .returned (.bool true) ∧ Below w.heap.size w w' := by
  have HL := Lib.hid hl
  have HF := Lib.hid h
  have HT := Lib.hid ht
  obtain ⟨D, hD⟩ : ∃ D, DoneV f ts = D := ⟨_, rfl⟩
  have C1 : Hid (∀ W : World, Lim W → FloorAt W W.heap.size f → RosterAt W W.heap.size A cap ts → Calls Tryd.prog 25 #[f.val, .slice A ts.length cap] W fun e w' => ∃ R, e = .returned (.tuple #[.slice R D.1.length D.1.length, vi D.2]) ∧ RowsAt w' w'.heap.size 2 R D.1.length (D.1.map spanC) ∧ Below W.heap.size W w') := fun W h1 h2 h3 => by rw [← hD]; exact Done_any f A cap ts W h1 h2 h3
  have C2 : Hid (∀ W : World, FloorAt W W.heap.size f → RosterAt W W.heap.size A cap ts → Calls Tryd.prog 26 #[f.val, .slice A ts.length cap] W fun e w' => ∃ R, e = .returned (.tuple #[.slice R D.1.length D.1.length, vi D.2]) ∧ RowsAt w' w'.heap.size 2 R D.1.length (D.1.map spanC) ∧ Below W.heap.size W w') := fun W h2 h3 => by rw [← hD]; exact rDone_any f hf A cap ts W h2 h3
  obtain ⟨D, dc⟩ := D
  simp only at C1 C2
  have C5 : Hid (∀ (W : World) (P Q : Option Addr) , RowsAt W W.heap.size 2 P D.length (D.map spanC) → RowsAt W W.heap.size 2 Q D.length (D.map spanC) → Calls Tryd.prog 27 #[.slice P D.length D.length, .slice Q D.length D.length] W fun e w' => e = .returned (.bool true) ∧ Below W.heap.size W w') := fun W P Q h1 h2 => by
    have := matchSpans_free P Q D.length D.length D D W h1 h2
    simpa using this
  have HRP := Lib.hid (roster_pick f)
  have C3 := Lib.hid (fun (W : World) h1 h2 => Roster_any f W h1 h2)
  have C4 := Lib.hid (fun (W : World) h2 => Pickers_any f W h2)
  have C6 := Lib.hid (fun (W : World) (B : Option Addr) (us : List SRow) h2 h3 => rDone_any f hf B us.length us W h2 h3)
  have HTOLD := Lib.hid (fun (hv : validB f = true) (p : Nat) (hp : fewF f = some p) (us : List SRow) (hu : us.map SRow.slips = (rosterF f p (allF f)).map natsC) => roster_told hv hp hu)
  have HCV : Hid (validB f = true → checkV f = 0) := fun hv => by unfold checkV; rw [if_pos hv]
  have HDUE : Hid (∀ (k : Nat) (s : SSlip), f.slips[k]? = some s → dueF f k = s.till) := fun k s hs => dueF_at hs
  clear hl h ht hD
  have X0 := CellsBox.new w 28 f.cells
  have hb0 : Below w.heap.size w (w.alloc (.cells f.cells.toArray 28)) := below1 _ _
  obtain ⟨V, hV⟩ : ∃ V, V = w.alloc (.cells f.cells.toArray 28) := ⟨_, rfl⟩
  rw [← hV] at X0 hb0
  have HX := Lib.hid X0
  (have a0 := X0.cell (j := 0) rfl; have a1 := X0.cell (j := 1) rfl; have a2 := X0.cell (j := 2) rfl; have a3 := X0.cell (j := 3) rfl; have a4 := X0.cell (j := 4) rfl; have a5 := X0.cell (j := 5) rfl; have za := X0.lt)
  clear X0
  show Calls Tryd.prog 4 #[.agg #[.slice f.fA f.far.length f.fC, vi f.slo, vi f.shi, .slice f.pA f.picks.length f.pC, vi f.carry, .slice f.sA f.slips.length f.sC], .slice A ts.length cap] w _
  go_enter Tryd.func4, Tryd.ntmps4
  have HB := hb0
  go_wp2_with fail
  rw [← show V = w.alloc (.cells #[.slice f.fA f.far.length f.fC, vi f.slo, vi f.shi, .slice f.pA f.picks.length f.pC, vi f.carry, .slice f.sA f.slips.length f.sC] 28) from hV]
  clear hV
  refine (C1.out _ (HL.out.next HB) (HF.out.to HB) (HT.out.to HB)).mono ?_
  rintro e W1 ⟨R1, rfl, hR1, hb⟩
  have HR1 := Lib.hid hR1
  clear hR1
  (replace HX := Lib.hid (HX.out.keep hb); replace HB : Below w.heap.size w W1 := HB.trans (hb.mono HB.size); clear hb a0 a1 a2 a3 a4 a5 za; (have a0 := HX.out.cell (j := 0) rfl; have a1 := HX.out.cell (j := 1) rfl; have a2 := HX.out.cell (j := 2) rfl; have a3 := HX.out.cell (j := 3) rfl; have a4 := HX.out.cell (j := 4) rfl; have a5 := HX.out.cell (j := 5) rfl; have za := HX.out.lt))
  go_wp2_with fail
  refine (C2.out _ (HF.out.to HB) (HT.out.to HB)).mono ?_
  rintro e W2 ⟨R2, rfl, hR2, hb⟩
  replace HR1 := Lib.hid (HR1.out.to hb)
  have HR2 := Lib.hid hR2
  clear hR2
  (replace HX := Lib.hid (HX.out.keep hb); replace HB : Below w.heap.size w W2 := HB.trans (hb.mono HB.size); clear hb a0 a1 a2 a3 a4 a5 za; (have a0 := HX.out.cell (j := 0) rfl; have a1 := HX.out.cell (j := 1) rfl; have a2 := HX.out.cell (j := 2) rfl; have a3 := HX.out.cell (j := 3) rfl; have a4 := HX.out.cell (j := 4) rfl; have a5 := HX.out.cell (j := 5) rfl; have za := HX.out.lt))
  go_wp2_with fail
  refine (C5.out _ _ _ HR1.out HR2.out).mono ?_
  rintro e W3 ⟨rfl, hb⟩
  clear HR1 HR2
  (replace HX := Lib.hid (HX.out.keep hb); replace HB : Below w.heap.size w W3 := HB.trans (hb.mono HB.size); clear hb a0 a1 a2 a3 a4 a5 za; (have a0 := HX.out.cell (j := 0) rfl; have a1 := HX.out.cell (j := 1) rfl; have a2 := HX.out.cell (j := 2) rfl; have a3 := HX.out.cell (j := 3) rfl; have a4 := HX.out.cell (j := 4) rfl; have a5 := HX.out.cell (j := 5) rfl; have za := HX.out.lt))
  go_wp2_with fail
  refine (C3.out _ (HL.out.next HB) (HF.out.to HB)).mono ?_
  rintro e W4 ⟨B, us, rfl, hU, hus, hb⟩
  have HU := Lib.hid hU
  have HUS := Lib.hid hus
  clear hU hus
  (replace HX := Lib.hid (HX.out.keep hb); replace HB : Below w.heap.size w W4 := HB.trans (hb.mono HB.size); clear hb a0 a1 a2 a3 a4 a5 za; (have a0 := HX.out.cell (j := 0) rfl; have a1 := HX.out.cell (j := 1) rfl; have a2 := HX.out.cell (j := 2) rfl; have a3 := HX.out.cell (j := 3) rfl; have a4 := HX.out.cell (j := 4) rfl; have a5 := HX.out.cell (j := 5) rfl; have za := HX.out.lt))
  go_wp2_with fail
  refine (C4.out _ (HF.out.to HB)).mono ?_
  rintro e W5 ⟨rfl, hb⟩
  replace HU := Lib.hid (HU.out.to hb)
  (replace HX := Lib.hid (HX.out.keep hb); replace HB : Below w.heap.size w W5 := HB.trans (hb.mono HB.size); clear hb a0 a1 a2 a3 a4 a5 za; (have a0 := HX.out.cell (j := 0) rfl; have a1 := HX.out.cell (j := 1) rfl; have a2 := HX.out.cell (j := 2) rfl; have a3 := HX.out.cell (j := 3) rfl; have a4 := HX.out.cell (j := 4) rfl; have a5 := HX.out.cell (j := 5) rfl; have za := HX.out.lt))
  rcases HRP.out with ⟨c, hc0, hr, hp⟩ | ⟨p, hv, hfw, hr, hp⟩
  · rw [hr] at HUS ⊢
    rw [hp]
    have hus : us = [] := by have := HUS.out; simpa using this
    subst hus
    have hne : (c != 0) = true := by simpa using hc0
    have hnl : (([] : List SRow).length : Int) = 0 := rfl
    clear hc0 hr hp HRP
    go_wp2_with fail
    refine (works_any _ (HL.out.next HB)).mono ?_
    rintro e W ⟨rfl, hb⟩
    (replace HB : Below w.heap.size w W := HB.trans (hb.mono HB.size); clear hb)
    go_wp2_with fail
    go_ret
    exact ⟨rfl, HB⟩
  · rw [hr] at HUS ⊢
    rw [hp]
    obtain ⟨g1, g2, g3, g4⟩ := HTOLD.out hv p hfw us HUS.out
    have E6 : Hid (DoneV f us = (doneF f (us.map SRow.slips), 0)) := by unfold Hid DoneV; rw [if_pos (HCV.out hv), if_pos g1]
    obtain ⟨Q, hQ⟩ : ∃ Q, Q = doneF f (us.map SRow.slips) := ⟨_, rfl⟩
    rw [← hQ] at E6 g3 g4
    have G4 := Lib.hid g4
    have h9 : f.slips.length ≤ 9 := (fine hv).slips9
    have hup : ((us.length : Int) != (p : Int)) = false := by rw [g2]; simp
    clear hr hp hfw HRP g1 g4 hQ HTOLD hv g2
    go_wp2_with fail
    refine (C6.out _ B us (HF.out.to HB) HU.out).mono ?_
    rintro e W6 ⟨R6, rfl, hR6, hb⟩
    rw [E6.out] at hR6 ⊢
    simp only at hR6
    have HR6 := Lib.hid hR6
    have hQl := hR6.lens
    clear hR6 E6
    (replace HX := Lib.hid (HX.out.keep hb); replace HB : Below w.heap.size w W6 := HB.trans (hb.mono HB.size); clear hb a0 a1 a2 a3 a4 a5 za; (have a0 := HX.out.cell (j := 0) rfl; have a1 := HX.out.cell (j := 1) rfl; have a2 := HX.out.cell (j := 2) rfl; have a3 := HX.out.cell (j := 3) rfl; have a4 := HX.out.cell (j := 4) rfl; have a5 := HX.out.cell (j := 5) rfl; have za := HX.out.lt))
    simp only
    go_wp2_with fail
    obtain ⟨wo, rfl⟩ : ∃ wo : World, wo = W6 := ⟨_, rfl⟩
    clear a0 a1 a2 a3 a4 a5 za
    go_loopw [11] (fun i wr => ∃ k : Nat, k ≤ Q.length ∧ i = .int .i64 k ∧ Below wo.heap.size wo wr) (fun i _ => Q.length - (intOf i).toNat)
    case atStart => exact ⟨0, Nat.zero_le _, rfl, Below.refl _ _⟩
    obtain ⟨k, hk, rfl, hB⟩ := hrel
    have HBr : Below w.heap.size w wr := HB.trans (hB.mono HB.size)
    have XR := HX.out.keep hB
    (have a0 := XR.cell (j := 0) rfl; have a1 := XR.cell (j := 1) rfl; have a2 := XR.cell (j := 2) rfl; have a3 := XR.cell (j := 3) rfl; have a4 := XR.cell (j := 4) rfl; have a5 := XR.cell (j := 5) rfl; have za := XR.lt)
    clear XR
    by_cases hlt : k < Q.length
    · obtain ⟨d, hd⟩ : ∃ d, Q[k]? = some d := ⟨_, List.getElem?_eq_getElem hlt⟩
      obtain ⟨s, hs⟩ : ∃ s, f.slips[k]? = some s := ⟨_, List.getElem?_eq_getElem (by omega)⟩
      obtain ⟨bq, oq, rfl, hbq, d0, d1⟩ := row2 (HR6.out.to hB).row hd rfl
      obtain ⟨bs, os, hsA, hbs, s0, s1⟩ := row2 (HF.out.slips.to HBr).row hs rfl
      have hle : d.2 ≤ s.till := by rw [← HDUE.out k s hs]; exact G4.out k d hd
      have hgt : decide (s.till < d.2) = false := by simp; omega
      have hkQ : (k : Int) < Q.length := by omega
      have hkS : (k : Int) < f.slips.length := by omega
      have h0k : (0 : Int) ≤ k := by omega
      have zbq : bq < wr.heap.size := hbq
      have zbs : bs < wr.heap.size := hbs
      rw [hsA] at a5
      clear hd hs hle hsA
      obtain ⟨sa, sc, sl, st⟩ := s
      obtain ⟨da, db⟩ := d
      simp only at s0 s1 d0 d1 hgt
      go_wp2_with fail
      go_quiet (fail)
      go_wp2_with fail
      go_roundw
      case rel => exact ⟨k + 1, by omega, by go_num, below_drewN hB _⟩
      case measure => simp [intOf]; omega
    · obtain rfl : k = Q.length := by omega
      clear hlt
      go_wp2_with fail
      refine (works_any _ (HL.out.next HBr)).mono ?_
      rintro e W ⟨rfl, hb⟩
      have HBW : Below w.heap.size w W := HBr.trans (hb.mono HBr.size)
      clear hb
      go_wp2_with fail
      go_ret
      exact ⟨rfl, HBW⟩
end Go.Proofs.YtomgnpfpaodpiaaDoor

