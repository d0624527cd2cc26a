/- Contract of steps. -/
import Derived.Test.YtomgnpfpaodpiaaDoorH14
import Derived.Test.YtomgnpfpaodpiaaDoorH06
import Derived.Stop.RegionWithIn
set_option linter.unusedVariables false
set_option linter.unusedSimpArgs false
namespace Go.Proofs.YtomgnpfpaodpiaaDoor
open Go Go.RowKit Go.Shelf
set_option maxHeartbeats 2000000
attribute [local go_sem] Oper.semAt_some
theorem ownE_boxed {β : Type} {te t : TypeId} {B L : Nat} (hL : L < B) (g : β → Value) : OwnE te B (fun s W => Boxed W L t (g s)) := fun s X Y row hs hg hr =>
  (hg.block L hs.lt fun e => by have := (hr L e.symm).1; omega).trans hs
theorem wrapI {n : Int} (h0 : -9223372036854775808 ≤ n) (h1 : n ≤ 9223372036854775807) : IntKind.wrap .i64 n = n := IntWalk.i64_in n ⟨h0, h1⟩
theorem ownFrom_spareE {te : TypeId} {n₀ B L : Nat} {w₀ X Y : World} {row : Option Nat} (hn : n₀ ≤ w₀.heap.size) (hB : w₀.heap.size ≤ B) (hs : Spare n₀ L w₀ X) (hg : X.grownBy Y row) (hr : ∀ r, row = some r → B ≤ r ∧ ∃ o : Obj, X.heap[r]? = some o ∧ NotRow te o) : Spare n₀ L w₀ Y := by
  refine hs.trans ⟨hg.os, hg.tape, hg.output, hg.size, fun k hk _ => ?_⟩
  exact hg.block k (by have := hs.size; omega) fun e => by have := (hr k e.symm).1; omega
theorem ownE_ke {β : Type} {tp te : TypeId} {n₀ L B : Nat} {w₀ : World} (hn : n₀ ≤ w₀.heap.size) (hB : w₀.heap.size ≤ B) : OwnE tp B (fun (_ : β) W => KE te n₀ L w₀ W) := by
  intro s X Y row hs hg hr
  refine ⟨ownFrom_spareE hn hB hs.spare hg hr, fun k c t hl ht hk => ?_⟩
  have hX := hs.boxes k c t hl ht hk
  refine (hg.block k (Array.getElem?_eq_some_iff.1 hX).1 fun e => ?_).trans hX
  have := (hr k e.symm).1
  have := (Array.getElem?_eq_some_iff.1 hk).1
  omega
theorem ke_set {e : TypeId} {n₀ L : Nat} {a b : World} (h : KE e n₀ L a b) (k : Nat) (v : Value) : KE e n₀ L a (b.setCell ⟨L, k, none⟩ v) :=
  h.trans ⟨⟨rfl, rfl, rfl, by simp, fun i _ hl => heap_setCell_other b _ i v hl⟩, fun i c t hl _ hk => (heap_setCell_other b _ i v hl).trans hk⟩
set_option maxRecDepth 100000 in
theorem steps_any (f : Floor) (hf : Fine f) (m : Nat) (s : SSlip) (hs : f.slips[m]? = some s) (w : World) (h : FloorAt w w.heap.size f) :
    Calls Tryd.prog 59 #[f.val, vi m] w fun e w' => e = .returned (vi (stepsF f s)) ∧ Below w.heap.size w w' := by
  obtain ⟨i0, hi, hy0, hy1, hy2⟩ := info_parts info_int
  obtain ⟨c, hc⟩ : ∃ c : Nat, f.carry = c := ⟨f.carry.toNat, by have := hf.carry1; omega⟩
  have hc1 := hf.carry1
  have hc2 := hf.carry20
  obtain ⟨_, _, hsl⟩ := hf.slips s (List.mem_of_getElem? hs)
  obtain ⟨ho, hsum, hs0, hs1⟩ := pieces_only hf.far12 hsl
  obtain ⟨hok, htw⟩ := lines_good (by have := hf.far12; omega) hsl
  have hlen := loadsOf_len hf (List.mem_of_getElem? hs)
  have HF := Lib.hid h
  obtain ⟨all, hall⟩ : ∃ all, loadsOf f s = all := ⟨_, rfl⟩
  have HALL : Hid (loadsF c (piecesF s.lines).sum.toNat (piecesF s.lines) = all) := by
    have e : f.carry.toNat = c := by omega
    unfold Hid
    rw [← hall, loadsOf, e]
  rw [hall] at hlen
  have HC := Lib.hid hc
  have HC1 : Hid (1 ≤ c ∧ c ≤ 20) := ⟨by omega, by omega⟩
  rw [show stepsF f s = stepsL f all from by rw [stepsF, hall]]
  have HSL := Lib.hid hsl
  have HTW := Lib.hid htw
  have HOK := Lib.hid hok
  have HO := Lib.hid ho
  have HFN := Lib.hid hf
  clear hc hc1 hc2 hsl ho hsum hs0 hs1 hok htw hall h hf
  refine (callsIn_wide (n := 12)).1 ?_
  refine callsIn_of_wp_marks Tryd.func59 rfl trivial ?_ rfl
  simp only [Tryd.ntmps59, List.size_toArray, List.length_cons, List.length_nil, Nat.reduceAdd, Nat.reduceSub, Array.replicate_succ, Array.replicate_zero, List.push_toArray, List.append_toArray, List.nil_append, List.cons_append]
  gi_wp2_with fail
  refine ⟨trivial, ?_⟩
  refine (callsIn_wide.2 (loads_any f m _)).mono ?_
  rintro e w2 ⟨bF, bn, rfl, ⟨y1, y2⟩, hAt, hb2⟩
  have hz2 := hb2.size
  simp only [World.size_alloc] at hz2 y1 y2
  have bL : Boxed w2 (w.heap.size + 1) 3 (vi 0) := by
    refine (hb2.block (w.heap.size + 1) (by simp)).trans ?_
    have := Boxed.new (w.alloc (.cells #[.slice f.fA f.far.length f.fC, vi f.slo, vi f.shi, .slice f.pA f.picks.length f.pC, vi f.carry, .slice f.sA f.slips.length f.sC] 89)) 3 (vi 0)
    simp only [World.size_alloc] at this
    exact this
  have bG : CellsBox w2 w.heap.size 89 f.cells := by
    refine (hb2.block w.heap.size (by simp; omega)).trans ?_
    exact (CellsBox.new w 89 f.cells).alloc _
  have hB2 : Below w.heap.size w w2 := by (repeat (first | exact Below.refl _ _ | refine Below.setCell ?_ (by first | omega | (simp; omega) | (simp; done)) _ | refine Below.alloc ?_ (by first | omega | (simp; omega) | (simp; done)) _ | refine Below.drew ?_ | refine below_drewN ?_ _ | refine Below.trans ?_ (Below.mono (by assumption) (by first | omega | (simp; omega) | (simp; done)))))
  clear hb2
  gi_wp2_with fail
  refine range_outerE rfl (by omega) (gf := 94) (lb := #[.pointer (some ⟨bF, 0, none⟩), .pointer (some ⟨bn, 0, none⟩)]) rfl trivial (enters_of Tryd.func94 (by kernel_rfl) rfl)
    (loads_seq f c m HC.out HC1.out.1 HC1.out.2 s hs HOK.out HTW.out HO.out _ (Int.self_le_toNat _) all HALL.out 50 (by decide) (by decide) (by decide) _ (by omega) bF bn w.heap.size (w.heap.size + 1) w2 (by omega) (by omega) bL.lt (by omega) (by omega) hAt (HF.out.below hB2))
    (fun h k => KE.trans h k) (fun W l o o' hl h h1 _ => KE.turn _ W l o o' hl h h1) (Below.refl _ _) (fun _ => rfl)
    (fun pre W => Boxed W (w.heap.size + 1) 3 (vi (stepsL f (Loads pre))) ∧ KE 50 w2.heap.size (w.heap.size + 1) w2 W)
    (OwnE.and (ownE_boxed bL.lt (fun pre => vi (stepsL f (Loads pre)))) (ownE_ke (Nat.le_refl _) (Nat.le_refl _)))
    ⟨bL, KE.refl _ _ _ _⟩
    (fun x a' W => ∃ Bx, w2.heap.size ≤ Bx ∧ CellsBox W Bx 102 (x.1.map vi) ∧ a' = { tmps := #[f.val, vi m, .pointer (some ⟨w.heap.size, 0, none⟩), undef, vi 0, .pointer (some ⟨w.heap.size + 1, 0, none⟩), .pointer (some ⟨Bx, 0, none⟩), undef, undef, undef, f.val, vi m, loadsV bF bn, piecesV x.1, undef, undef, undef, undef, undef, undef, undef, undef, undef, undef, undef, undef, undef, undef, undef, undef, undef, undef, undef, undef, undef, undef, undef, undef], defers := [] })
    (fun x a' _ X Y row hs hg hr => by obtain ⟨Bx, h1, h2, h3⟩ := hs; exact ⟨Bx, h1, (hg.block Bx h2.lt fun e => by obtain ⟨_, o, ho, hc⟩ := hr Bx e.symm; rw [show X.heap[Bx]? = _ from h2] at ho; cases ho; cases hc).trans h2, h3⟩)
    ?assign ?body ?done
  case assign =>
    rintro l pre ⟨x, hx, hon⟩ W K ⟨hv, hS⟩ hK
    have hs9 := hS.size
    have hxl := hx.len
    obtain ⟨r0, r1, r2, r3, r4, r5, r6, r7, r8, r9, r10, r11, rfl⟩ := spread hxl
    gi_wp2_with fail
    have hb : ∀ o, Below W.heap.size W (W.alloc o) := fun o => (Below.refl W.heap.size W).alloc (Nat.le_refl _) o
    exact hK _ _ (keeps_of_below (hb _) _) (ke_of_below (hb _) (by omega)) ⟨boxed_below hv (hb _), hS.trans (ke_of_below (hb _) (by omega))⟩ ⟨W.heap.size, by omega, CellsBox.new W _ [vi r0, vi r1, vi r2, vi r3, vi r4, vi r5, vi r6, vi r7, vi r8, vi r9, vi r10, vi r11], rfl⟩
  case body =>
    rintro l pre ⟨x, hx, hon⟩ a' W hl ⟨rr, hrr⟩ ⟨hv, hS⟩ ⟨Bx, hBx, hbx, rfl⟩ hlt
    have hs9 := hS.size
    have hG := hS.box (B := w.heap.size) (by omega) (by decide) bG
    have g0 := hG.cell (j := 0) rfl
    have dL := hv.cell
    have zG := hG.lt
    have zL := hv.lt
    have hBW : Below w.heap.size w W := hB2.trans (hS.spare.below (by omega) (by omega))
    have HFW := Lib.hid (HF.out.to hBW)
    have hxl := hx.len
    have HLA := Lib.hid (fun (l : SLine) (hl : l ∈ linesOf x) => lines_at (f := f) hon hl)
    have hRl := lines_small hxl
    have HFR := Lib.hid (fars_range HFN.out hon)
    have HRX : Hid (longF f x = 2 * greatestF 0 (farsF f x)) := rfl
    have HPR : Hid (∀ q ∈ Loads pre, Only f.far.length q) := fun q hq => by
      obtain ⟨y, _, rfl⟩ := List.mem_map.1 hq
      exact y.2.2
    have HSR := Lib.hid (stepsL_range HFN.out HPR.out)
    have hSN : stepsL f (Loads (pre ++ [⟨x, hx, hon⟩])) = stepsL f (Loads pre) + longF f x := by
      rw [show Loads (pre ++ [⟨x, hx, hon⟩]) = Loads pre ++ [x] from by simp [Loads]]
      exact stepsL_snoc _ _ _
    have HSN := Lib.hid hSN
    have hpl : (Loads pre).length < all.length := by simpa [Loads] using hlt
    have HPL := Lib.hid hpl
    have LINES := Lib.hid (fun W => pLines_any x hxl W)
    obtain ⟨R, hR⟩ : ∃ R, R = linesOf x := ⟨_, rfl⟩
    obtain ⟨FK, hFK⟩ : ∃ FK, FK = farsF f x := ⟨_, rfl⟩
    have HFK : Hid (FK = R.map (farF f)) := by unfold Hid; rw [hFK, hR]; rfl
    have hfl : FK.length = R.length := by rw [HFK.out, List.length_map]
    obtain ⟨gr, hgr⟩ : ∃ gr, gr = greatestF 0 FK := ⟨_, rfl⟩
    have HGR := Lib.hid hgr
    rw [← hR] at HLA LINES hRl
    rw [← hFK, ← hgr] at HFR HRX
    obtain ⟨sp, hsp⟩ : ∃ sp, sp = stepsL f (Loads pre) := ⟨_, rfl⟩
    have HSP := Lib.hid hsp
    rw [← hsp] at HSN HSR dL
    have hgr0 := HFR.out.1
    have hgr1 := HFR.out.2
    have hsp0 := HSR.out.1
    have hsp1 : sp ≤ 240000 := by have := HSR.out.2; have := HPL.out; omega
    obtain ⟨r0, r1, r2, r3, r4, r5, r6, r7, r8, r9, r10, r11, rfl⟩ := spread hxl
    obtain ⟨c0, c1, c2, c3, c4, c5, c6, c7, c8, c9, c10, c11⟩ := (hbx.arr rfl).cells
    clear hgr hR hFK hSN hsp hpl
    gi_wp2_with fail
    refine ⟨trivial, ?_⟩
    refine (CallsIn.inRound l (callsIn_wide.2 (LINES.out W))).mono ?_
    rintro e W3 ⟨A, rfl, hRA, hRb, hb3⟩
    have hz3 := hb3.size
    have HRA := Lib.hid hRA
    have g03 := cell_keep hb3 g0
    have dL3 := cell_keep hb3 dL
    have fL3 : W3.frozen? ⟨w.heap.size + 1, 0, none⟩ = false := soft_keep hb3 zL hv.frozen
    have HB3 := Lib.hid hb3
    clear hb3 c0 c1 c2 c3 c4 c5 c6 c7 c8 c9 c10 c11 hRb hRA
    gi_wp2_with fail
    gi_loopw [7, 9, 17] (fun v y i wr => ∃ k : Nat, k ≤ R.length ∧ i = .int .i64 k ∧ Below W3.heap.size W3 wr ∧ wr.ownsRow W3.heap.size 3 1 v (FK.take k).length ((FK.take k).map vi)) (fun _ _ i _ => R.length - (intOf i).toNat)
    case atStart => exact ⟨0, Nat.zero_le _, rfl, Below.refl _ _, by simpa using World.ownsRow_nil _ _ _ _⟩
    case round =>
      obtain ⟨k, hk, rfl, hB, hown⟩ := hrel
      have hz := hB.size
      have hRAr := (HRA.out.below hB).more hz
      have g0r := cell_keep hB g03
      have zGr := cell_lt g0r
      by_cases hlt2 : k < R.length
      · obtain ⟨y, hy⟩ : ∃ y, R[k]? = some y := ⟨_, List.getElem?_eq_getElem hlt2⟩
        obtain ⟨bb, off, rfl, hbb, x0, x1⟩ := row2 hRAr.row hy rfl
        obtain ⟨j, hj1, hj2, hj3⟩ := HLA.out y (List.mem_of_getElem? hy)
        obtain ⟨bf, offf, hfA, hbf, q0⟩ := ints_at ((HFW.out.far.to HB3.out).to hB) (k := j) (x := farF f y) hj3
        have zbb : bb < wr.heap.size := cell_lt x0
        have zbf : bf < wr.heap.size := cell_lt q0
        have hkI : (k : Int) < R.length := by omega
        have h0k : (0 : Int) ≤ k := by omega
        have hjI : (j : Int) < f.far.length := by omega
        have h0j : (0 : Int) ≤ j := by omega
        have hFS : Hid (FK.take (k + 1) = FK.take k ++ [farF f y]) := by
          unfold Hid
          rw [List.take_succ_eq_append_getElem (by omega)]
          congr 2
          have e : FK[k]? = some (farF f y) := by rw [HFK.out, List.getElem?_map, hy]; rfl
          exact Option.some.inj ((List.getElem?_eq_getElem (by omega)).symm.trans e)
        obtain ⟨lk, hlk⟩ : ∃ lk, lk = FK.take k := ⟨_, rfl⟩
        have hlkl : lk.length ≤ 12 := by rw [hlk, List.length_take]; omega
        rw [← hlk] at hFS hown
        rw [hj1] at x0
        clear hlk hy hRAr
        obtain ⟨fy, hfy⟩ : ∃ fy, fy = farF f y := ⟨_, rfl⟩
        rw [← hfy] at hFS q0
        have hlI : (lk.length : Int) ≤ 12 := by omega
        obtain ⟨sh, mn⟩ := y
        simp only at hj1
        subst hj1
        clear hfy
        obtain ⟨A', c', rfl, hn1, hn2⟩ := own_form hown
        gi_wp2_with (gi_at_builtin; go_loud (refine wpListIn_append_own _ rfl _ _ 22 rfl W3.heap.size 3 i0 (.int .i64 0) 1 8 Tryd.underlying22 hi hy0 hy1 hy2 rfl (by decide) _ _ _ rfl ((hown.alloc _).alloc _) ⟨wr.heap.size + 1, 0, none⟩ 1 1 [vi fy] rfl rfl (by simpa using cells_new (wr.alloc (.cells #[vi j, vi mn] 64)) [vi fy] 3) (by simp [Value.oneCell']) (by unfold maxLen; omega) (by omega) (by simp; omega) ?_; intro v5 w5 hown5 hgrow5 _))
        have HB5 : Below W3.heap.size W3 w5 := Below.grown ((hB.alloc hz _).alloc (by simp; omega) _) hgrow5 (by simp; omega) (fun j e => (hown.lt j e).1)
        go_roundw
        case rel =>
          refine ⟨k + 1, by omega, by go_num, HB5, ?_⟩
          rw [hFS.out]
          simpa using hown5
        case measure => simp [intOf]; omega
      · obtain rfl : k = R.length := by omega
        rw [← hfl, List.take_length] at hown
        rw [show FK.map vi = (FK.map intC).flatten from (intC_flat FK).symm] at hown
        obtain ⟨A', c', rfl, hn1, hn2, hIA⟩ := own_rows (intC_one FK) hown (by simp) (by omega)
        have HIA : Hid (IntsAt wr wr.heap.size A' FK.length FK) := hIA
        have dLr := cell_keep hB dL3
        have fLr : wr.frozen? ⟨w.heap.size + 1, 0, none⟩ = false := soft_keep hB (by have := cell_lt dL3; simpa using this) fL3
        have zLr := cell_lt dLr
        have GRE : Hid (∀ W, IntsAt W W.heap.size A' FK.length FK → Calls Tryd.prog 92 #[vi 0, .slice A' R.length c'] W fun e w' => e = .returned (vi gr) ∧ Below W.heap.size W w') := fun W hW => by rw [HGR.out, ← hfl]; exact greatest_any 0 A' c' FK W hW
        clear hIA hown g0r hRAr
        gi_wp2_with fail
        gi_region_with (refine ⟨trivial, ?_⟩; gi_at_call 92; go_loud (refine (CallsIn.inRound l (callsIn_wide.2 (GRE.out _ (HIA.out.to (by (repeat (first | exact Below.refl _ _ | refine Below.setCell ?_ (by first | omega | (simp; omega) | (simp; done)) _ | refine Below.alloc ?_ (by first | omega | (simp; omega) | (simp; done)) _ | refine Below.drew ?_ | refine below_drewN ?_ _ | refine Below.trans ?_ (Below.mono (by assumption) (by first | omega | (simp; omega) | (simp; done)))))))))).mono ?_; rintro e wq ⟨rfl, hbq⟩; have dLq : wq.cell? ⟨w.heap.size + 1, 0, none⟩ = some (vi sp) := (cell_keep hbq (by simpa [go_sem] using dLr)); have fLq : wq.frozen? ⟨w.heap.size + 1, 0, none⟩ = false := (soft_keep hbq (by simpa using zLr) (by simpa [go_sem] using fLr)); have HBq : Below wr.heap.size wr wq := (by (repeat (first | exact Below.refl _ _ | refine Below.setCell ?_ (by first | omega | (simp; omega) | (simp; done)) _ | refine Below.alloc ?_ (by first | omega | (simp; omega) | (simp; done)) _ | refine Below.drew ?_ | refine below_drewN ?_ _ | refine Below.trans ?_ (Below.mono (by assumption) (by first | omega | (simp; omega) | (simp; done))))))))
        all_goals
          rw [wrapI (n := 2 * gr) (by omega) (by omega), wrapI (n := sp + 2 * gr) (by omega) (by omega)]
          have hBall : Below W.heap.size W wq := (HB3.out.trans (hB.mono hz3)).trans (HBq.mono (by omega))
          refine ⟨(keeps_of_below hBall _).trans ((KeepsOthers.setCell _ _ _).from _), ke_set (ke_of_below hBall (by omega)) _ _, ?_, ?_⟩
          · rw [HSN.out, HRX.out]
            exact (boxed_below hv hBall).set _
          · exact hS.trans (ke_set (ke_of_below hBall (by omega)) _ _)
  case done =>
    rintro D xs W hD hS ⟨hv, hKE⟩ hDf
    have hc := hv.cell
    rw [hS] at hc
    gi_wp2
    refine ⟨by simp, .inl ⟨_, _, rfl, run_takeDeferred hDf, ?_⟩⟩
    exact ⟨_, results_tmp rfl _ _ _, rfl, (hB2.trans (hKE.spare.below (by omega) (by omega))).trans (belowK_b (w := w) (Nat.le_refl _) W D _ _ (by omega) hDf rfl rfl)⟩
end Go.Proofs.YtomgnpfpaodpiaaDoor

