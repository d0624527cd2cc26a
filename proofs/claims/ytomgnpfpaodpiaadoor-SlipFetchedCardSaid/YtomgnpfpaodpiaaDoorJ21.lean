/- Contract of the law's loaded: the walk. -/
import Derived.Test.YtomgnpfpaodpiaaDoorJ20
import Derived.Test.YtomgnpfpaodpiaaDoorJ11
import Derived.Laws.AppendOwnNone
import Derived.Test.YtomgnpfpaodpiaaDoorJ13
import Derived.Deep.CutRange
set_option linter.unusedVariables false
set_option linter.unusedSimpArgs false
namespace Go.Proofs.YtomgnpfpaodpiaaDoor
open Go Go.RowKit
set_option maxHeartbeats 8000000
set_option maxRecDepth 100000 in
theorem loaded_any (f : Floor) (hv : validB f = true) (n : Nat) (s : SSlip) (hs : f.slips[n]? = some s) (A : Option Addr) (cap : Nat) (bits : List Int) (hr : ∀ x ∈ bits, -9223372036854775808 ≤ x ∧ x ≤ 9223372036854775807) (w : World) (h : FloorAt w w.heap.size f) (hb : IntsAt w w.heap.size A cap bits) :
    Calls Tryd.prog 38 #[f.val, vi n, .slice A bits.length cap] w fun e w' => ∃ (R : Option Addr) (c : Nat) (ts : List STour), e = .returned (.slice R ts.length c) ∧ ToursAt w' w'.heap.size R c ts ∧ Fetch f s (ts.map STour.lines) ∧ ts.length ≤ 1000 ∧ Below w.heap.size w w' := by
  obtain ⟨i0, hi, hy0, hy1, hy2⟩ := info_parts info_line
  obtain ⟨j0, hj, hz0, hz1, hz2⟩ := info_parts info_lines
  have hF := fine hv
  have h12 := hF.far12
  have hc1 := hF.carry1
  have hc20 := hF.carry20
  have h9 := hF.slips9
  obtain ⟨l1, l2, l3, l4⟩ := slip_lines hv hs
  have HF := Lib.hid h
  have HBT := Lib.hid hb
  have hbl := hb.lens
  have RT : Hid (∀ m : Int, -9223372036854775808 ≤ takeI bits m ∧ takeI bits m ≤ 9223372036854775807) := fun m => by
    unfold takeI
    split
    · omega
    · cases hx : bits[(spinI m bits.length).toNat]? with
      | none => simp
      | some x => exact hr x (List.mem_of_getElem? hx)
  have hls := h.slips.lens
  obtain ⟨sb, so, hsA, hsb, s0, -⟩ := row2 h.slips.row hs rfl
  replace s0 : w.cell? ⟨sb, so + n * 2, none⟩ = some (.slice s.ad s.lines.length s.cap) := s0
  have hnl := (List.getElem?_eq_some_iff.1 hs).1
  have hln := (h.each s (List.mem_of_getElem? hs)).lens
  obtain ⟨lb, lo, hlA, hlb, -, -⟩ := row2 (h.each s (List.mem_of_getElem? hs)).row (List.getElem?_eq_getElem (show 0 < s.lines.length by omega)) rfl
  have HLN : Hid (∀ (i : Nat) (x : SLine), s.lines[i]? = some x → w.cell? ⟨lb, lo + i * 2, none⟩ = some (vi x.shelf) ∧ w.cell? ⟨lb, lo + i * 2 + 1, none⟩ = some (vi x.many)) := fun i x hx => by
    obtain ⟨b2, o2, e2, -, y0, y1⟩ := row2 (h.each s (List.mem_of_getElem? hs)).row hx rfl
    rw [hlA] at e2
    cases e2
    exact ⟨y0, y1⟩
  rw [hlA] at s0
  have HLS := Lib.hid (fun (i : Nat) (x : SLine) (hx : s.lines[i]? = some x) => (show (nextF s.lines i ≤ x.shelf) ∧ (0 ≤ x.shelf ∧ x.shelf < (f.far.length : Int)) ∧ 1 ≤ x.many ∧ x.many ≤ 20 from by
    have hk := (List.getElem?_eq_some_iff.1 hx).1
    have hg := l1
    unfold linesR at hg
    rw [List.all_eq_true] at hg
    have := hg i (List.mem_range.2 hk)
    rw [goodLine_ref hx, Bool.and_eq_true, hasB_iff, hasB_iff] at this
    have h2 := l2 x (List.mem_of_getElem? hx)
    exact ⟨this.1.1, h2.1, h2.2.1, h2.2.2⟩))
  have hnI : (n : Int) < f.slips.length := by omega
  have hn0 : (0 : Int) ≤ n := by omega
  have HS0 := Lib.hid s0
  have HSA := Lib.hid hsA
  clear hb hr h hF l1 l2 hs hsA hlA
  have X0 := CellsBox.new w 28 f.cells
  have hb0 : Below w.heap.size w (w.alloc (.cells f.cells.toArray 28)) := below1 _ _
  show Calls Tryd.prog 38 #[.agg #[.slice f.fA f.far.length f.fC, vi f.slo, vi f.shi, .slice f.pA f.picks.length f.pC, vi f.carry, .slice f.sA f.slips.length f.sC], vi n, .slice A bits.length cap] w _
  go_enter Tryd.func38, Tryd.ntmps38
  go_upto_region 1 with fail
  refine (?_ : ∀ V : World, w.heap.size + 1 = V.heap.size → CellsBox V w.heap.size 28 f.cells → Below w.heap.size w V → Code.wp _ _ _ _ V) _ (by simp) X0 hb0
  clear X0 hb0
  intro V hsV X0 HB
  (have a0 := X0.cell (j := 0) rfl; have a1 := X0.cell (j := 1) rfl; have a2 := X0.cell (j := 2) rfl; have a3 := X0.cell (j := 3) rfl; have a4 := X0.cell (j := 4) rfl; have a5 := X0.cell (j := 5) rfl; have za := X0.lt)
  rw [HSA.out] at a5
  have s0v : V.cell? ⟨sb, so + n * 2, none⟩ = some (.slice (some ⟨lb, lo, none⟩) s.lines.length s.cap) := (HB.cell hsb).trans HS0.out
  have zsv := cell_lt s0v
  go_wp2_with fail
  have HM0 : Hid (LoadM f V.heap.size w [] (.slice none 0 0) V) := ⟨HB, X0, by omega, Nat.le_refl _, World.ownsRow_nil _ _ _ _, fun t ht => by simp at ht⟩
  have HO0 : Hid (LoadO f s 0 f.carry (([] : List STour).map STour.lines)) := LoadO.start rfl
  clear a0 a1 a2 a3 a4 a5 za s0v zsv X0 HB s0
  obtain ⟨base, hbase⟩ : ∃ b, b = V.heap.size := ⟨_, rfl⟩
  rw [← hbase] at HM0
  clear hbase hsV
  go_loopw [7, 8, 9, 11, 12, 13] (fun v a nx ii _ _ wr => ∃ (i : Nat) (load nn : Int) (ts : List STour), i ≤ s.lines.length ∧ ii = .int .i64 i ∧ a = vi load ∧ nx = vi nn ∧ (0 ≤ nn ∧ nn ≤ 20 * (i : Int)) ∧ Hid (LoadM f base w ts v wr) ∧ Hid (LoadO f s i load (ts.map STour.lines))) (fun _ _ _ ii _ _ _ => s.lines.length - (intOf ii).toNat)
  case atStart => exact ⟨0, f.carry, 0, [], Nat.zero_le _, rfl, rfl, rfl, by omega, HM0, HO0⟩
  clear HM0 HO0
  obtain ⟨i, load, nn, ts, hil, rfl, rfl, rfl, hnn, HM, HO⟩ := hrel
  by_cases hlt : i < s.lines.length
  · obtain ⟨x, hx⟩ : ∃ x, s.lines[i]? = some x := ⟨_, List.getElem?_eq_getElem hlt⟩
    obtain ⟨g1, ⟨g2, g3⟩, g4, g5⟩ := HLS.out i x hx
    obtain ⟨c0, c1⟩ := HLN.out i x hx
    have HXX := Lib.hid hx
    obtain ⟨S, cI⟩ := x
    simp only at g1 g2 g3 g4 g5 c0 c1
    obtain ⟨c, rfl⟩ : ∃ c : Nat, cI = c := ⟨cI.toNat, by omega⟩
    have HI0 := Lib.hid (HO.out.begin_ (S := S) g1)
    have hiI : (i : Int) < s.lines.length := by omega
    have h0i : (0 : Int) ≤ i := by omega
    clear hx HO
    go_wp2_with fail
    go_loopw [7, 8, 9, 12, 13] (fun v a nx kk _ wr => ∃ (k : Nat) (load nn : Int) (ts : List STour), k ≤ c ∧ kk = .int .i64 k ∧ a = vi load ∧ nx = vi nn ∧ (0 ≤ nn ∧ nn ≤ 20 * (i : Int) + k) ∧ Hid (LoadM f base w ts v wr) ∧ Hid (LoadI f s i k S load (ts.map STour.lines))) (fun _ _ _ kk _ _ => c - (intOf kk).toNat)
    case atStart => exact ⟨0, load, nn, ts, Nat.zero_le _, rfl, rfl, rfl, by omega, HM, HI0⟩
    clear HM HI0 hnn
    obtain ⟨k, load, nn, ts, hkc, rfl, rfl, rfl, hnn, HM, HI⟩ := hrel
    have hld := HI.out.range hc1
    have hfew := HI.out.few
    rw [List.length_map] at hfew
    obtain ⟨Ao, co, rfl, hco1, hco2⟩ := own_form HM.out.own
    have c1r := (HM.out.below.cell hlb).trans c1
    have zl := cell_lt c1r
    by_cases hltk : k < c
    · have c0r := (HM.out.below.cell hlb).trans c0
      have a4 := HM.out.fx.cell (j := 4) rfl
      have za := HM.out.fx.lt
      have hkI : (k : Int) < c := by omega
      have h0k : (0 : Int) ≤ k := by omega
      obtain ⟨x1, hx1⟩ : ∃ v, v = takeI bits (nn + 1) := ⟨_, rfl⟩
      have r1 := RT.out (nn + 1)
      rw [← hx1] at r1
      obtain ⟨z, hz⟩ : ∃ v, v = spinI x1 4 := ⟨_, rfl⟩
      have K1 : Hid (∀ W : World, IntsAt W W.heap.size A cap bits → Calls Tryd.prog 81 #[.slice A bits.length cap, vi (nn + 1)] W fun e w' => e = .returned (vi x1) ∧ Below W.heap.size W w') := fun W hW => by
        rw [hx1]; exact take_any A cap bits _ W hW (by omega) (by omega)
      have K2 : Hid (∀ W : World, Calls Tryd.prog 36 #[vi x1, vi 4] W fun e w' => e = .returned (vi z) ∧ W = w') := fun W => by
        rw [hz]; exact spin_any x1 4 W r1.1 r1.2 (by omega)
      have hbg := HM.out.big
      have hbl' := HM.out.low
      clear hx1 hz r1
      by_cases hfull : load = f.carry
      · have hle : (load == f.carry) = true := by simp [hfull]
        have hle2 : (f.carry == f.carry) = true := by simp
        clear K1 K2
        have hts5 : ts.length ≤ 2000 := by omega
        go_wp2_with (at_builtin; go_loud (have OWN := own_keep HM.out.own (below1 wr (.cells #[.slice none 0 0] 50)); have CN := cells_new wr [.slice none 0 0] 50; have O1 : ∀ u ∈ [Value.slice none 0 0], u.oneCell' = true := (fun u hu => by simp at hu; subst hu; rfl); have hsz : base ≤ (wr.alloc (.cells #[.slice none 0 0] 50)).heap.size := (by simp; omega); refine wpList_append_own (wr.alloc (.cells #[.slice none 0 0] 50)) rfl _ _ 29 rfl base 50 j0 (.slice none 0 0) 1 24 Tryd.underlying29 hj hz0 hz1 hz2 rfl (by decide) (.slice Ao ts.length co) ts.length (ts.map STour.slice) rfl OWN ⟨wr.heap.size, 0, none⟩ 1 1 [.slice none 0 0] rfl rfl CN O1 (by unfold maxLen; omega) (by omega) hsz ?_; intro v6 w6 hown6 hgrow6 _; have HM6 := HM.out.push hown6 hgrow6; obtain ⟨g, cg, cur, rfl, k1, k2, k3, k4, k5, k6⟩ := own_some hown6 (by omega); have lst := HM6.last; have y1 : w6.cell? ⟨g, ts.length, none⟩ = some (.slice none 0 0) := lst.1; have y2 := lst.2; have zg := cell_lt y1; have HMH := Lib.hid HM6; have c0n := (HM6.below.cell hlb).trans c0; have c1n := (HM6.below.cell hlb).trans c1; have zn := cell_lt c1n; clear OWN CN O1 hsz hown6 hgrow6 HM6 k1 k2 k3 k4 k5 k6 cur lst c0r c1r zl a4 za))
        go_quiet (fail)
        have hbq := below_drewN (Below.refl w6.heap.size w6) nq
        have HMQ := Lib.hid (HMH.out.to hbq)
        have c0q := cell_keep hbq c0n
        obtain ⟨Wq, hWq⟩ : ∃ W, W = w6.drewN nq := ⟨_, rfl⟩
        rw [← hWq] at HMQ c0q ⊢
        clear hbq hWq HMH c0n c1n zn y1 y2 zg
        have zq := cell_lt c0q
        go_wp2_with fail
        refine' wp_region_box (fun w' => Below Wq.heap.size Wq w') (fun a b h h' => gr_trans h h') [1, 3, 4, 5, 6, 7] 6 120 (by kernel_rfl) (by kernel_rfl) rfl (by kernel_rfl) (by kernel_rfl) rfl (by kernel_rfl) ?hl5 (Below.refl _ _) ?hq5 ?hr5
        case hl5 =>
          simp only [List.map_cons, List.map_nil, List.getD_cons_zero, List.getD_cons_succ]
          exact rfl
        case hq5 =>
          intro w0 K
          have m0 := cell_keep K c0q
          have m1 : lb < w0.heap.size := cell_lt m0
          (repeat (go_big_quiet_step (fail)))
          exact wpQuiet_nil rfl
        case hr5 =>
          refine wpUp_one (i := 0) (by kernel_rfl) rfl rfl (fun wa b1' b2' Ka hKa => ?_)
          go_simp
          have OWN0 := own_empty wa 64 2
          have hbA := below1 wa (.cells #[] 64)
          obtain ⟨VA, hVA⟩ : ∃ V, V = wa.alloc (.cells #[] 64) := ⟨_, rfl⟩
          obtain ⟨bA, hbAe⟩ : ∃ b, b = wa.heap.size := ⟨_, rfl⟩
          have hbA0 : Wq.heap.size ≤ bA := by rw [hbAe]; exact b1'.size
          rw [← hVA, ← hbAe] at OWN0
          rw [← hVA] at hbA
          rw [← hVA, ← hbAe]
          refine hKa _ _ (gr_trans b2' hbA) ?_
          clear hVA hbAe hbA b1' b2' hKa
          refine wpUp_one (i := 2) (by kernel_rfl) rfl rfl (fun wb e1' e2' Kb hKb => ?_)
          have OWN1 := own_keep OWN0 e1'
          have z1 : bA < wb.heap.size := (OWN1.lt bA rfl).2
          clear OWN0 e1'
          refine wp_none_at _ _ 50 (by rfl) 104 (by rfl) bA 64 i0 2 Tryd.underlying50 hi (.slice (some ⟨bA, 0, none⟩) 0 0) 0 [] (by rfl) OWN1 (by rfl) ?_
          simp only [List.setIfInBounds_toArray, List.set_cons_zero, List.set_cons_succ]
          refine hKb _ _ e2' ?_
          have OWN2 := OWN1
          have hB2 : Below Wq.heap.size Wq wb := e2'
          have z2 : wb.heap.size ≤ wb.heap.size := Nat.le_refl _
          obtain ⟨wb2, hwb2⟩ : ∃ W, W = wb := ⟨_, rfl⟩
          rw [← hwb2] at OWN2 hB2 z1 ⊢
          replace z2 : wb2.heap.size ≤ wb2.heap.size := Nat.le_refl _
          clear OWN1 e2' hKb hwb2
          refine wpUp_one (i := 8) (by kernel_rfl) rfl rfl (fun wc f1' f2' Kc hKc => ?_)
          go_simp
          refine (of_is _ _ _).mono ?_
          rintro e wd ⟨rfl, hbd⟩
          have OWN3 := own_keep OWN2 (gr_trans f1' hbd)
          have z3 := f1'.size
          have z4 := hbd.size
          refine hKc _ _ (gr_trans f2' hbd) ?_
          have hB3 : Below Wq.heap.size Wq wd := gr_trans f2' hbd
          clear OWN2 hB2 f1' f2' hbd hKc
          refine wpUp_one (i := 9) (by kernel_rfl) rfl rfl (fun we g1' g2' Ke hKe => ?_)
          go_simp
          have OWN4 := own_keep OWN3 g1'
          have HCV := CellsBox.new we 64 [vi S, vi 1]
          have hbV := below1 we (.cells #[vi S, vi 1] 64)
          obtain ⟨VE, hVE⟩ : ∃ V, V = we.alloc (.cells #[vi S, vi 1] 64) := ⟨_, rfl⟩
          obtain ⟨bE, hbE⟩ : ∃ b, b = we.heap.size := ⟨_, rfl⟩
          rw [← hVE, ← hbE] at HCV
          rw [← hVE] at hbV
          rw [← hVE, ← hbE]
          have OWN5 := own_keep OWN4 hbV
          have z5 := g1'.size
          have z6 := hbV.size
          have hB5 := gr_trans g2' hbV
          refine hKe _ _ hB5 ?_
          clear hVE hbE hbV OWN3 OWN4 g1' g2' hKe hB3
          refine wpUp_one (i := 10) (by kernel_rfl) rfl rfl (fun wf k1' k2' Kf hKf => ?_)
          have OWN6 := own_keep OWN5 k1'
          have z7 := k1'.size
          have HC6 := HCV.keep k1'
          have d0 := HC6.cell (j := 0) rfl
          have d1 := HC6.cell (j := 1) rfl
          refine wp_own_at _ _ _ 50 (by rfl) 112 (by rfl) bA 64 i0 (.agg #[vi 0, vi 0]) 2 16 Tryd.underlying50 hi hy0 hy1 hy2 rfl (by omega) (.slice (some ⟨bA, 0, none⟩) 0 0) 0 [] (by rfl) OWN6 ⟨bE, 0, none⟩ 1 1 [vi S, vi 1] (by rfl) (by rfl) (two_lines d0 d1) (by intro u hu; simp at hu; rcases hu with rfl | rfl <;> rfl) (by unfold maxLen; omega) (by omega) (by omega) ?_
          intro v9 wg hown9 hgrow9 _
          have hB9 : Below Wq.heap.size Wq wg := Below.grown k2' hgrow9 k2'.size (fun j e => by have := (OWN6.lt j e).1; omega)
          obtain ⟨g9, c9, cur9, rfl, k1, k2, k3, k4, k5, k6⟩ := own_some hown9 (by omega)
          clear k1 k2 k3 k4 k5 k6 cur9
          simp only [List.setIfInBounds_toArray, List.set_cons_zero, List.set_cons_succ]
          refine hKf _ _ hB9 ?_
          clear OWN5 OWN6 HCV HC6 d0 d1 hB5 k1' k2' hKf hgrow9
          refine wpUp_one (i := 11) (by kernel_rfl) rfl rfl (fun wh n1' n2' Kh hKh => ?_)
          go_simp
          refine hKh _ _ n2' (wpUp_done (by kernel_rfl) (fun W9 o1' o2' => NoPanic.normal ?_))
          have OWN9 := own_keep hown9 (gr_trans n1' o1')
          have HB9 : Below Wq.heap.size Wq W9 := o2'
          clear hown9 hB9 n1' n2' o1' o2' hKh
          have HM9 := HMQ.out.to HB9
          have HT9 : TourIn W9 ⟨some ⟨g9, 0, none⟩, c9, [] ++ [⟨S, 1⟩]⟩ := tour_own (by rw [cells_snoc]; exact OWN9) (by first | (simp; done) | (simp; omega)) (by first | (simp; done) | (simp; omega)) (by omega)
          have lst := HM9.last
          have y1 := lst.1
          have y2 := lst.2
          have zg := cell_lt y1
          have HFIN := Lib.hid (HM9.put (us := ts) (by rfl) HT9 (by simp) (v1 := .slice (some ⟨g9, 0, none⟩) (0 + 1) c9) (by simp [STour.slice]))
          have c0z := cell_keep HB9 c0q
          have zz := cell_lt c0z
          clear lst OWN9 HT9 HM9 z1 z2 z3 z4 z5 z6 z7
          go_wp2_with fail
          go_roundw
          case rel => exact ⟨k + 1, 1, nn + 1, ts ++ [⟨some ⟨g9, 0, none⟩, c9, [] ++ [⟨S, 1⟩]⟩], by omega, by go_num, rfl, rfl, by omega, HFIN, by have := HI.out.new_ hc1 ⟨g2, g3⟩; exact Lib.hid (by simpa using this)⟩
          case measure => simp [intOf]; omega
      · have hle : (load == f.carry) = false := beq_eq_false_iff_ne.2 hfull
        go_wp2_with fail
        refine (K1.out _ (HBT.out.to HM.out.below)).mono ?_
        rintro e W1 ⟨rfl, hb⟩
        replace HM := Lib.hid (HM.out.to hb)
        have c0w := cell_keep hb c0r
        have c1w := cell_keep hb c1r
        have hbg := HM.out.big
        clear hb a4 za c0r c1r zl K1
        have c0r := c0w
        have c1r := c1w
        have zl := cell_lt c1r
        have a4 := HM.out.fx.cell (j := 4) rfl
        have za := HM.out.fx.lt
        clear c0w c1w
        go_wp2_with fail
        refine (K2.out _).mono ?_
        rintro e W2 ⟨rfl, rfl⟩
        clear K2
        by_cases hzz : z = 0
        · subst hzz
          have hts5 : ts.length ≤ 2000 := by omega
          go_wp2_with (at_builtin; go_loud (have OWN := own_keep HM.out.own (below1 W1 (.cells #[.slice none 0 0] 50)); have CN := cells_new W1 [.slice none 0 0] 50; have O1 : ∀ u ∈ [Value.slice none 0 0], u.oneCell' = true := (fun u hu => by simp at hu; subst hu; rfl); have hsz : base ≤ (W1.alloc (.cells #[.slice none 0 0] 50)).heap.size := (by simp; omega); refine wpList_append_own (W1.alloc (.cells #[.slice none 0 0] 50)) rfl _ _ 29 rfl base 50 j0 (.slice none 0 0) 1 24 Tryd.underlying29 hj hz0 hz1 hz2 rfl (by decide) (.slice Ao ts.length co) ts.length (ts.map STour.slice) rfl OWN ⟨W1.heap.size, 0, none⟩ 1 1 [.slice none 0 0] rfl rfl CN O1 (by unfold maxLen; omega) (by omega) hsz ?_; intro v6 w6 hown6 hgrow6 _; have HM6 := HM.out.push hown6 hgrow6; obtain ⟨g, cg, cur, rfl, k1, k2, k3, k4, k5, k6⟩ := own_some hown6 (by omega); have lst := HM6.last; have y1 : w6.cell? ⟨g, ts.length, none⟩ = some (.slice none 0 0) := lst.1; have y2 := lst.2; have zg := cell_lt y1; have HMH := Lib.hid HM6; have c0n := (HM6.below.cell hlb).trans c0; have c1n := (HM6.below.cell hlb).trans c1; have zn := cell_lt c1n; clear OWN CN O1 hsz hown6 hgrow6 HM6 k1 k2 k3 k4 k5 k6 cur lst c0r c1r zl a4 za))
          go_quiet (fail)
          have hbq := below_drewN (Below.refl w6.heap.size w6) nq
          have HMQ := Lib.hid (HMH.out.to hbq)
          have c0q := cell_keep hbq c0n
          obtain ⟨Wq, hWq⟩ : ∃ W, W = w6.drewN nq := ⟨_, rfl⟩
          rw [← hWq] at HMQ c0q ⊢
          clear hbq hWq HMH c0n c1n zn y1 y2 zg
          have zq := cell_lt c0q
          go_wp2_with fail
          refine' wp_region_box (fun w' => Below Wq.heap.size Wq w') (fun a b h h' => gr_trans h h') [1, 3, 4, 5, 6, 7] 6 120 (by kernel_rfl) (by kernel_rfl) rfl (by kernel_rfl) (by kernel_rfl) rfl (by kernel_rfl) ?hl5 (Below.refl _ _) ?hq5 ?hr5
          case hl5 =>
            simp only [List.map_cons, List.map_nil, List.getD_cons_zero, List.getD_cons_succ]
            exact rfl
          case hq5 =>
            intro w0 K
            have m0 := cell_keep K c0q
            have m1 : lb < w0.heap.size := cell_lt m0
            (repeat (go_big_quiet_step (fail)))
            exact wpQuiet_nil rfl
          case hr5 =>
            refine wpUp_one (i := 0) (by kernel_rfl) rfl rfl (fun wa b1' b2' Ka hKa => ?_)
            go_simp
            have OWN0 := own_empty wa 64 2
            have hbA := below1 wa (.cells #[] 64)
            obtain ⟨VA, hVA⟩ : ∃ V, V = wa.alloc (.cells #[] 64) := ⟨_, rfl⟩
            obtain ⟨bA, hbAe⟩ : ∃ b, b = wa.heap.size := ⟨_, rfl⟩
            have hbA0 : Wq.heap.size ≤ bA := by rw [hbAe]; exact b1'.size
            rw [← hVA, ← hbAe] at OWN0
            rw [← hVA] at hbA
            rw [← hVA, ← hbAe]
            refine hKa _ _ (gr_trans b2' hbA) ?_
            clear hVA hbAe hbA b1' b2' hKa
            refine wpUp_one (i := 2) (by kernel_rfl) rfl rfl (fun wb e1' e2' Kb hKb => ?_)
            have OWN1 := own_keep OWN0 e1'
            have z1 : bA < wb.heap.size := (OWN1.lt bA rfl).2
            clear OWN0 e1'
            refine wp_none_at _ _ 50 (by rfl) 104 (by rfl) bA 64 i0 2 Tryd.underlying50 hi (.slice (some ⟨bA, 0, none⟩) 0 0) 0 [] (by rfl) OWN1 (by rfl) ?_
            simp only [List.setIfInBounds_toArray, List.set_cons_zero, List.set_cons_succ]
            refine hKb _ _ e2' ?_
            have OWN2 := OWN1
            have hB2 : Below Wq.heap.size Wq wb := e2'
            have z2 : wb.heap.size ≤ wb.heap.size := Nat.le_refl _
            obtain ⟨wb2, hwb2⟩ : ∃ W, W = wb := ⟨_, rfl⟩
            rw [← hwb2] at OWN2 hB2 z1 ⊢
            replace z2 : wb2.heap.size ≤ wb2.heap.size := Nat.le_refl _
            clear OWN1 e2' hKb hwb2
            refine wpUp_one (i := 8) (by kernel_rfl) rfl rfl (fun wc f1' f2' Kc hKc => ?_)
            go_simp
            refine (of_is _ _ _).mono ?_
            rintro e wd ⟨rfl, hbd⟩
            have OWN3 := own_keep OWN2 (gr_trans f1' hbd)
            have z3 := f1'.size
            have z4 := hbd.size
            refine hKc _ _ (gr_trans f2' hbd) ?_
            have hB3 : Below Wq.heap.size Wq wd := gr_trans f2' hbd
            clear OWN2 hB2 f1' f2' hbd hKc
            refine wpUp_one (i := 9) (by kernel_rfl) rfl rfl (fun we g1' g2' Ke hKe => ?_)
            go_simp
            have OWN4 := own_keep OWN3 g1'
            have HCV := CellsBox.new we 64 [vi S, vi 1]
            have hbV := below1 we (.cells #[vi S, vi 1] 64)
            obtain ⟨VE, hVE⟩ : ∃ V, V = we.alloc (.cells #[vi S, vi 1] 64) := ⟨_, rfl⟩
            obtain ⟨bE, hbE⟩ : ∃ b, b = we.heap.size := ⟨_, rfl⟩
            rw [← hVE, ← hbE] at HCV
            rw [← hVE] at hbV
            rw [← hVE, ← hbE]
            have OWN5 := own_keep OWN4 hbV
            have z5 := g1'.size
            have z6 := hbV.size
            have hB5 := gr_trans g2' hbV
            refine hKe _ _ hB5 ?_
            clear hVE hbE hbV OWN3 OWN4 g1' g2' hKe hB3
            refine wpUp_one (i := 10) (by kernel_rfl) rfl rfl (fun wf k1' k2' Kf hKf => ?_)
            have OWN6 := own_keep OWN5 k1'
            have z7 := k1'.size
            have HC6 := HCV.keep k1'
            have d0 := HC6.cell (j := 0) rfl
            have d1 := HC6.cell (j := 1) rfl
            refine wp_own_at _ _ _ 50 (by rfl) 112 (by rfl) bA 64 i0 (.agg #[vi 0, vi 0]) 2 16 Tryd.underlying50 hi hy0 hy1 hy2 rfl (by omega) (.slice (some ⟨bA, 0, none⟩) 0 0) 0 [] (by rfl) OWN6 ⟨bE, 0, none⟩ 1 1 [vi S, vi 1] (by rfl) (by rfl) (two_lines d0 d1) (by intro u hu; simp at hu; rcases hu with rfl | rfl <;> rfl) (by unfold maxLen; omega) (by omega) (by omega) ?_
            intro v9 wg hown9 hgrow9 _
            have hB9 : Below Wq.heap.size Wq wg := Below.grown k2' hgrow9 k2'.size (fun j e => by have := (OWN6.lt j e).1; omega)
            obtain ⟨g9, c9, cur9, rfl, k1, k2, k3, k4, k5, k6⟩ := own_some hown9 (by omega)
            clear k1 k2 k3 k4 k5 k6 cur9
            simp only [List.setIfInBounds_toArray, List.set_cons_zero, List.set_cons_succ]
            refine hKf _ _ hB9 ?_
            clear OWN5 OWN6 HCV HC6 d0 d1 hB5 k1' k2' hKf hgrow9
            refine wpUp_one (i := 11) (by kernel_rfl) rfl rfl (fun wh n1' n2' Kh hKh => ?_)
            go_simp
            refine hKh _ _ n2' (wpUp_done (by kernel_rfl) (fun W9 o1' o2' => NoPanic.normal ?_))
            have OWN9 := own_keep hown9 (gr_trans n1' o1')
            have HB9 : Below Wq.heap.size Wq W9 := o2'
            clear hown9 hB9 n1' n2' o1' o2' hKh
            have HM9 := HMQ.out.to HB9
            have HT9 : TourIn W9 ⟨some ⟨g9, 0, none⟩, c9, [] ++ [⟨S, 1⟩]⟩ := tour_own (by rw [cells_snoc]; exact OWN9) (by first | (simp; done) | (simp; omega)) (by first | (simp; done) | (simp; omega)) (by omega)
            have lst := HM9.last
            have y1 := lst.1
            have y2 := lst.2
            have zg := cell_lt y1
            have HFIN := Lib.hid (HM9.put (us := ts) (by rfl) HT9 (by simp) (v1 := .slice (some ⟨g9, 0, none⟩) (0 + 1) c9) (by simp [STour.slice]))
            have c0z := cell_keep HB9 c0q
            have zz := cell_lt c0z
            clear lst OWN9 HT9 HM9 z1 z2 z3 z4 z5 z6 z7
            go_wp2_with fail
            go_roundw
            case rel => exact ⟨k + 1, 1, nn + 1, ts ++ [⟨some ⟨g9, 0, none⟩, c9, [] ++ [⟨S, 1⟩]⟩], by omega, by go_num, rfl, rfl, by omega, HFIN, by have := HI.out.new_ hc1 ⟨g2, g3⟩; exact Lib.hid (by simpa using this)⟩
            case measure => simp [intOf]; omega
        · have hzb : (z == 0) = false := beq_eq_false_iff_ne.2 hzz
          go_wp2_with fail
          have hltc : load < f.carry := by omega
          obtain ⟨us, t0, rfl⟩ : ∃ us t0, ts = us ++ [t0] := by
            rcases HI.out.cur with ⟨_, e2⟩ | ⟨L0, l, e, _⟩
            · exact absurd e2 hfull
            · have hne : ts ≠ [] := by rintro rfl; simp at e
              exact ⟨ts.dropLast, ts.getLast hne, (List.dropLast_concat_getLast hne).symm⟩
          have eT : (us ++ [t0]).length = us.length + 1 := by simp
          obtain ⟨g, cg, cur, e, -, -, -, -, -, -⟩ := own_some HM.out.own (by simp)
          obtain ⟨rfl, -, rfl⟩ := Value.slice.inj e
          rw [eT] at HM hfew ⊢
          have hI2 : LoadI f s i k S load (us.map STour.lines ++ [t0.lines]) := by
            have := HI.out
            rwa [List.map_append, List.map_cons, List.map_nil] at this
          obtain ⟨tA, tc, l⟩ := t0
          obtain ⟨q1, q2, q3, q4⟩ := hI2.good l (by simp)
          obtain ⟨u, y, rfl⟩ : ∃ u y, l = u ++ [y] := by
            have hne : l ≠ [] := by rintro rfl; simp at q1
            exact ⟨l.dropLast, l.getLast hne, (List.dropLast_concat_getLast hne).symm⟩
          have hT := (HM.out.each ⟨tA, tc, u ++ [y]⟩ (by simp)).1.lines
          obtain ⟨tb, tq, hA, htb, v0, v1⟩ := row2 hT.row (k := u.length) (x := y) (by simp) rfl
          simp only at hA hT
          subst hA
          have lst := HM.out.last
          have y1 : W1.cell? ⟨g, us.length, none⟩ = some (.slice (some ⟨tb, tq, none⟩) (u.length + 1) tc) := by
            have := lst.1
            simpa [STour.slice] using this
          have y2 := lst.2
          have zg := cell_lt y1
          have hpy := (linesR_parts q2).2 y (by simp)
          have hlen := linesR_len q2
          have htc := hT.lens
          simp only [List.length_append, List.length_cons, List.length_nil] at hlen htc
          have HTA := Lib.hid hT
          have HQ2 := Lib.hid q2
          have HQ4 := Lib.hid q4
          have HI2 := Lib.hid hI2
          obtain ⟨yS, yM⟩ := y
          simp only at hpy v0 v1
          have zt := cell_lt v0
          have hty : 1 ≤ yM ∧ yM ≤ 20 := hpy.2
          clear e lst cur hI2 q1 q2 q3 q4 hT HI hpy a4 za hco1
          by_cases hsame : yS = S
          · subst hsame
            have hys : (yS == yS) = true := by simp
            go_wp2_with fail
            go_quiet (fail)
            have hbq := below_drewN (Below.refl W1.heap.size W1) nq
            have HMQ := Lib.hid (HM.out.to hbq)
            have c0q := cell_keep hbq c0r
            have v1q := cell_keep hbq v1
            have HTQ := Lib.hid (HTA.out.to hbq)
            obtain ⟨Wq, hWq⟩ : ∃ W, W = W1.drewN nq := ⟨_, rfl⟩
            rw [← hWq] at HMQ c0q v1q HTQ ⊢
            clear hbq hWq HM c0r c1r zl y1 y2 zg v0 v1 zt
            have zq := cell_lt c0q
            have zv := cell_lt v1q
            have HCC := Lib.hid (line_cells (u := u) (v := [⟨yS, yM⟩]) HTQ.out (by simp))
            have HFT := Lib.hid (flat_two u)
            go_wp2_with fail
            refine' wp_region_box (fun w' => Below Wq.heap.size Wq w') (fun a b h h' => gr_trans h h') [1, 2, 3, 4, 5, 7, 8, 9, 10, 11, 12, 13, 14, 15, 16, 17, 18, 19] 6 120 (by kernel_rfl) (by kernel_rfl) rfl (by kernel_rfl) (by kernel_rfl) rfl (by kernel_rfl) ?hl5 (Below.refl _ _) ?hq5 ?hr5
            case hl5 =>
              simp only [List.map_cons, List.map_nil, List.getD_cons_zero, List.getD_cons_succ]
              exact rfl
            case hq5 =>
              intro w0 K
              have m0 := cell_keep K c0q
              have m1 : lb < w0.heap.size := cell_lt m0
              have m2 := cell_keep K v1q
              have m3 : tb < w0.heap.size := cell_lt m2
              (repeat (go_big_quiet_step (fail)))
              exact wpQuiet_nil rfl
            case hr5 =>
              refine wpUp_one (i := 0) (by kernel_rfl) rfl rfl (fun wa b1' b2' Ka hKa => ?_)
              go_simp
              have OWN0 := own_empty wa 64 2
              have hbA := below1 wa (.cells #[] 64)
              obtain ⟨VA, hVA⟩ : ∃ V, V = wa.alloc (.cells #[] 64) := ⟨_, rfl⟩
              obtain ⟨bA, hbAe⟩ : ∃ b, b = wa.heap.size := ⟨_, rfl⟩
              have hbA0 : Wq.heap.size ≤ bA := by rw [hbAe]; exact b1'.size
              rw [← hVA, ← hbAe] at OWN0
              rw [← hVA] at hbA
              rw [← hVA, ← hbAe]
              refine hKa _ _ (gr_trans b2' hbA) ?_
              clear hVA hbAe hbA b1' b2' hKa
              refine wpUp_one (i := 6) (by kernel_rfl) rfl rfl (fun wb e1' e2' Kb hKb => ?_)
              have OWN1 := own_keep OWN0 e1'
              have z1 : bA < wb.heap.size := (OWN1.lt bA rfl).2
              clear OWN0 e1'
              have CC := fun j u hj => cell_keep e2' (HCC.out j u hj)
              refine wp_own_at _ _ _ 50 (by rfl) 85 (by rfl) bA 64 i0 (.agg #[vi 0, vi 0]) 2 16 Tryd.underlying50 hi hy0 hy1 hy2 rfl (by omega) (.slice (some ⟨bA, 0, none⟩) 0 0) 0 [] (by rfl) OWN1 ⟨tb, tq, none⟩ u.length tc ((u.map SLine.cells).flatten) (by rfl) HFT.out CC lines_one (by unfold maxLen; omega) (by omega) (by have := (OWN1.lt bA rfl).2; omega) ?_
              intro v7 wb2 hown7 hgrow7 _
              simp only [Nat.zero_add, List.nil_append] at hown7
              have hB2 : Below Wq.heap.size Wq wb2 := Below.grown e2' hgrow7 e2'.size (fun j e => by have := (OWN1.lt j e).1; omega)
              obtain ⟨A7, c7, rfl, -, -⟩ := own_form hown7
              simp only [List.setIfInBounds_toArray, List.set_cons_zero, List.set_cons_succ]
              refine hKb _ _ hB2 ?_
              have OWN2 := hown7
              have z2 := hgrow7.size
              clear CC OWN1 e2' hKb hown7 hgrow7
              refine wpUp_one (i := 20) (by kernel_rfl) rfl rfl (fun wc f1' f2' Kc hKc => ?_)
              go_simp
              refine (of_is _ _ _).mono ?_
              rintro e wd ⟨rfl, hbd⟩
              have OWN3 := own_keep OWN2 (gr_trans f1' hbd)
              have z3 := f1'.size
              have z4 := hbd.size
              refine hKc _ _ (gr_trans f2' hbd) ?_
              have hB3 : Below Wq.heap.size Wq wd := gr_trans f2' hbd
              clear OWN2 hB2 f1' f2' hbd hKc
              refine wpUp_one (i := 21) (by kernel_rfl) rfl rfl (fun we g1' g2' Ke hKe => ?_)
              go_simp
              have OWN4 := own_keep OWN3 g1'
              have HCV := CellsBox.new we 64 [vi yS, vi (yM + 1)]
              have hbV := below1 we (.cells #[vi yS, vi (yM + 1)] 64)
              obtain ⟨VE, hVE⟩ : ∃ V, V = we.alloc (.cells #[vi yS, vi (yM + 1)] 64) := ⟨_, rfl⟩
              obtain ⟨bE, hbE⟩ : ∃ b, b = we.heap.size := ⟨_, rfl⟩
              rw [← hVE, ← hbE] at HCV
              rw [← hVE] at hbV
              rw [← hVE, ← hbE]
              have OWN5 := own_keep OWN4 hbV
              have z5 := g1'.size
              have z6 := hbV.size
              have hB5 := gr_trans g2' hbV
              refine hKe _ _ hB5 ?_
              clear hVE hbE hbV OWN3 OWN4 g1' g2' hKe hB3
              refine wpUp_one (i := 22) (by kernel_rfl) rfl rfl (fun wf k1' k2' Kf hKf => ?_)
              have OWN6 := own_keep OWN5 k1'
              have z7 := k1'.size
              have HC6 := HCV.keep k1'
              have d0 := HC6.cell (j := 0) rfl
              have d1 := HC6.cell (j := 1) rfl
              refine wp_own_at _ _ _ 50 (by rfl) 101 (by rfl) bA 64 i0 (.agg #[vi 0, vi 0]) 2 16 Tryd.underlying50 hi hy0 hy1 hy2 rfl (by omega) (.slice A7 u.length c7) u.length ((u.map SLine.cells).flatten) (by rfl) OWN6 ⟨bE, 0, none⟩ 1 1 [vi yS, vi (yM + 1)] (by rfl) (by rfl) (two_lines d0 d1) (by intro u hu; simp at hu; rcases hu with rfl | rfl <;> rfl) (by unfold maxLen; omega) (by omega) (by omega) ?_
              intro v9 wg hown9 hgrow9 _
              have hB9 : Below Wq.heap.size Wq wg := Below.grown k2' hgrow9 k2'.size (fun j e => by have := (OWN6.lt j e).1; omega)
              obtain ⟨g9, c9, cur9, rfl, k1, k2, k3, k4, k5, k6⟩ := own_some hown9 (by omega)
              clear k1 k2 k3 k4 k5 k6 cur9
              simp only [List.setIfInBounds_toArray, List.set_cons_zero, List.set_cons_succ]
              refine hKf _ _ hB9 ?_
              clear OWN5 OWN6 HCV HC6 d0 d1 hB5 k1' k2' hKf hgrow9
              refine wpUp_one (i := 23) (by kernel_rfl) rfl rfl (fun wh n1' n2' Kh hKh => ?_)
              go_simp
              refine hKh _ _ n2' (wpUp_done (by kernel_rfl) (fun W9 o1' o2' => NoPanic.normal ?_))
              have OWN9 := own_keep hown9 (gr_trans n1' o1')
              have HB9 : Below Wq.heap.size Wq W9 := o2'
              clear hown9 hB9 n1' n2' o1' o2' hKh
              have HM9 := HMQ.out.to HB9
              have HT9 : TourIn W9 ⟨some ⟨g9, 0, none⟩, c9, u ++ [⟨yS, yM + 1⟩]⟩ := tour_own (by rw [cells_snoc]; exact OWN9) (by first | (simp; done) | (simp; omega)) (by first | (simp; done) | (simp; omega)) (by omega)
              have lst := HM9.last
              have y1 := lst.1
              have y2 := lst.2
              have zg := cell_lt y1
              have HFIN := Lib.hid (HM9.put (us := us) (by rfl) HT9 (by simp) (v1 := .slice (some ⟨g9, 0, none⟩) (u.length + 1) c9) (by simp [STour.slice]))
              have c0z := cell_keep HB9 c0q
              have zz := cell_lt c0z
              clear lst OWN9 HT9 HM9 z1 z2 z3 z4 z5 z6 z7
              go_wp2_with fail
              go_roundw
              case rel => exact ⟨k + 1, load + 1, nn + 1, us ++ [⟨some ⟨g9, 0, none⟩, c9, u ++ [⟨yS, yM + 1⟩]⟩], by omega, by go_num, rfl, rfl, by omega, HFIN, by have := HI2.out.same hc20 hltc; exact Lib.hid (by simpa using this)⟩
              case measure => simp [intOf]; omega
          · have hys : (yS == S) = false := beq_eq_false_iff_ne.2 hsame
            go_wp2_with fail
            go_quiet (fail)
            have hbq := below_drewN (Below.refl W1.heap.size W1) nq
            have HMQ := Lib.hid (HM.out.to hbq)
            have c0q := cell_keep hbq c0r
            have HTQ := Lib.hid (HTA.out.to hbq)
            obtain ⟨Wq, hWq⟩ : ∃ W, W = W1.drewN nq := ⟨_, rfl⟩
            rw [← hWq] at HMQ c0q HTQ ⊢
            clear hbq hWq HM c0r c1r zl y1 y2 zg v0 v1 zt
            have zq := cell_lt c0q
            have HCC := Lib.hid (line_cells (u := u ++ [⟨yS, yM⟩]) (v := []) (by rw [List.append_nil]; exact HTQ.out) (by simp))
            have HFT : Hid ((((u ++ [(⟨yS, yM⟩ : SLine)]).map SLine.cells).flatten).length = (u.length + 1) * 2) := by unfold Hid; rw [flat_two]; simp
            go_wp2_with fail
            refine' wp_region_box (fun w' => Below Wq.heap.size Wq w') (fun a b h h' => gr_trans h h') [1, 3, 4, 5, 6, 7] 6 120 (by kernel_rfl) (by kernel_rfl) rfl (by kernel_rfl) (by kernel_rfl) rfl (by kernel_rfl) ?hl5 (Below.refl _ _) ?hq5 ?hr5
            case hl5 =>
              simp only [List.map_cons, List.map_nil, List.getD_cons_zero, List.getD_cons_succ]
              exact rfl
            case hq5 =>
              intro w0 K
              have m0 := cell_keep K c0q
              have m1 : lb < w0.heap.size := cell_lt m0
              (repeat (go_big_quiet_step (fail)))
              exact wpQuiet_nil rfl
            case hr5 =>
              refine wpUp_one (i := 0) (by kernel_rfl) rfl rfl (fun wa b1' b2' Ka hKa => ?_)
              go_simp
              have OWN0 := own_empty wa 64 2
              have hbA := below1 wa (.cells #[] 64)
              obtain ⟨VA, hVA⟩ : ∃ V, V = wa.alloc (.cells #[] 64) := ⟨_, rfl⟩
              obtain ⟨bA, hbAe⟩ : ∃ b, b = wa.heap.size := ⟨_, rfl⟩
              have hbA0 : Wq.heap.size ≤ bA := by rw [hbAe]; exact b1'.size
              rw [← hVA, ← hbAe] at OWN0
              rw [← hVA] at hbA
              rw [← hVA, ← hbAe]
              refine hKa _ _ (gr_trans b2' hbA) ?_
              clear hVA hbAe hbA b1' b2' hKa
              refine wpUp_one (i := 2) (by kernel_rfl) rfl rfl (fun wb e1' e2' Kb hKb => ?_)
              have OWN1 := own_keep OWN0 e1'
              have z1 : bA < wb.heap.size := (OWN1.lt bA rfl).2
              clear OWN0 e1'
              have CC := fun j u hj => cell_keep e2' (HCC.out j u hj)
              refine wp_own_at _ _ _ 50 (by rfl) 104 (by rfl) bA 64 i0 (.agg #[vi 0, vi 0]) 2 16 Tryd.underlying50 hi hy0 hy1 hy2 rfl (by omega) (.slice (some ⟨bA, 0, none⟩) 0 0) 0 [] (by rfl) OWN1 ⟨tb, tq, none⟩ (u.length + 1) tc (((u ++ [(⟨yS, yM⟩ : SLine)]).map SLine.cells).flatten) (by rfl) HFT.out CC lines_one (by unfold maxLen; omega) (by omega) (by have := (OWN1.lt bA rfl).2; omega) ?_
              intro v7 wb2 hown7 hgrow7 _
              simp only [Nat.zero_add, List.nil_append] at hown7
              have hB2 : Below Wq.heap.size Wq wb2 := Below.grown e2' hgrow7 e2'.size (fun j e => by have := (OWN1.lt j e).1; omega)
              obtain ⟨A7, c7, rfl, -, -⟩ := own_form hown7
              simp only [List.setIfInBounds_toArray, List.set_cons_zero, List.set_cons_succ]
              refine hKb _ _ hB2 ?_
              have OWN2 := hown7
              have z2 := hgrow7.size
              clear CC OWN1 e2' hKb hown7 hgrow7
              refine wpUp_one (i := 8) (by kernel_rfl) rfl rfl (fun wc f1' f2' Kc hKc => ?_)
              go_simp
              refine (of_is _ _ _).mono ?_
              rintro e wd ⟨rfl, hbd⟩
              have OWN3 := own_keep OWN2 (gr_trans f1' hbd)
              have z3 := f1'.size
              have z4 := hbd.size
              refine hKc _ _ (gr_trans f2' hbd) ?_
              have hB3 : Below Wq.heap.size Wq wd := gr_trans f2' hbd
              clear OWN2 hB2 f1' f2' hbd hKc
              refine wpUp_one (i := 9) (by kernel_rfl) rfl rfl (fun we g1' g2' Ke hKe => ?_)
              go_simp
              have OWN4 := own_keep OWN3 g1'
              have HCV := CellsBox.new we 64 [vi S, vi 1]
              have hbV := below1 we (.cells #[vi S, vi 1] 64)
              obtain ⟨VE, hVE⟩ : ∃ V, V = we.alloc (.cells #[vi S, vi 1] 64) := ⟨_, rfl⟩
              obtain ⟨bE, hbE⟩ : ∃ b, b = we.heap.size := ⟨_, rfl⟩
              rw [← hVE, ← hbE] at HCV
              rw [← hVE] at hbV
              rw [← hVE, ← hbE]
              have OWN5 := own_keep OWN4 hbV
              have z5 := g1'.size
              have z6 := hbV.size
              have hB5 := gr_trans g2' hbV
              refine hKe _ _ hB5 ?_
              clear hVE hbE hbV OWN3 OWN4 g1' g2' hKe hB3
              refine wpUp_one (i := 10) (by kernel_rfl) rfl rfl (fun wf k1' k2' Kf hKf => ?_)
              have OWN6 := own_keep OWN5 k1'
              have z7 := k1'.size
              have HC6 := HCV.keep k1'
              have d0 := HC6.cell (j := 0) rfl
              have d1 := HC6.cell (j := 1) rfl
              refine wp_own_at _ _ _ 50 (by rfl) 112 (by rfl) bA 64 i0 (.agg #[vi 0, vi 0]) 2 16 Tryd.underlying50 hi hy0 hy1 hy2 rfl (by omega) (.slice A7 (u.length + 1) c7) (u.length + 1) (((u ++ [(⟨yS, yM⟩ : SLine)]).map SLine.cells).flatten) (by rfl) OWN6 ⟨bE, 0, none⟩ 1 1 [vi S, vi 1] (by rfl) (by rfl) (two_lines d0 d1) (by intro u hu; simp at hu; rcases hu with rfl | rfl <;> rfl) (by unfold maxLen; omega) (by omega) (by omega) ?_
              intro v9 wg hown9 hgrow9 _
              have hB9 : Below Wq.heap.size Wq wg := Below.grown k2' hgrow9 k2'.size (fun j e => by have := (OWN6.lt j e).1; omega)
              obtain ⟨g9, c9, cur9, rfl, k1, k2, k3, k4, k5, k6⟩ := own_some hown9 (by omega)
              clear k1 k2 k3 k4 k5 k6 cur9
              simp only [List.setIfInBounds_toArray, List.set_cons_zero, List.set_cons_succ]
              refine hKf _ _ hB9 ?_
              clear OWN5 OWN6 HCV HC6 d0 d1 hB5 k1' k2' hKf hgrow9
              refine wpUp_one (i := 11) (by kernel_rfl) rfl rfl (fun wh n1' n2' Kh hKh => ?_)
              go_simp
              refine hKh _ _ n2' (wpUp_done (by kernel_rfl) (fun W9 o1' o2' => NoPanic.normal ?_))
              have OWN9 := own_keep hown9 (gr_trans n1' o1')
              have HB9 : Below Wq.heap.size Wq W9 := o2'
              clear hown9 hB9 n1' n2' o1' o2' hKh
              have HM9 := HMQ.out.to HB9
              have HT9 : TourIn W9 ⟨some ⟨g9, 0, none⟩, c9, (u ++ [(⟨yS, yM⟩ : SLine)]) ++ [⟨S, 1⟩]⟩ := tour_own (by rw [cells_snoc]; exact OWN9) (by first | (simp; done) | (simp; omega)) (by first | (simp; done) | (simp; omega)) (by omega)
              have lst := HM9.last
              have y1 := lst.1
              have y2 := lst.2
              have zg := cell_lt y1
              have HFIN := Lib.hid (HM9.put (us := us) (by rfl) HT9 (by simp) (v1 := .slice (some ⟨g9, 0, none⟩) (u.length + 1 + 1) c9) (by simp [STour.slice]))
              have c0z := cell_keep HB9 c0q
              have zz := cell_lt c0z
              clear lst OWN9 HT9 HM9 z1 z2 z3 z4 z5 z6 z7
              go_wp2_with fail
              go_roundw
              case rel => exact ⟨k + 1, load + 1, nn + 1, us ++ [⟨some ⟨g9, 0, none⟩, c9, (u ++ [(⟨yS, yM⟩ : SLine)]) ++ [⟨S, 1⟩]⟩], by omega, by go_num, rfl, rfl, by omega, HFIN, by have := HI2.out.more hc20 ⟨g2, g3⟩ hltc (last_only HQ2.out (m := u.length) (y := ⟨yS, yM⟩) (by simp) (by simp) HQ4.out hsame); exact Lib.hid (by simpa using this)⟩
              case measure => simp [intOf]; omega
    · obtain rfl : k = c := by omega
      go_wp2_with fail
      go_roundw
      case rel => exact ⟨i + 1, load, nn, ts, by omega, by go_num, rfl, rfl, by omega, HM, Lib.hid (HI.out.done HXX.out rfl (by omega))⟩
      case measure => simp [intOf]; omega
  · obtain rfl : i = s.lines.length := by omega
    have hfw := HO.out.few
    rw [List.length_map] at hfw
    obtain ⟨R, c, rfl, htt⟩ := HM.out.tours (by omega)
    have HTT := Lib.hid htt
    clear htt
    go_wp2_with fail
    go_ret
    exact ⟨R, c, ts, rfl, HTT.out, HO.out.fetch, by omega, HM.out.below⟩
end Go.Proofs.YtomgnpfpaodpiaaDoor

/- Tours that are told, and others: how many steps they take. Plain mathematics. -/
namespace Go.Proofs.YtomgnpfpaodpiaaDoor
open Go Go.RowKit
set_option maxHeartbeats 2000000
theorem fetch_told {f : Floor} (hv : validB f = true) {k : Nat} {s : SSlip} (hs : f.slips[k]? = some s) {us : List STour} (h : us.map STour.lines = (loadsOf f s).map linesOf) : isToursR f s us = true ∧ Fetch f s (us.map STour.lines) ∧ goneM f (us.map STour.lines) = stepsF f s := by
  obtain ⟨h1, h2, h3⟩ := told_tours hv hs h
  obtain ⟨l1, l2, _, _⟩ := slip_lines hv hs
  have hf := Fetch.of (s := s) (fun x hx => (l2 x hx).1) h1
  refine ⟨h1, hf, ?_⟩
  rw [← h2]
  refine (walk_gone hv us fun t ht => ?_).symm
  have := hf.good t.lines (List.mem_map.2 ⟨t, ht, rfl⟩)
  exact ⟨this.2.1, this.1⟩
theorem sum_zero (n : Nat) (g : Nat → Int) (h : ∀ j, j < n → g j = 0) : ((List.range n).map g).sum = 0 := by
  have : (List.range n).map g = (List.range n).map fun _ => (0 : Int) := List.map_congr_left fun j hj => h j (List.mem_range.1 hj)
  rw [this]
  clear this h
  induction n with
  | zero => rfl
  | succ n ih => rw [List.range_succ, List.map_append, List.sum_append, ih]; rfl
theorem sum_pick (n a : Nat) (ha : a < n) (g : Nat → Int) : ((List.range n).map fun j => if a = j then g j else 0).sum = g a := by
  induction n with
  | zero => omega
  | succ n ih =>
    rw [List.range_succ, List.map_append, List.sum_append]
    by_cases h : a = n
    · subst h
      rw [sum_zero a _ fun j hj => if_neg (by omega)]
      simp
    · rw [ih (by omega)]
      simp [h]
theorem sum_add2 (n : Nat) (g k : Nat → Int) : ((List.range n).map fun j => g j + k j).sum = ((List.range n).map g).sum + ((List.range n).map k).sum := by
  induction n with
  | zero => rfl
  | succ n ih =>
    rw [List.range_succ, List.map_append, List.map_append, List.map_append, List.sum_append, List.sum_append, List.sum_append, ih]
    simp
    omega
theorem count_dist (f : Floor) (d : Int) (N : Nat) : ∀ l : List SLine, (∀ x ∈ l, (0 ≤ x.shelf ∧ x.shelf < (N : Int)) ∧ 0 ≤ x.many) → ((distF f l).count d : Int) = ((List.range N).map fun j => if fkF f j = d then cntL j l else 0).sum
  | [], _ => by
    rw [sum_zero]
    · simp [distF]
    · intro j _; simp [cntL]
  | x :: l, h => by
    have ih := count_dist f d N l fun y hy => h y (by simp [hy])
    have hx := h x (by simp)
    have e : ∀ j, (if fkF f j = d then cntL j (x :: l) else 0) = (if x.shelf.toNat = j then (if fkF f j = d then x.many else 0) else 0) + if fkF f j = d then cntL j l else 0 := fun j => by
      have : cntL j (x :: l) = (if x.shelf.toNat = j then x.many else 0) + cntL j l := by simp [cntL]
      rw [this]
      split <;> split <;> omega
    rw [distF, List.count_append, List.count_replicate]
    have e2 : ((List.range N).map fun j => if fkF f j = d then cntL j (x :: l) else 0) = (List.range N).map fun j => (if x.shelf.toNat = j then (if fkF f j = d then x.many else 0) else 0) + if fkF f j = d then cntL j l else 0 := List.map_congr_left fun j _ => e j
    rw [e2, sum_add2, ← ih, sum_pick N x.shelf.toNat (by omega) fun j => if fkF f j = d then x.many else 0]
    have e3 : farF f x = fkF f x.shelf.toNat := rfl
    rw [e3]
    by_cases hd : fkF f x.shelf.toNat = d
    · simp [hd]; omega
    · simp [hd]
theorem count_all (f : Floor) (d : Int) (N : Nat) : ∀ L : List (List SLine), (∀ l ∈ L, ∀ x ∈ l, (0 ≤ x.shelf ∧ x.shelf < (N : Int)) ∧ 0 ≤ x.many) → ((L.flatMap (distF f)).count d : Int) = ((List.range N).map fun j => if fkF f j = d then (L.map (cntL j)).sum else 0).sum
  | [], _ => by
    rw [sum_zero]
    · simp
    · intro j _; simp
  | l :: L, h => by
    have ih := count_all f d N L fun y hy => h y (by simp [hy])
    have h1 := count_dist f d N l (h l (by simp))
    rw [List.flatMap_cons, List.count_append]
    have e2 : ((List.range N).map fun j => if fkF f j = d then ((l :: L).map (cntL j)).sum else 0) = (List.range N).map fun j => (if fkF f j = d then cntL j l else 0) + if fkF f j = d then (L.map (cntL j)).sum else 0 := List.map_congr_left fun j _ => by
      rw [List.map_cons, List.sum_cons]
      split <;> omega
    rw [e2, sum_add2, ← h1, ← ih]
    omega
theorem dist_len (f : Floor) : ∀ l : List SLine, (∀ x ∈ l, 0 ≤ x.many) → ((distF f l).length : Int) = togetherF l
  | [], _ => rfl
  | x :: l, h => by
    have ih := dist_len f l fun y hy => h y (by simp [hy])
    have hx := h x (by simp)
    have e : togetherF (x :: l) = x.many + togetherF l := by simp [togetherF]
    rw [distF, List.length_append, List.length_replicate, e, ← ih]
    omega
theorem fetch_perm {f : Floor} (hv : validB f = true) {k : Nat} {s : SSlip} (hs : f.slips[k]? = some s) {L : List (List SLine)} (h : Fetch f s L) : (L.flatMap (distF f)).Perm (distF f s.lines) := by
  obtain ⟨h1, h2, h3, h4⟩ := slip_lines hv hs
  rw [List.perm_iff_count]
  intro d
  have a1 := count_all f d f.far.length L fun l hl x hx => by
    have := (linesR_parts (h.good l hl).2.1).2 x hx
    omega
  have a2 := count_dist f d f.far.length s.lines fun x hx => by have := h2 x hx; omega
  have e : ((List.range f.far.length).map fun j => if fkF f j = d then (L.map (cntL j)).sum else 0) = (List.range f.far.length).map fun j => if fkF f j = d then cntL j s.lines else 0 := List.map_congr_left fun j _ => by rw [h.cnt j]
  rw [e, ← a2] at a1
  omega
theorem tog_le : ∀ l : List SLine, (∀ x ∈ l, 1 ≤ x.many ∧ x.many ≤ 20) → (l.length : Int) ≤ togetherF l ∧ togetherF l ≤ 20 * l.length
  | [], _ => by simp [togetherF]
  | x :: l, h => by
    have ih := tog_le l fun y hy => h y (by simp [hy])
    have hx := h x (by simp)
    have e : togetherF (x :: l) = x.many + togetherF l := by simp [togetherF]
    rw [e, List.length_cons]
    omega
/-- there are no more tours than pieces -/
theorem fetch_few {f : Floor} (hv : validB f = true) {k : Nat} {s : SSlip} (hs : f.slips[k]? = some s) {L : List (List SLine)} (h : Fetch f s L) : L.length ≤ 240 := by
  obtain ⟨h1, h2, h3, h4⟩ := slip_lines hv hs
  have e := (fetch_perm hv hs h).length_eq
  have e1 := dist_len f s.lines fun x hx => by have := h2 x hx; omega
  have e2 := (tog_le s.lines fun x hx => (h2 x hx).2).2
  have key : ∀ L : List (List SLine), (∀ l ∈ L, 1 ≤ l.length ∧ linesR f.far.length l = true) → L.length ≤ (L.flatMap (distF f)).length := fun L => by
    induction L with
    | nil => intro _; simp
    | cons l L ih =>
      intro hL
      have i1 := ih fun x hx => hL x (by simp [hx])
      have i2 := hL l (by simp)
      have hp := (linesR_parts i2.2).2
      have i3 := dist_len f l fun x hx => by have := hp x hx; omega
      have i4 := (tog_le l fun x hx => (hp x hx).2).1
      rw [List.flatMap_cons, List.length_append, List.length_cons]
      omega
  have := key L fun l hl => ⟨(h.good l hl).1, (h.good l hl).2.1⟩
  omega
/-- no tours take fewer steps -/
theorem fetch_most {f : Floor} (hv : validB f = true) {k : Nat} {s : SSlip} (hs : f.slips[k]? = some s) {L : List (List SLine)} (h : Fetch f s L) : stepsF f s ≤ goneM f L := by
  have hf := fine hv
  obtain ⟨h1, h2, h3, h4⟩ := slip_lines hv hs
  obtain ⟨c, hc⟩ : ∃ c : Nat, f.carry = c := ⟨f.carry.toNat, by have := hf.carry1; omega⟩
  have hc1 : 1 ≤ c := by have := hf.carry1; omega
  have e0 : stepsF f s = PM.stD c (distF f s.lines).length (distF f s.lines) := by
    rw [← steps_same hv hs, rstepsF, state_fold, hc]
    have e1 := fold_st hc1 (distF f s.lines) 0 0
    rw [List.drop_zero, Int.zero_add] at e1
    exact e1
  have hperm := fetch_perm hv hs h
  have := PM.tours_most hc1 500 (distF f s.lines).length (distF f s.lines) (Nat.le_refl _) (dist_sorted f _ (far_sorted hv h1)) (fun d hd => by
    obtain ⟨x, hx, rfl⟩ := dist_mem f _ d hd
    exact fk_range hv x.shelf.toNat) (L.map fun l => (farM f l, distF f l)) (fun t ht => by
    obtain ⟨l, _, rfl⟩ := List.mem_map.1 ht
    exact farM_range hv l) (fun t ht => by
    obtain ⟨l, hl, rfl⟩ := List.mem_map.1 ht
    have h5 := h.good l hl
    have h6 := dist_len f l fun x hx => by have := (linesR_parts h5.2.1).2 x hx; omega
    simp only
    omega) (fun t ht d hd => by
    obtain ⟨l, hl, rfl⟩ := List.mem_map.1 ht
    obtain ⟨x, hx, rfl⟩ := dist_mem f _ d hd
    exact (foldM_ge f l 0).2 (.inr ⟨x, hx, Int.le_refl _⟩)) (by
    rw [List.flatMap_map]
    exact hperm)
  rw [e0]
  refine Int.le_trans this ?_
  rw [List.map_map]
  unfold goneM
  have e4 : ∀ L : List (List SLine), 2 * ((L.map ((fun t : Int × List Int => t.1) ∘ fun l => (farM f l, distF f l))).sum) = (L.map fun l => 2 * farM f l).sum := fun L => by
    induction L with
    | nil => rfl
    | cons l L ih => rw [List.map_cons, List.map_cons, List.sum_cons, List.sum_cons, ← ih, Int.mul_add]; rfl
  rw [e4]
  exact Int.le_refl _
theorem cntL_none {j : Nat} {l : List SLine} (h : ∀ x ∈ l, x.shelf.toNat ≠ j) : cntL j l = 0 := by
  unfold cntL
  have : l.map (fun x => if x.shelf.toNat = j then x.many else 0) = l.map fun _ => (0 : Int) := List.map_congr_left fun x hx => if_neg (h x hx)
  rw [this]
  clear this h
  induction l with
  | nil => rfl
  | cons x l ih => rw [List.map_cons, List.sum_cons, ih]; rfl
/-- what is wanted of each shelf is laid line by line -/
theorem want_step {f : Floor} {l : List SLine} (hl : linesR f.far.length l = true) {m : Nat} {x : SLine} (hx : l[m]? = some x) :
    addLK 1 (List.replicate f.far.length 0) l (m + 1) = (addLK 1 (List.replicate f.far.length 0) l m).set x.shelf.toNat x.many := by
  obtain ⟨p1, p2⟩ := linesR_parts hl
  obtain ⟨hm, rfl⟩ := List.getElem?_eq_some_iff.1 hx
  have hp := p2 _ (List.getElem_mem hm)
  rw [addLK_succ hx]
  have e : (addLK 1 (List.replicate f.far.length 0) l m)[l[m].shelf.toNat]? = some 0 := by
    unfold addLK
    rw [addL_get, List.getElem?_replicate, if_pos (by omega)]
    have : cntL l[m].shelf.toNat (l.take m) = 0 := cntL_none fun y hy => by
      obtain ⟨i, hi, rfl⟩ := List.mem_iff_getElem.1 hy
      rw [List.length_take] at hi
      rw [List.getElem_take]
      have h1 := List.pairwise_iff_getElem.1 p1 i m (by omega) hm (by omega)
      have h2 := p2 _ (List.getElem_mem (show i < l.length by omega))
      omega
    rw [this]
    rfl
  rw [e, Option.getD_some]
  congr 1
  omega
end Go.Proofs.YtomgnpfpaodpiaaDoor

/- The law SlipFetched holds of every floor, number and list of numbers. -/
namespace Go.Proofs.YtomgnpfpaodpiaaDoor
open Go Go.RowKit
set_option maxHeartbeats 8000000
set_option maxRecDepth 100000 in
theorem slipFetched_none (f : Floor) (n : Int) (A : Option Addr) (cap : Nat) (bits : List Int) (hno : validB f = false ∨ (validB f = true ∧ f.slips.length = 0)) (w : World) (hl : Lim w) (h : FloorAt w w.heap.size f) :
    Calls Tryd.prog 6 #[f.val, vi n, .slice A bits.length cap] w fun e w' => e = .returned (.bool true) ∧ Below w.heap.size w w' := by
  have HL := Lib.hid hl
  have HF := Lib.hid h
  have h3l := h.slips.lens
  obtain ⟨b, hb⟩ : ∃ b, validB f = b := ⟨_, rfl⟩
  have SO := Lib.hid (fun (W : World) h1 h2 => sound_is hb W h1 h2)
  rw [hb] at hno
  clear hl h hb
  have X0 := CellsBox.new w 28 f.cells
  have hb0 : Below w.heap.size w (w.alloc (.cells f.cells.toArray 28)) := below1 _ _
  show Calls Tryd.prog 6 #[.agg #[.slice f.fA f.far.length f.fC, vi f.slo, vi f.shi, .slice f.pA f.picks.length f.pC, vi f.carry, .slice f.sA f.slips.length f.sC], vi n, .slice A bits.length cap] w _
  go_enter Tryd.func6, Tryd.ntmps6
  go_upto_region 1 with fail
  refine (?_ : ∀ V : World, CellsBox V w.heap.size 28 f.cells → Below w.heap.size w V → Code.wp _ _ _ _ V) _ X0 hb0
  clear X0 hb0
  intro V X0 HB
  have HX := Lib.hid X0
  (have a0 := X0.cell (j := 0) rfl; have a1 := X0.cell (j := 1) rfl; have a2 := X0.cell (j := 2) rfl; have a3 := X0.cell (j := 3) rfl; have a4 := X0.cell (j := 4) rfl; have a5 := X0.cell (j := 5) rfl; have za := X0.lt)
  clear X0
  go_wp2_with fail
  refine (SO.out _ (HL.out.next HB) (HF.out.to HB)).mono ?_
  rintro e W1 ⟨rfl, hb⟩
  (replace HX := Lib.hid (HX.out.keep hb); replace HB : Below w.heap.size w W1 := HB.trans (hb.mono HB.size); clear hb a0 a1 a2 a3 a4 a5 za; (have a0 := HX.out.cell (j := 0) rfl; have a1 := HX.out.cell (j := 1) rfl; have a2 := HX.out.cell (j := 2) rfl; have a3 := HX.out.cell (j := 3) rfl; have a4 := HX.out.cell (j := 4) rfl; have a5 := HX.out.cell (j := 5) rfl; have za := HX.out.lt))
  rcases hno with rfl | ⟨rfl, hz⟩
  · go_wp2_with fail
    refine (works_any _ (HL.out.next HB)).mono ?_
    rintro e W ⟨rfl, hb⟩
    (replace HB : Below w.heap.size w W := HB.trans (hb.mono HB.size); clear hb)
    go_wp2_with fail
    go_ret
    exact ⟨rfl, HB⟩
  · have hzz : ((f.slips.length : Int) == 0) = true := by rw [hz]; rfl
    rw [hz] at a5
    clear hz hzz
    go_wp2_with fail
    refine (works_any _ (HL.out.next HB)).mono ?_
    rintro e W ⟨rfl, hb⟩
    (replace HB : Below w.heap.size w W := HB.trans (hb.mono HB.size); clear hb)
    go_wp2_with fail
    go_ret
    exact ⟨rfl, HB⟩
theorem isTours_told {f : Floor} (hv : validB f = true) {k : Nat} {s : SSlip} (hs : f.slips[k]? = some s) {ts : List STour} (h : isToursR f s ts = true) : checkSlipV f k = 0 ∧ isToursV f k ts = true := by
  have hc : checkSlipV f k = 0 := by
    unfold checkSlipV
    rw [if_pos hv, if_pos]
    unfold slipB
    have := (List.getElem?_eq_some_iff.1 hs).1
    simp
    omega
  refine ⟨hc, ?_⟩
  unfold isToursV
  rw [if_pos hc, Int.toNat_natCast, hs, ← h]
  exact tours_same hv hs ts
set_option maxRecDepth 100000 in
theorem slipFetched_some (f : Floor) (n : Int) (hv : validB f = true) (h0 : 0 < f.slips.length) (hn : -9223372036854775808 ≤ n ∧ n ≤ 9223372036854775807) (A : Option Addr) (cap : Nat) (bits : List Int) (hr : ∀ x ∈ bits, -9223372036854775808 ≤ x ∧ x ≤ 9223372036854775807) (w : World) (hl : Lim w) (h : FloorAt w w.heap.size f) (hb : IntsAt w w.heap.size A cap bits) :
    Calls Tryd.prog 6 #[f.val, vi n, .slice A bits.length cap] w fun e w' => e = .returned (.bool true) ∧ Below w.heap.size w w' := by
  have HL := Lib.hid hl
  have HF := Lib.hid h
  have HBT := Lib.hid hb
  have hF := fine hv
  have h9 := hF.slips9
  have h12 := hF.far12
  have hls := h.slips.lens
  have SO := Lib.hid (fun (W : World) h1 h2 => sound_is hv W h1 h2)
  have hk := spin_range n f.slips.length (by omega)
  obtain ⟨k, hke⟩ : ∃ k : Nat, spinI n f.slips.length = k := ⟨(spinI n f.slips.length).toNat, by omega⟩
  have hkl : k < f.slips.length := by omega
  obtain ⟨s, hs⟩ : ∃ s, f.slips[k]? = some s := ⟨_, List.getElem?_eq_getElem hkl⟩
  have SP : Hid (∀ W : World, Calls Tryd.prog 36 #[vi n, vi f.slips.length] W fun e w' => e = .returned (vi k) ∧ W = w') := fun W => by
    rw [← hke]; exact spin_any n f.slips.length W hn.1 hn.2 (by omega)
  have hck : checkSlipV f k = 0 := by
    unfold checkSlipV
    rw [if_pos hv, if_pos]
    unfold slipB
    simp
    omega
  obtain ⟨l1, l2, l3, l4⟩ := slip_lines hv hs
  obtain ⟨T, hT⟩ : ∃ T, T = addL 1 (List.replicate f.far.length (0 : Int)) s.lines := ⟨_, rfl⟩
  have C1 : Hid (∀ W : World, Lim W → FloorAt W W.heap.size f → Calls Tryd.prog 22 #[f.val, vi k] W fun e w' => ∃ A us, e = .returned (.tuple #[.slice A us.length us.length, vi 0]) ∧ ToursAt w' w'.heap.size A us.length us ∧ (isToursR f s us = true ∧ Fetch f s (us.map STour.lines) ∧ goneM f (us.map STour.lines) = stepsF f s) ∧ Below W.heap.size W w') := fun W h1 h2 => by
    refine (Tours_any f k W h1 h2).mono ?_
    rintro e w' ⟨A, us, rfl, g1, g2, g3⟩
    rw [hck]
    refine ⟨A, us, rfl, g1, fetch_told hv hs ?_, g3⟩
    rw [g2]
    unfold ToursV
    rw [if_pos hck, Int.toNat_natCast, hs]
  have C2 : Hid (∀ W : World, Lim W → FloorAt W W.heap.size f → Calls Tryd.prog 18 #[f.val, vi k] W fun e w' => e = .returned (.tuple #[vi (stepsF f s), vi 0]) ∧ Below W.heap.size W w') := fun W h1 h2 => by
    have := Steps_any f k W h1 h2
    have e1 : StepsV f k = stepsF f s := by unfold StepsV; rw [if_pos hck, Int.toNat_natCast, hs]
    rwa [e1, hck] at this
  have C3 : Hid (∀ (ts : List STour) (B : Option Addr) (c : Nat), isToursR f s ts = true → ∀ W : World, Lim W → FloorAt W W.heap.size f → ToursAt W W.heap.size B c ts → Calls Tryd.prog 14 #[f.val, vi k, .slice B ts.length c] W fun e w' => e = .returned (.tuple #[.bool true, vi 0]) ∧ Below W.heap.size W w') := fun ts B c hi W h1 h2 h3 => by
    obtain ⟨g1, g2⟩ := isTours_told hv hs hi
    have := IsTours_any f k B c ts W h1 h2 h3
    rwa [g1, g2] at this
  have C4 : Hid (∀ (ts : List STour) (B : Option Addr) (c : Nat), Fetch f s (ts.map STour.lines) → ∀ W : World, FloorAt W W.heap.size f → ToursAt W W.heap.size B c ts → Calls Tryd.prog 37 #[f.val, .slice B ts.length c] W fun e w' => ∃ R, e = .returned (.tuple #[.slice R f.far.length f.far.length, vi (goneM f (ts.map STour.lines)), .bool true]) ∧ IntsAt w' w'.heap.size R f.far.length T ∧ Below W.heap.size W w') := fun ts B c hi W h1 h2 => by
    have hfew := fetch_few hv hs hi
    rw [List.length_map] at hfew
    have := fetched_any f hv B c ts (fun t ht => hi.good t.lines (List.mem_map.2 ⟨t, ht, rfl⟩)) (by omega) W h1 h2
    rwa [got_same (s := s) (fun j _ => hi.cnt j), ← hT] at this
  have C5 := Lib.hid (fun (W : World) h1 h2 => loaded_any f hv k s hs A cap bits hr W h1 h2)
  have HTL : Hid (T.length = f.far.length) := by unfold Hid; rw [hT, addL_len, List.length_replicate]
  have C6 : Hid (∀ (W : World) (P Q : Option Addr), IntsAt W W.heap.size P f.far.length T → IntsAt W W.heap.size Q f.far.length T → Calls Tryd.prog 32 #[.slice P f.far.length f.far.length, .slice Q f.far.length f.far.length] W fun e w' => e = .returned (.bool true) ∧ Below W.heap.size W w') := fun W P Q h1 h2 => by
    have := match_free P Q f.far.length f.far.length T T W (by rw [HTL.out]; exact h1) (by rw [HTL.out]; exact h2)
    rw [HTL.out] at this
    simpa using this
  have HMO := Lib.hid (fun (L : List (List SLine)) (hL : Fetch f s L) => fetch_most hv hs hL)
  have HST := Lib.hid (stepsF_range hF (List.mem_of_getElem? hs))
  obtain ⟨st, hst⟩ : ∃ st, st = stepsF f s := ⟨_, rfl⟩
  rw [← hst] at C1 C2 HMO HST
  have WS := Lib.hid (fun (m : Nat) (x : SLine) (hx : s.lines[m]? = some x) => want_step (f := f) l1 hx)
  obtain ⟨D, hD⟩ : ∃ D, D = addLK 1 (List.replicate f.far.length (0 : Int)) s.lines := ⟨_, rfl⟩
  have D0 : Hid (D 0 = List.replicate f.far.length 0) := by unfold Hid; rw [hD]; simp [addLK, addL]
  have DE : Hid (D s.lines.length = T) := by unfold Hid; rw [hD, hT, addLK, List.take_length]
  have DL : Hid (∀ m, (D m).length = f.far.length) := fun m => by rw [hD]; unfold addLK; rw [addL_len, List.length_replicate]
  rw [← hD] at WS
  have HL2 := Lib.hid l2
  have mkI := mkIntsB f.far.length (by omega)
  have hkI : (k : Int) < f.slips.length := by omega
  have h0k : (0 : Int) ≤ k := by omega
  have HSS := Lib.hid hs
  have hz1 : ((f.slips.length : Int) == 0) = false := beq_eq_false_iff_ne.2 (by omega)
  have hfl := h.far.lens
  clear hl h hb hv hr hn hs hk hke hck hT hst hD l1 l2 hF
  have X0 := CellsBox.new w 28 f.cells
  have hb0 : Below w.heap.size w (w.alloc (.cells f.cells.toArray 28)) := below1 _ _
  show Calls Tryd.prog 6 #[.agg #[.slice f.fA f.far.length f.fC, vi f.slo, vi f.shi, .slice f.pA f.picks.length f.pC, vi f.carry, .slice f.sA f.slips.length f.sC], vi n, .slice A bits.length cap] w _
  go_enter Tryd.func6, Tryd.ntmps6
  go_upto_region 1 with fail
  refine (?_ : ∀ V : World, CellsBox V w.heap.size 28 f.cells → Below w.heap.size w V → Code.wp _ _ _ _ V) _ X0 hb0
  clear X0 hb0
  intro V X0 HB
  have HX := Lib.hid X0
  (have a0 := X0.cell (j := 0) rfl; have a1 := X0.cell (j := 1) rfl; have a2 := X0.cell (j := 2) rfl; have a3 := X0.cell (j := 3) rfl; have a4 := X0.cell (j := 4) rfl; have a5 := X0.cell (j := 5) rfl; have za := X0.lt)
  clear X0
  go_wp2_with fail
  refine (SO.out _ (HL.out.next HB) (HF.out.to HB)).mono ?_
  rintro e W1 ⟨rfl, hb⟩
  (replace HX := Lib.hid (HX.out.keep hb); replace HB : Below w.heap.size w W1 := HB.trans (hb.mono HB.size); clear hb a0 a1 a2 a3 a4 a5 za; (have a0 := HX.out.cell (j := 0) rfl; have a1 := HX.out.cell (j := 1) rfl; have a2 := HX.out.cell (j := 2) rfl; have a3 := HX.out.cell (j := 3) rfl; have a4 := HX.out.cell (j := 4) rfl; have a5 := HX.out.cell (j := 5) rfl; have za := HX.out.lt))
  go_wp2_with fail
  refine (SP.out _).mono ?_
  rintro e W2 ⟨rfl, rfl⟩
  go_wp2_with fail
  refine (C1.out _ (HL.out.next HB) (HF.out.to HB)).mono ?_
  rintro e W2 ⟨B, us, rfl, hU, ⟨u1, u2, u3⟩, hb⟩
  have HU := Lib.hid hU
  have hul := hU.rows.lens
  have HU1 := Lib.hid u1
  have HU2 := Lib.hid u2
  have HU3 := Lib.hid u3
  clear hU u1 u2 u3 SO SP C1
  (replace HX := Lib.hid (HX.out.keep hb); replace HB : Below w.heap.size w W2 := HB.trans (hb.mono HB.size); clear hb a0 a1 a2 a3 a4 a5 za; (have a0 := HX.out.cell (j := 0) rfl; have a1 := HX.out.cell (j := 1) rfl; have a2 := HX.out.cell (j := 2) rfl; have a3 := HX.out.cell (j := 3) rfl; have a4 := HX.out.cell (j := 4) rfl; have a5 := HX.out.cell (j := 5) rfl; have za := HX.out.lt))
  go_wp2_with fail
  refine (C2.out _ (HL.out.next HB) (HF.out.to HB)).mono ?_
  rintro e W3 ⟨rfl, hb⟩
  replace HU := Lib.hid (HU.out.to hb)
  clear C2
  (replace HX := Lib.hid (HX.out.keep hb); replace HB : Below w.heap.size w W3 := HB.trans (hb.mono HB.size); clear hb a0 a1 a2 a3 a4 a5 za; (have a0 := HX.out.cell (j := 0) rfl; have a1 := HX.out.cell (j := 1) rfl; have a2 := HX.out.cell (j := 2) rfl; have a3 := HX.out.cell (j := 3) rfl; have a4 := HX.out.cell (j := 4) rfl; have a5 := HX.out.cell (j := 5) rfl; have za := HX.out.lt))
  go_wp2_with fail
  refine (C3.out us B us.length HU1.out _ (HL.out.next HB) (HF.out.to HB) HU.out).mono ?_
  rintro e W4 ⟨rfl, hb⟩
  replace HU := Lib.hid (HU.out.to hb)
  (replace HX := Lib.hid (HX.out.keep hb); replace HB : Below w.heap.size w W4 := HB.trans (hb.mono HB.size); clear hb a0 a1 a2 a3 a4 a5 za; (have a0 := HX.out.cell (j := 0) rfl; have a1 := HX.out.cell (j := 1) rfl; have a2 := HX.out.cell (j := 2) rfl; have a3 := HX.out.cell (j := 3) rfl; have a4 := HX.out.cell (j := 4) rfl; have a5 := HX.out.cell (j := 5) rfl; have za := HX.out.lt))
  go_wp2_with fail
  have C4K := Lib.hid (C4.out us B us.length HU2.out)
  rw [HU3.out] at C4K
  refine (C4K.out _ (HF.out.to HB) HU.out).mono ?_
  rintro e W5 ⟨R1, rfl, hR1, hb⟩
  have HR1 := Lib.hid hR1
  clear hR1 C4K HU HU1 HU2 HU3
  (replace HX := Lib.hid (HX.out.keep hb); replace HB : Below w.heap.size w W5 := HB.trans (hb.mono HB.size); clear hb a0 a1 a2 a3 a4 a5 za; (have a0 := HX.out.cell (j := 0) rfl; have a1 := HX.out.cell (j := 1) rfl; have a2 := HX.out.cell (j := 2) rfl; have a3 := HX.out.cell (j := 3) rfl; have a4 := HX.out.cell (j := 4) rfl; have a5 := HX.out.cell (j := 5) rfl; have za := HX.out.lt))
  have hst2 := HST.out
  go_wp2_with fail
  have HBX := CellsBox.new W5 3 ((D 0).map vi)
  have hbV := below1 W5 (.cells ((D 0).map vi).toArray 3)
  obtain ⟨V1, hV1⟩ : ∃ V1, V1 = W5.alloc (.cells (Array.replicate f.far.length (vi 0)) 3) := ⟨_, rfl⟩
  have eZ : ((D 0).map vi).toArray = Array.replicate f.far.length (vi 0) := by rw [D0.out, List.map_replicate]; simp
  rw [eZ, ← hV1] at hbV
  replace HBX : CellsBox V1 W5.heap.size 3 ((D 0).map vi) := by rw [hV1, ← eZ]; exact HBX
  obtain ⟨b1, hb1⟩ : ∃ b, b = W5.heap.size := ⟨_, rfl⟩
  rw [← hb1] at HBX ⊢
  rw [← hV1]
  have HBX := Lib.hid HBX
  obtain ⟨sb, so, hsA, hsb, s0, -⟩ := row2 (HF.out.to HB).slips.row HSS.out rfl
  replace s0 : W5.cell? ⟨sb, so + k * 2, none⟩ = some (.slice s.ad s.lines.length s.cap) := s0
  have hsl := ((HF.out.to HB).each s (List.mem_of_getElem? HSS.out)).lens
  obtain ⟨lb, lo, hlA, hlb, -, -⟩ := row2 ((HF.out.to HB).each s (List.mem_of_getElem? HSS.out)).row (List.getElem?_eq_getElem (show 0 < s.lines.length by omega)) rfl
  have HLN : Hid (∀ (i : Nat) (x : SLine), s.lines[i]? = some x → W5.cell? ⟨lb, lo + i * 2, none⟩ = some (vi x.shelf) ∧ W5.cell? ⟨lb, lo + i * 2 + 1, none⟩ = some (vi x.many)) := fun i x hx => by
    obtain ⟨b2, o2, e2, -, y0, y1⟩ := row2 ((HF.out.to HB).each s (List.mem_of_getElem? HSS.out)).row hx rfl
    rw [hlA] at e2
    cases e2
    exact ⟨y0, y1⟩
  rw [hlA] at s0
  have HS0 := Lib.hid s0
  rw [hsA] at a5
  have HA5 := Lib.hid a5
  have hbw : W5.heap.size ≤ b1 := by omega
  clear hV1 eZ hb1 a0 a1 a2 a3 a4 a5 mkI D0 hsA hlA s0
  go_loopw [18] (fun a wr => ∃ i : Nat, i ≤ s.lines.length ∧ a = .int .i64 i ∧ Below W5.heap.size W5 wr ∧ Hid (CellsBox wr b1 3 ((D i).map vi))) (fun a _ => s.lines.length - (intOf a).toNat)
  case atStart => exact ⟨0, Nat.zero_le _, rfl, hbV, HBX⟩
  clear HBX hbV
  obtain ⟨i, hi, rfl, hBL, HBX⟩ := hrel
  have a5 := (hBL.cell (p := ⟨w.heap.size, 5, none⟩) za).trans HA5.out
  have zr : w.heap.size < wr.heap.size := cell_lt a5
  have s0 := (hBL.cell hsb).trans HS0.out
  have zs := cell_lt s0
  by_cases hlt : i < s.lines.length
  · obtain ⟨x, hx⟩ : ∃ x, s.lines[i]? = some x := ⟨_, List.getElem?_eq_getElem hlt⟩
    have hx2 := HL2.out x (List.mem_of_getElem? hx)
    obtain ⟨y0, y1⟩ := HLN.out i x hx
    have HDS := Lib.hid (WS.out i x hx)
    obtain ⟨xs, xm⟩ := x
    simp only at hx2 y0 y1 HDS
    obtain ⟨j, rfl⟩ : ∃ j : Nat, xs = j := ⟨xs.toNat, by omega⟩
    rw [Int.toNat_natCast] at HDS
    have HY0 := Lib.hid y0
    have HY1 := Lib.hid y1
    have hj0 : (0 : Int) ≤ j := by omega
    have hjI : (j : Int) < f.far.length := by omega
    have hiI : (i : Int) < s.lines.length := by omega
    have h0i : (0 : Int) ≤ i := by omega
    clear hx y0 y1
    go_upto_region 16 with fail
    clear a5 zr s0 zs
    refine' wp_region_box (fun w' => Below W5.heap.size W5 w') (fun a b h h' => gr_trans h h') [0, 1, 2, 3, 4, 5, 6, 7, 8, 9, 10, 11, 12, 13, 14, 15, 16, 17, 18, 19, 20, 21] 1 165 (by kernel_rfl) (by kernel_rfl) rfl (by kernel_rfl) (by kernel_rfl) rfl (by kernel_rfl) ?hl5 hBL ?hq5 ?hr5
    case hl5 =>
      simp only [List.map_cons, List.map_nil, List.getD_cons_zero, List.getD_cons_succ]
      exact rfl
    case hq5 =>
      intro w0 K
      have a5 := (K.cell (p := ⟨w.heap.size, 5, none⟩) za).trans HA5.out
      have zr : w.heap.size < w0.heap.size := cell_lt a5
      have s0 := (K.cell hsb).trans HS0.out
      have zs : sb < w0.heap.size := cell_lt s0
      have y0 := (K.cell hlb).trans HY0.out
      have y1 := (K.cell hlb).trans HY1.out
      have zy : lb < w0.heap.size := cell_lt y0
      (repeat (go_big_quiet_step (fail)))
      exact wpQuiet_nil rfl
    case hr5 =>
      refine wpUp_one (i := 22) (by kernel_rfl) rfl rfl (fun wc d1 d2 Kc hKc => ?_)
      have YB := HBX.out.keep d1
      have e1 := YB.frozen j
      have zc : b1 < wc.heap.size := YB.lt
      obtain ⟨yy, hyy⟩ : ∃ y, (D i)[j]? = some y := ⟨_, List.getElem?_eq_getElem (by rw [DL.out]; omega)⟩
      have e2 := ints_box_at YB hyy
      go_simp
      refine hKc _ _ (d2.setCell hbw _) (wpUp_done (by kernel_rfl) (fun W9 g1 g2 => NoPanic.normal ?_))
      have ZB : Hid (CellsBox W9 b1 3 ((D (i + 1)).map vi)) := by
        unfold Hid
        rw [HDS.out, List.map_set]
        exact (YB.store j (vi xm)).keep g1
      clear hKc YB e1 e2 zc hyy d1 d2 g1 HBX hBL
      go_wp2_with fail
      go_roundw
      case rel => exact ⟨i + 1, by omega, by go_num, g2, ZB⟩
      case measure => simp [intOf]; omega
  · obtain rfl : i = s.lines.length := by omega
    have HBE := HBX.out
    rw [DE.out] at HBE
    have HWI := Lib.hid (ints_of_cells (n := f.far.length) HBE HTL.out (by omega))
    replace HR1 := Lib.hid (HR1.out.to hBL)
    have HB5 := HB
    replace HB := HB5.trans (hBL.mono HB5.size)
    replace HX := Lib.hid (HX.out.keep hBL)
    go_upto_region 17 with fail
    clear HBE HBX hlt a5 zr s0 zs hBL HB5 HLN HS0 HA5 hsb hlb za HL2 WS DE DL
    (have a0 := HX.out.cell (j := 0) rfl; have a1 := HX.out.cell (j := 1) rfl; have a2 := HX.out.cell (j := 2) rfl; have a3 := HX.out.cell (j := 3) rfl; have a4 := HX.out.cell (j := 4) rfl; have a5 := HX.out.cell (j := 5) rfl; have za := HX.out.lt)
    go_wp2_with fail
    refine (C5.out _ (HF.out.to HB) (HBT.out.to HB)).mono ?_
    rintro e WA ⟨RA, cA, ts, rfl, hTA, hFA, hlA, hb⟩
    have HTA := Lib.hid hTA
    have HFA := Lib.hid hFA
    replace HR1 := Lib.hid (HR1.out.to hb)
    replace HWI := Lib.hid (HWI.out.to hb)
    clear hTA hFA C5
    (replace HX := Lib.hid (HX.out.keep hb); replace HB : Below w.heap.size w WA := HB.trans (hb.mono HB.size); clear hb a0 a1 a2 a3 a4 a5 za; (have a0 := HX.out.cell (j := 0) rfl; have a1 := HX.out.cell (j := 1) rfl; have a2 := HX.out.cell (j := 2) rfl; have a3 := HX.out.cell (j := 3) rfl; have a4 := HX.out.cell (j := 4) rfl; have a5 := HX.out.cell (j := 5) rfl; have za := HX.out.lt))
    have htl := HTA.out.rows.lens
    go_wp2_with fail
    refine (C3.out ts RA cA HFA.out.tours _ (HL.out.next HB) (HF.out.to HB) HTA.out).mono ?_
    rintro e WB ⟨rfl, hb⟩
    replace HR1 := Lib.hid (HR1.out.to hb)
    replace HWI := Lib.hid (HWI.out.to hb)
    replace HTA := Lib.hid (HTA.out.to hb)
    (replace HX := Lib.hid (HX.out.keep hb); replace HB : Below w.heap.size w WB := HB.trans (hb.mono HB.size); clear hb a0 a1 a2 a3 a4 a5 za; (have a0 := HX.out.cell (j := 0) rfl; have a1 := HX.out.cell (j := 1) rfl; have a2 := HX.out.cell (j := 2) rfl; have a3 := HX.out.cell (j := 3) rfl; have a4 := HX.out.cell (j := 4) rfl; have a5 := HX.out.cell (j := 5) rfl; have za := HX.out.lt))
    go_wp2_with fail
    refine (C4.out ts RA cA HFA.out _ (HF.out.to HB) HTA.out).mono ?_
    rintro e WC ⟨R2, rfl, hR2, hb⟩
    replace HR1 := Lib.hid (HR1.out.to hb)
    replace HWI := Lib.hid (HWI.out.to hb)
    have HR2 := Lib.hid hR2
    have hmo := HMO.out _ HFA.out
    obtain ⟨go, hgo⟩ : ∃ v, v = goneM f (ts.map STour.lines) := ⟨_, rfl⟩
    rw [← hgo] at hmo ⊢
    clear hR2 hgo HTA HFA C3 C4 a0 a1 a2 a3 a4 a5 za HX
    (replace HB : Below w.heap.size w WC := HB.trans (hb.mono HB.size); clear hb)
    go_wp2_with fail
    refine (C6.out _ _ _ HR1.out HWI.out).mono ?_
    rintro e WD ⟨rfl, hb⟩
    replace HR2 := Lib.hid (HR2.out.to hb)
    replace HWI := Lib.hid (HWI.out.to hb)
    clear HR1
    (replace HB : Below w.heap.size w WD := HB.trans (hb.mono HB.size); clear hb)
    go_wp2_with fail
    refine (C6.out _ _ _ HR2.out HWI.out).mono ?_
    rintro e WE ⟨rfl, hb⟩
    clear HR2 HWI C6
    (replace HB : Below w.heap.size w WE := HB.trans (hb.mono HB.size); clear hb)
    have hge : decide (st ≤ go) = true := decide_eq_true hmo
    go_wp2_with fail
    refine (works_any _ (HL.out.next HB)).mono ?_
    rintro e W ⟨rfl, hb⟩
    (replace HB : Below w.heap.size w W := HB.trans (hb.mono HB.size); clear hb)
    go_wp2_with fail
    go_ret
    exact ⟨rfl, HB⟩
theorem slipFetched_any (f : Floor) (n : Int) (hn : -9223372036854775808 ≤ n ∧ n ≤ 9223372036854775807) (A : Option Addr) (cap : Nat) (bits : List Int) (hr : ∀ x ∈ bits, -9223372036854775808 ≤ x ∧ x ≤ 9223372036854775807) (w : World) (hl : Lim w) (h : FloorAt w w.heap.size f) (hb : IntsAt w w.heap.size A cap bits) :
    Calls Tryd.prog 6 #[f.val, vi n, .slice A bits.length cap] w fun e w' => e = .returned (.bool true) ∧ Below w.heap.size w w' := by
  cases hv : validB f with
  | false => exact slipFetched_none f n A cap bits (.inl hv) w hl h
  | true =>
    by_cases h0 : f.slips.length = 0
    · exact slipFetched_none f n A cap bits (.inr ⟨hv, h0⟩) w hl h
    · exact slipFetched_some f n hv (by omega) hn A cap bits hr w hl h hb
end Go.Proofs.YtomgnpfpaodpiaaDoor

