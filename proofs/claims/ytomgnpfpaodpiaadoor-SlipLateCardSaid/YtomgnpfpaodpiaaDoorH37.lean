/- Contract of Tours: the walk. -/
import Derived.Test.YtomgnpfpaodpiaaDoorH30
import Derived.Stop.RegionWithIn
set_option linter.unusedVariables false
set_option linter.unusedSimpArgs false
namespace Go.Proofs.YtomgnpfpaodpiaaDoor
open Go Go.RowKit Go.Shelf
set_option maxHeartbeats 2000000
attribute [local go_sem] Oper.semAt_some
theorem tours_rows {w : World} {A : Option Addr} {ts : List STour} (h : RowsAt w w.heap.size 1 A ts.length (ts.map STour.cells)) (he : ∀ t ∈ ts, TourIn w t) : ToursAt w w.heap.size A ts.length ts := ⟨h, fun t ht => (he t ht).lines⟩
theorem cells_tour (ts : List STour) : ∀ r ∈ ts.map STour.cells, r.length = 1 := fun r hr => by
  obtain ⟨t, _, rfl⟩ := List.mem_map.1 hr
  rfl
theorem cells_flat (ts : List STour) : (ts.map STour.cells).flatten = ts.map STour.slice := by
  induction ts with
  | nil => rfl
  | cons t ts ih => rw [List.map_cons, List.flatten_cons, ih]; rfl
set_option maxRecDepth 100000 in
theorem Tours_any (f : Floor) (n : Int) (w : World) (hl : Lim w) (h : FloorAt w w.heap.size f) :
    Calls Tryd.prog 22 #[f.val, vi n] w fun e w' => ∃ A ts, e = .returned (.tuple #[.slice A ts.length ts.length, vi (checkSlipV f n)]) ∧ ToursAt w' w'.heap.size A ts.length ts ∧ ts.map STour.lines = ToursV f n ∧ Below w.heap.size w w' := by
  have HL := Lib.hid hl
  have HF := Lib.hid h
  rcases check_cases f n with hc | ⟨hc, hv, m, s, rfl, hs⟩
  · obtain ⟨ec, hec⟩ : ∃ ec, checkSlipV f n = ec := ⟨_, rfl⟩
    have hne : ec ≠ 0 := by omega
    have hned : decide (ec = 0) = false := by simpa using hne
    have E : Hid (ToursV f n = []) := by unfold Hid ToursV; rw [if_neg (by omega)]
    have CH := Lib.hid (fun (W : World) hL hW => checkSlip_is hec W hL hW)
    rw [E.out, hec]
    clear h hl hc hec E
    refine (callsIn_wide (n := 12)).1 ?_
    refine callsIn_of_wp_marks Tryd.func22 rfl trivial ?_ rfl
    simp only [Tryd.ntmps22, List.size_toArray, List.length_cons, List.length_nil, Nat.reduceAdd, Nat.reduceSub, Array.replicate_succ, Array.replicate_zero, List.push_toArray, List.append_toArray, List.nil_append, List.cons_append]
    gi_wp2_with fail
    refine ⟨trivial, ?_⟩
    refine (callsIn_wide.2 (CH.out _ (HL.out.next (by (repeat (first | exact Below.refl _ _ | refine Below.setCell ?_ (by first | omega | (simp; omega) | (simp; done)) _ | refine Below.alloc ?_ (by first | omega | (simp; omega) | (simp; done)) _ | refine Below.drew ?_ | refine below_drewN ?_ _ | refine Below.trans ?_ (Below.mono (by assumption) (by first | omega | (simp; omega) | (simp; done))))))) (HF.out.to (by (repeat (first | exact Below.refl _ _ | refine Below.setCell ?_ (by first | omega | (simp; omega) | (simp; done)) _ | refine Below.alloc ?_ (by first | omega | (simp; omega) | (simp; done)) _ | refine Below.drew ?_ | refine below_drewN ?_ _ | refine Below.trans ?_ (Below.mono (by assumption) (by first | omega | (simp; omega) | (simp; done))))))))).mono ?_
    rintro e W ⟨rfl, hb⟩
    have HB0 : Below w.heap.size w W := by (repeat (first | exact Below.refl _ _ | refine Below.setCell ?_ (by first | omega | (simp; omega) | (simp; done)) _ | refine Below.alloc ?_ (by first | omega | (simp; omega) | (simp; done)) _ | refine Below.drew ?_ | refine below_drewN ?_ _ | refine Below.trans ?_ (Below.mono (by assumption) (by first | omega | (simp; omega) | (simp; done)))))
    clear hb
    gi_wp2_with fail
    refine ⟨_, results_tmp2 rfl _ _ _, ?_⟩
    exact ⟨none, [], rfl, ⟨rows_nil _ _, by simp⟩, rfl, HB0⟩
  · obtain ⟨i0, hi, hy0, hy1, hy2⟩ := info_parts info_lines
    have hf := fine hv
    obtain ⟨c, hcc⟩ : ∃ c : Nat, f.carry = c := ⟨f.carry.toNat, by have := hf.carry1; omega⟩
    have hc1 := hf.carry1
    have hc2 := hf.carry20
    obtain ⟨_, _, hsl⟩ := hf.slips s (List.mem_of_getElem? hs)
    obtain ⟨ho, hsum, hs0, hs1⟩ := pieces_only hf.far12 hsl
    obtain ⟨hok, htw⟩ := lines_good (by have := hf.far12; omega) hsl
    have hlen := loadsOf_len hf (List.mem_of_getElem? hs)
    have CH := Lib.hid (fun (W : World) hL hW => checkSlip_is hc W hL hW)
    obtain ⟨all, hall⟩ : ∃ all, loadsOf f s = all := ⟨_, rfl⟩
    have HALL : Hid (loadsF c (piecesF s.lines).sum.toNat (piecesF s.lines) = all) := by
      have e : f.carry.toNat = c := by omega
      unfold Hid
      rw [← hall, loadsOf, e]
    have E : Hid (ToursV f m = all.map linesOf) := by unfold Hid ToursV; rw [if_pos hc]; simp [hs, hall]
    rw [hall] at hlen
    have HC := Lib.hid hcc
    have HC1 : Hid (1 ≤ c ∧ c ≤ 20) := ⟨by omega, by omega⟩
    have HSL := Lib.hid hsl
    have HTW := Lib.hid htw
    have HOK := Lib.hid hok
    have HO := Lib.hid ho
    have HFN := Lib.hid hf
    rw [hc, E.out]
    clear hcc hc1 hc2 hsl ho hsum hs0 hs1 hok htw hall h hf hl hc E hv
    refine (callsIn_wide (n := 12)).1 ?_
    refine callsIn_of_wp_marks Tryd.func22 rfl trivial ?_ rfl
    simp only [Tryd.ntmps22, List.size_toArray, List.length_cons, List.length_nil, Nat.reduceAdd, Nat.reduceSub, Array.replicate_succ, Array.replicate_zero, List.push_toArray, List.append_toArray, List.nil_append, List.cons_append]
    gi_wp2_with fail
    refine ⟨trivial, ?_⟩
    refine (callsIn_wide.2 (CH.out _ (HL.out.next (by (repeat (first | exact Below.refl _ _ | refine Below.setCell ?_ (by first | omega | (simp; omega) | (simp; done)) _ | refine Below.alloc ?_ (by first | omega | (simp; omega) | (simp; done)) _ | refine Below.drew ?_ | refine below_drewN ?_ _ | refine Below.trans ?_ (Below.mono (by assumption) (by first | omega | (simp; omega) | (simp; done))))))) (HF.out.to (by (repeat (first | exact Below.refl _ _ | refine Below.setCell ?_ (by first | omega | (simp; omega) | (simp; done)) _ | refine Below.alloc ?_ (by first | omega | (simp; omega) | (simp; done)) _ | refine Below.drew ?_ | refine below_drewN ?_ _ | refine Below.trans ?_ (Below.mono (by assumption) (by first | omega | (simp; omega) | (simp; done))))))))).mono ?_
    rintro e W ⟨rfl, hb⟩
    have HB0 : Below w.heap.size w W := by (repeat (first | exact Below.refl _ _ | refine Below.setCell ?_ (by first | omega | (simp; omega) | (simp; done)) _ | refine Below.alloc ?_ (by first | omega | (simp; omega) | (simp; done)) _ | refine Below.drew ?_ | refine below_drewN ?_ _ | refine Below.trans ?_ (Below.mono (by assumption) (by first | omega | (simp; omega) | (simp; done)))))
    have a0 : W.cell? ⟨w.heap.size, 0, none⟩ = some (.slice f.fA f.far.length f.fC) := cell_keep hb (by simp [go_sem])
    have a1 : W.cell? ⟨w.heap.size, 1, none⟩ = some (vi f.slo) := cell_keep hb (by simp [go_sem])
    have a2 : W.cell? ⟨w.heap.size, 2, none⟩ = some (vi f.shi) := cell_keep hb (by simp [go_sem])
    have a3 : W.cell? ⟨w.heap.size, 3, none⟩ = some (.slice f.pA f.picks.length f.pC) := cell_keep hb (by simp [go_sem])
    have a4 : W.cell? ⟨w.heap.size, 4, none⟩ = some (vi f.carry) := cell_keep hb (by simp [go_sem])
    have a5 : W.cell? ⟨w.heap.size, 5, none⟩ = some (.slice f.sA f.slips.length f.sC) := cell_keep hb (by simp [go_sem])
    have zW := cell_lt a0
    clear hb
    gi_wp2_with fail
    refine ⟨trivial, ?_⟩
    refine (callsIn_wide.2 (loads_any f m _)).mono ?_
    rintro e w2 ⟨bF, bn, rfl, ⟨y1, y2⟩, hAt, hb2⟩
    have hz2 := hb2.size
    simp only [World.size_alloc] at hz2 y1 y2
    have bL : Boxed w2 W.heap.size llT (.slice none 0 0) := by
      refine (hb2.block W.heap.size (by simp)).trans ?_
      exact Boxed.new W llT (.slice none 0 0)
    have hB2 : Below w.heap.size w w2 := gr_trans HB0 (((Below.refl W.heap.size W).alloc (Nat.le_refl _) _).trans (hb2.mono (by simp)))
    have hzW := HB0.size
    clear hb2 a0 a1 a2 a3 a4 a5
    gi_wp2_with fail
    refine range_outerE rfl (by omega) (gf := 94) (lb := #[.pointer (some ⟨bF, 0, none⟩), .pointer (some ⟨bn, 0, none⟩)]) rfl trivial (enters_of Tryd.func94 (by kernel_rfl) rfl)
      (loads_seq f c m HC.out HC1.out.1 HC1.out.2 s hs HOK.out HTW.out HO.out _ (Int.self_le_toNat _) all HALL.out lsT (by decide) (by decide) (by decide) _ (by omega) bF bn w.heap.size W.heap.size w2 (by omega) (by omega) bL.lt (by omega) (by omega) hAt (HF.out.below hB2))
      (fun h k => KE.trans h k) (fun W l o o' hl h h1 _ => KE.turn _ W l o o' hl h h1) (Below.refl _ _) (fun _ => rfl)
      (fun pre X => (∃ v ts, ListIn X w2.heap.size W.heap.size ((Loads pre).map linesOf) v ts) ∧ KE lsT w2.heap.size W.heap.size w2 X)
      (OwnE.and (ownE_list bL.lt (fun pre => (Loads pre).map linesOf)) (ownE_ke (Nat.le_refl _) (Nat.le_refl _)))
      ⟨⟨_, [], bL, rfl, World.ownsRow_nil _ _ _ _, by simp⟩, KE.refl _ _ _ _⟩
      (fun x a' X => ∃ Bx, w2.heap.size ≤ Bx ∧ CellsBox X Bx 102 (x.1.map vi) ∧ a' = { tmps := #[f.val, vi m, .pointer (some ⟨w.heap.size, 0, none⟩), undef, .slice none 0 0, vi 0, vi 0, .pointer (some ⟨W.heap.size, 0, none⟩), .pointer (some ⟨Bx, 0, none⟩), f.val, vi m, vi 0, vi 0, .bool false, undef, f.val, f.val, vi m, loadsV bF bn, piecesV x.1, undef, undef, undef, undef, undef, undef, undef, undef, undef, undef, undef], defers := [] })
      (fun x a' _ X Y row hs hg hr => by obtain ⟨Bx, h1, h2, h3⟩ := hs; exact ⟨Bx, h1, (hg.block Bx h2.lt fun e => by obtain ⟨_, o, ho, hc⟩ := hr Bx e.symm; rw [show X.heap[Bx]? = _ from h2] at ho; cases ho; cases hc).trans h2, h3⟩)
      ?assign ?body ?done
    case assign =>
      rintro l pre ⟨x, hx, hon⟩ X K ⟨⟨v, ts, hv⟩, hS⟩ hK
      have hs9 := hS.size
      have hxl := hx.len
      obtain ⟨r0, r1, r2, r3, r4, r5, r6, r7, r8, r9, r10, r11, rfl⟩ := spread hxl
      gi_wp2_with fail
      have hb : ∀ o, Below X.heap.size X (X.alloc o) := fun o => (Below.refl X.heap.size X).alloc (Nat.le_refl _) o
      exact hK _ _ (keeps_of_below (hb _) _) (ke_of_below (hb _) (by omega)) ⟨⟨v, ts, hv.to (hb _)⟩, hS.trans (ke_of_below (hb _) (by omega))⟩ ⟨X.heap.size, by omega, CellsBox.new X _ [vi r0, vi r1, vi r2, vi r3, vi r4, vi r5, vi r6, vi r7, vi r8, vi r9, vi r10, vi r11], rfl⟩
    case body =>
      rintro l pre ⟨x, hx, hon⟩ a' X hl ⟨rr, hrr⟩ ⟨⟨v, ts, hv⟩, hS⟩ ⟨Bx, hBx, hbx, rfl⟩ hlt
      have hs9 := hS.size
      have dL := hv.box.cell
      have fL := hv.box.frozen
      have zL := hv.box.lt
      have hxl := hx.len
      have LINES := Lib.hid (fun W => pLines_any x hxl W)
      have HWANT : Hid ((Loads (pre ++ [⟨x, hx, hon⟩])).map linesOf = (Loads pre).map linesOf ++ [linesOf x]) := by unfold Hid; simp [Loads]
      have hpl : ts.length < all.length := by
        have := congrArg List.length hv.eq
        simp [Loads] at this
        omega
      have hRl := lines_small hxl
      obtain ⟨R, hR⟩ : ∃ R, R = linesOf x := ⟨_, rfl⟩
      rw [← hR] at LINES hRl HWANT
      obtain ⟨A0, c0, rfl, hn1, hn2⟩ := own_form hv.own
      have HV := Lib.hid hv
      obtain ⟨r0, r1, r2, r3, r4, r5, r6, r7, r8, r9, r10, r11, rfl⟩ := spread hxl
      obtain ⟨c0, c1, c2, c3, c4, c5, c6, c7, c8, c9, c10, c11⟩ := (hbx.arr rfl).cells
      have zB := hbx.lt
      have HBX := Lib.hid hbx
      clear hR hv hbx
      gi_wp2_with fail
      --BEGIN
      refine' wp_region_box_round (fun w' => CellsBox w' Bx 102 [vi r0, vi r1, vi r2, vi r3, vi r4, vi r5, vi r6, vi r7, vi r8, vi r9, vi r10, vi r11]) (fun a b h h' => h.keep h') rfl ?hno [1] 5 31 (by kernel_rfl) (by kernel_rfl) rfl (by kernel_rfl) (by kernel_rfl) rfl (by kernel_rfl) ?hl5 HBX.out ?hq5 ?hr5
      case hno => exact fun _ _ h => h
      case hl5 =>
        simp only [List.map_cons, List.map_nil, List.getD_cons_zero, List.getD_cons_succ]
        exact rfl
      case hq5 =>
        intro w0 hw0
        obtain ⟨c0, c1, c2, c3, c4, c5, c6, c7, c8, c9, c10, c11⟩ := (CellsBox.arr (p := [r0, r1, r2, r3, r4, r5, r6, r7, r8, r9, r10, r11]) rfl hw0).cells
        have zx := hw0.lt
        (repeat (go_big_quiet_step (fail)))
        exact wpQuiet_nil rfl
      clear c0 c1 c2 c3 c4 c5 c6 c7 c8 c9 c10 c11
      refine wpUp_two (i := 0) (j := 2) (by kernel_rfl) rfl rfl rfl rfl (fun wa u1 u2 Ka hKa => ?_) (fun wa u1 u2 Ka hKa => ?_)
      · have HVa := HV.out.to u1
        have da := HVa.box.cell
        have fa := HVa.box.frozen
        have za := HVa.box.lt
        clear HVa
        go_simp
        refine hKa _ _ u2 ?_
        clear da fa za
        refine wpUp_one (i := 2) (by kernel_rfl) rfl rfl (fun wc v1 v2 Kc hKc => ?_)
        go_simp
        refine (LINES.out _).mono ?_
        rintro e wl ⟨A, rfl, hRA, hRb, hbl⟩
        have HRA := Lib.hid hRA
        have HRB := Lib.hid hRb
        clear hRA hRb
        refine hKc _ _ (v2.keep hbl) ?_
        refine wpUp_one (i := 3) (by kernel_rfl) rfl rfl (fun wd x1 x2 Kd hKd => ?_)
        go_simp
        obtain ⟨V, hV⟩ : ∃ V, V = wd.alloc (.cells #[.slice A R.length R.length] lsT) := ⟨_, rfl⟩
        have hbV : Below wd.heap.size wd V := by rw [hV]; exact (Below.refl _ _).alloc (Nat.le_refl _) _
        have HCV : Hid (CellsBox V wd.heap.size lsT [.slice A R.length R.length]) := by unfold Hid; rw [hV]; exact CellsBox.new wd _ _
        have hVd : wd.alloc (.cells #[.slice A R.length R.length] 50) = V := hV.symm
        rw [hVd]
        clear hV hVd
        refine hKd _ _ (x2.keep hbV) ?_
        have HBc : Below X.heap.size X V := gr_trans (gr_trans (gr_trans (gr_trans u1 v1) hbl) x1) hbV
        have HTc : TourIn V ⟨A, R.length, R⟩ := TourIn.to ⟨HRA.out, fun bb hb => (HRB.out bb hb).2⟩ (gr_trans x1 hbV)
        have HRA := Lib.hid HTc.lines
        have HRBc := Lib.hid HTc.blk
        have HCB : Hid (CellsBox V wd.heap.size lsT [.slice A R.length R.length]) := HCV
        obtain ⟨b, hbb⟩ : ∃ b, b = wd.heap.size := ⟨_, rfl⟩
        rw [← hbb] at HCB
        try rw [← hbb]
        clear hbb
        refine wpUp_one (i := 4) (by kernel_rfl) rfl rfl (fun w7 g1 g2 K4 hK4 => ?_)
        have HB7 : Below X.heap.size X w7 := gr_trans HBc g1
        have HV7 := HV.out.to HB7
        have HT7 : TourIn w7 ⟨A, R.length, R⟩ := TourIn.to ⟨HRA.out, HRBc.out⟩ g1
        have hc7 := HCB.out.keep g1
        have hown7 := HV7.own
        have zw7 := HB7.size
        refine wp_append_own _ _ _ _ (by rfl) w2.heap.size lsT i0 _ 1 24 Tryd.underlying29 hi hy0 hy1 hy2 rfl (by omega) (.slice A0 ts.length c0) ts.length _ (by rfl) hown7 ⟨b, 0, none⟩ 1 1 [.slice A R.length R.length] (by rfl) (by rfl) (news1 (hc7.cell (j := 0) rfl)) (by simp [Value.oneCell']) (by unfold maxLen; omega) (by omega) (by omega) ?_
        intro v5 w8 hown8 hgrow _
        obtain ⟨A5, c5, rfl, -, -⟩ := own_form hown8
        simp only [Act.put, List.setIfInBounds_toArray, List.set_cons_zero, List.set_cons_succ]
        have hx8 := list_other HV7 hgrow Bx 102 _ (by decide) (HBX.out.keep HB7)
        refine hK4 _ _ hx8 ?_
        refine wpUp_one (i := 5) (by kernel_rfl) rfl rfl (fun w9 q1 q2 K5 hK5 => ?_)
        obtain ⟨P1, P2, P3⟩ := list_append (t := ⟨A, R.length, R⟩) (n₀ := w2.heap.size) HB7 HV7 HT7 hgrow hown8 q1 (Nat.le_refl _) (by omega)
        have hx9 := (hx8.keep q1).apart ⟨W.heap.size, 0, none⟩ (.slice A5 (ts.length + 1) c5) (by simp only; omega)
        have b9 := boxed_below (list_box HV7 hgrow) q1
        have d9 := b9.cell
        have f9 := b9.frozen
        have z9 := b9.lt
        have HP1 := Lib.hid P1
        have HP2 := Lib.hid P2
        have HP3 := Lib.hid P3
        have HX9 := Lib.hid hx9
        clear P1 P2 P3 hx9 b9 hown7 hown8 hgrow hx8 hc7 HT7 HV7
        go_simp
        refine hK5 _ _ HX9.out (wpUp_done (by kernel_rfl) (fun W9 s1 s2 => NoPanic.normal ?_))
        have HKE9 : KE lsT w2.heap.size W.heap.size X W9 := HP2.out.trans (ke_of_below s1 (by have := HP2.out.size; omega))
        refine ⟨(HP3.out _).trans (keeps_of_below s1 _), HKE9, ⟨.slice A5 (ts.length + 1) c5, ts ++ [⟨A, R.length, R⟩], ?_⟩, hS.trans HKE9⟩
        rw [HWANT.out]
        exact HP1.out.to s1
      · go_simp
        refine (LINES.out _).mono ?_
        rintro e wl ⟨A, rfl, hRA, hRb, hbl⟩
        have HRA := Lib.hid hRA
        have HRB := Lib.hid hRb
        clear hRA hRb
        refine hKa _ _ (u2.keep hbl) ?_
        refine wpUp_two (i := 0) (j := 3) (by kernel_rfl) rfl rfl rfl rfl (fun wb v1 v2 Kb hKb => ?_) (fun wb v1 v2 Kb hKb => ?_)
        · have HVa := HV.out.to (gr_trans (gr_trans u1 hbl) v1)
          have da := HVa.box.cell
          have fa := HVa.box.frozen
          have za := HVa.box.lt
          clear HVa
          go_simp
          refine hKb _ _ v2 ?_
          clear da fa za
          refine wpUp_one (i := 3) (by kernel_rfl) rfl rfl (fun wd x1 x2 Kd hKd => ?_)
          go_simp
          obtain ⟨V, hV⟩ : ∃ V, V = wd.alloc (.cells #[.slice A R.length R.length] lsT) := ⟨_, rfl⟩
          have hbV : Below wd.heap.size wd V := by rw [hV]; exact (Below.refl _ _).alloc (Nat.le_refl _) _
          have HCV : Hid (CellsBox V wd.heap.size lsT [.slice A R.length R.length]) := by unfold Hid; rw [hV]; exact CellsBox.new wd _ _
          have hVd : wd.alloc (.cells #[.slice A R.length R.length] 50) = V := hV.symm
          rw [hVd]
          clear hV hVd
          refine hKd _ _ (x2.keep hbV) ?_
          have HBc : Below X.heap.size X V := gr_trans (gr_trans (gr_trans (gr_trans u1 hbl) v1) x1) hbV
          have HTc : TourIn V ⟨A, R.length, R⟩ := TourIn.to ⟨HRA.out, fun bb hb => (HRB.out bb hb).2⟩ (gr_trans (gr_trans v1 x1) hbV)
          have HRA := Lib.hid HTc.lines
          have HRBc := Lib.hid HTc.blk
          have HCB : Hid (CellsBox V wd.heap.size lsT [.slice A R.length R.length]) := HCV
          obtain ⟨b, hbb⟩ : ∃ b, b = wd.heap.size := ⟨_, rfl⟩
          rw [← hbb] at HCB
          try rw [← hbb]
          clear hbb
          refine wpUp_one (i := 4) (by kernel_rfl) rfl rfl (fun w7 g1 g2 K4 hK4 => ?_)
          have HB7 : Below X.heap.size X w7 := gr_trans HBc g1
          have HV7 := HV.out.to HB7
          have HT7 : TourIn w7 ⟨A, R.length, R⟩ := TourIn.to ⟨HRA.out, HRBc.out⟩ g1
          have hc7 := HCB.out.keep g1
          have hown7 := HV7.own
          have zw7 := HB7.size
          refine wp_append_own _ _ _ _ (by rfl) w2.heap.size lsT i0 _ 1 24 Tryd.underlying29 hi hy0 hy1 hy2 rfl (by omega) (.slice A0 ts.length c0) ts.length _ (by rfl) hown7 ⟨b, 0, none⟩ 1 1 [.slice A R.length R.length] (by rfl) (by rfl) (news1 (hc7.cell (j := 0) rfl)) (by simp [Value.oneCell']) (by unfold maxLen; omega) (by omega) (by omega) ?_
          intro v5 w8 hown8 hgrow _
          obtain ⟨A5, c5, rfl, -, -⟩ := own_form hown8
          simp only [Act.put, List.setIfInBounds_toArray, List.set_cons_zero, List.set_cons_succ]
          have hx8 := list_other HV7 hgrow Bx 102 _ (by decide) (HBX.out.keep HB7)
          refine hK4 _ _ hx8 ?_
          refine wpUp_one (i := 5) (by kernel_rfl) rfl rfl (fun w9 q1 q2 K5 hK5 => ?_)
          obtain ⟨P1, P2, P3⟩ := list_append (t := ⟨A, R.length, R⟩) (n₀ := w2.heap.size) HB7 HV7 HT7 hgrow hown8 q1 (Nat.le_refl _) (by omega)
          have hx9 := (hx8.keep q1).apart ⟨W.heap.size, 0, none⟩ (.slice A5 (ts.length + 1) c5) (by simp only; omega)
          have b9 := boxed_below (list_box HV7 hgrow) q1
          have d9 := b9.cell
          have f9 := b9.frozen
          have z9 := b9.lt
          have HP1 := Lib.hid P1
          have HP2 := Lib.hid P2
          have HP3 := Lib.hid P3
          have HX9 := Lib.hid hx9
          clear P1 P2 P3 hx9 b9 hown7 hown8 hgrow hx8 hc7 HT7 HV7
          go_simp
          refine hK5 _ _ HX9.out (wpUp_done (by kernel_rfl) (fun W9 s1 s2 => NoPanic.normal ?_))
          have HKE9 : KE lsT w2.heap.size W.heap.size X W9 := HP2.out.trans (ke_of_below s1 (by have := HP2.out.size; omega))
          refine ⟨(HP3.out _).trans (keeps_of_below s1 _), HKE9, ⟨.slice A5 (ts.length + 1) c5, ts ++ [⟨A, R.length, R⟩], ?_⟩, hS.trans HKE9⟩
          rw [HWANT.out]
          exact HP1.out.to s1
        · go_simp
          obtain ⟨V, hV⟩ : ∃ V, V = wb.alloc (.cells #[.slice A R.length R.length] lsT) := ⟨_, rfl⟩
          have hbV : Below wb.heap.size wb V := by rw [hV]; exact (Below.refl _ _).alloc (Nat.le_refl _) _
          have HCV : Hid (CellsBox V wb.heap.size lsT [.slice A R.length R.length]) := by unfold Hid; rw [hV]; exact CellsBox.new wb _ _
          have hVd : wb.alloc (.cells #[.slice A R.length R.length] 50) = V := hV.symm
          rw [hVd]
          clear hV hVd
          refine hKb _ _ (v2.keep hbV) ?_
          refine wpUp_one (i := 0) (by kernel_rfl) rfl rfl (fun wd x1 x2 Kd hKd => ?_)
          have HVa := HV.out.to (gr_trans (gr_trans (gr_trans (gr_trans u1 hbl) v1) hbV) x1)
          have da := HVa.box.cell
          have fa := HVa.box.frozen
          have za := HVa.box.lt
          clear HVa
          go_simp
          refine hKd _ _ x2 ?_
          clear da fa za
          have HBc : Below X.heap.size X wd := gr_trans (gr_trans (gr_trans (gr_trans u1 hbl) v1) hbV) x1
          have HTc : TourIn wd ⟨A, R.length, R⟩ := TourIn.to ⟨HRA.out, fun bb hb => (HRB.out bb hb).2⟩ (gr_trans (gr_trans v1 hbV) x1)
          have HRA := Lib.hid HTc.lines
          have HRBc := Lib.hid HTc.blk
          have HCB : Hid (CellsBox wd wb.heap.size lsT [.slice A R.length R.length]) := HCV.out.keep x1
          obtain ⟨b, hbb⟩ : ∃ b, b = wb.heap.size := ⟨_, rfl⟩
          rw [← hbb] at HCB
          try rw [← hbb]
          clear hbb
          refine wpUp_one (i := 4) (by kernel_rfl) rfl rfl (fun w7 g1 g2 K4 hK4 => ?_)
          have HB7 : Below X.heap.size X w7 := gr_trans HBc g1
          have HV7 := HV.out.to HB7
          have HT7 : TourIn w7 ⟨A, R.length, R⟩ := TourIn.to ⟨HRA.out, HRBc.out⟩ g1
          have hc7 := HCB.out.keep g1
          have hown7 := HV7.own
          have zw7 := HB7.size
          refine wp_append_own _ _ _ _ (by rfl) w2.heap.size lsT i0 _ 1 24 Tryd.underlying29 hi hy0 hy1 hy2 rfl (by omega) (.slice A0 ts.length c0) ts.length _ (by rfl) hown7 ⟨b, 0, none⟩ 1 1 [.slice A R.length R.length] (by rfl) (by rfl) (news1 (hc7.cell (j := 0) rfl)) (by simp [Value.oneCell']) (by unfold maxLen; omega) (by omega) (by omega) ?_
          intro v5 w8 hown8 hgrow _
          obtain ⟨A5, c5, rfl, -, -⟩ := own_form hown8
          simp only [Act.put, List.setIfInBounds_toArray, List.set_cons_zero, List.set_cons_succ]
          have hx8 := list_other HV7 hgrow Bx 102 _ (by decide) (HBX.out.keep HB7)
          refine hK4 _ _ hx8 ?_
          refine wpUp_one (i := 5) (by kernel_rfl) rfl rfl (fun w9 q1 q2 K5 hK5 => ?_)
          obtain ⟨P1, P2, P3⟩ := list_append (t := ⟨A, R.length, R⟩) (n₀ := w2.heap.size) HB7 HV7 HT7 hgrow hown8 q1 (Nat.le_refl _) (by omega)
          have hx9 := (hx8.keep q1).apart ⟨W.heap.size, 0, none⟩ (.slice A5 (ts.length + 1) c5) (by simp only; omega)
          have b9 := boxed_below (list_box HV7 hgrow) q1
          have d9 := b9.cell
          have f9 := b9.frozen
          have z9 := b9.lt
          have HP1 := Lib.hid P1
          have HP2 := Lib.hid P2
          have HP3 := Lib.hid P3
          have HX9 := Lib.hid hx9
          clear P1 P2 P3 hx9 b9 hown7 hown8 hgrow hx8 hc7 HT7 HV7
          go_simp
          refine hK5 _ _ HX9.out (wpUp_done (by kernel_rfl) (fun W9 s1 s2 => NoPanic.normal ?_))
          have HKE9 : KE lsT w2.heap.size W.heap.size X W9 := HP2.out.trans (ke_of_below s1 (by have := HP2.out.size; omega))
          refine ⟨(HP3.out _).trans (keeps_of_below s1 _), HKE9, ⟨.slice A5 (ts.length + 1) c5, ts ++ [⟨A, R.length, R⟩], ?_⟩, hS.trans HKE9⟩
          rw [HWANT.out]
          exact HP1.out.to s1
    case done =>
      rintro D xs X hD hxs ⟨⟨v, ts, hv⟩, hKE⟩ hDf
      rw [hxs] at hv
      have hcl := hv.box.cell
      have hlts : ts.length = all.length := by
        have := congrArg List.length hv.eq
        simpa using this
      have hv2 := hv.put (.deferred none) hDf rfl
      have hsz : (X.putObj D (.deferred none)).heap.size = X.heap.size := by simp
      obtain ⟨A5, c5, rfl, h1, h2, hrows⟩ := own_rows (m := ts.map STour.cells) (cells_tour ts) (by rw [cells_flat]; exact hv2.own) (by simp) (by omega)
      have HR := Lib.hid (tours_rows hrows hv2.each)
      have HEQ := Lib.hid hv2.eq
      have HBF : Hid (Below w.heap.size w (X.putObj D (.deferred none))) := (hB2.trans (hKE.spare.below (by omega) (by omega))).trans (belowK_b (w := w) (Nat.le_refl _) X D _ _ (by omega) hDf rfl rfl)
      clear hv hv2 hrows hsz
      gi_wp2
      refine ⟨by simp, .inl ⟨_, _, rfl, run_takeDeferred hDf, ?_⟩⟩
      exact ⟨_, results_tmp2 rfl _ _ _, A5, ts, by rw [hlts]; rfl, HR.out, HEQ.out, HBF.out⟩
end Go.Proofs.YtomgnpfpaodpiaaDoor

