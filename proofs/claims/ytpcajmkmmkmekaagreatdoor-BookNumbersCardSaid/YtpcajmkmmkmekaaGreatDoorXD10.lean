/- Contract of the specification's Twins. -/
import Derived.Test.YtpcajmkmmkmekaaGreatDoorXD9
import Derived.Test.YtpcajmkmmkmekaaGreatDoorXD6
set_option linter.unusedVariables false
set_option linter.unusedSimpArgs false
namespace Go.Proofs.YtpcajmkmmkmekaaGreatDoor
open Go Go.RowKit
set_option maxHeartbeats 4000000
set_option maxRecDepth 100000 in
theorem rTwins_yes (r : Rack) (d : Int) (hv : validB r = true) (ha : limB 3 d = true) (w : World) (h : RackAt w w.heap.size r) :
    Calls Tryz.prog 14 #[r.val, vi d] w fun e w' => ∃ A cap, e = .returned (.tuple #[.slice A (twinsOn r d).length cap, vi 0]) ∧ IntsAt w' w'.heap.size A (twinsOn r d).length (twinsOn r d) ∧ Below w.heap.size w w' := by
  have he : askedE r true = 0 := by simp [askedE, hv]
  have HE := Lib.hid he
  have HR := Lib.hid h
  have Q1 := Lib.hid ha
  have hok := rack_ok hv
  have hn2 := hok.n2
  have hn24 : Hid (∀ x ∈ r.issues, x.entries.length ≤ 24) := fun x hx => (hok.issues x hx).n1
  have hcap := IssuesAt.cap h
  have hlen := IssuesAt.len h
  have HI : Hid (IssuesAt w w.heap.size r.ad r.cap r.issues) := h
  have hTT := twins_turns hok d
  have hTL : (twinsOn r d).length = (twinAll r.issues d r.issues.length).length := by rw [← hTT, sorted_len]
  rw [hTL, ← hTT]
  have TP : Hid (∀ n ∈ twinAll r.issues d r.issues.length, 0 ≤ n) := fun n hn => twinAll_pos hok (Nat.le_refl _) hn
  have TD : Hid (twinAll r.issues d r.issues.length).Nodup := (twinAll_is (n := 0) _ (Nat.le_refl _)).1
  have TLE : Hid (∀ k, k ≤ r.issues.length → (twinAll r.issues d k).length ≤ k * 96) := fun k hk => twinAll_len hn2 hn24.out k hk
  clear he ha hv hok h hTT hTL
  obtain ⟨rg, rA, rcap, ri⟩ := r
  simp only at hcap hlen hn2 HI TP TD TLE hn24
  show Calls Tryz.prog 14 #[.agg #[vi rg, .slice rA ri.length rcap], vi d] w fun e w' => ∃ A cap, e = .returned (.tuple #[.slice A (twinAll ri d ri.length).length cap, vi 0]) ∧ IntsAt w' w'.heap.size A (twinAll ri d ri.length).length (sorted (twinAll ri d ri.length)) ∧ Below w.heap.size w w'
  go_enter Tryz.func14, Tryz.ntmps14
  go_wp2_with fail
  (refine wp_region_grow_lit (by kernel_rfl) (by kernel_rfl) ?_; (repeat (go_big_quiet_step (first | (go_at_call 45; refine Calls.grow_same (risDay_is Q1.out _)) | (go_at_call 30; refine Calls.grow_of (asked_is HE.out _ (HR.out.to (by (repeat (first | exact Below.refl _ _ | refine Below.setCell ?_ (by first | omega | (simp; omega) | (simp; done)) _ | refine Below.alloc ?_ (by first | omega | (simp; omega) | (simp; done)) _ | refine Below.drew ?_ | refine below_drewN ?_ _ | refine Below.trans ?_ (Below.mono (plus_below _ _) (by first | omega | (simp; omega) | (simp; done))) | refine Below.trans ?_ (Below.mono (by assumption) (by first | omega | (simp; omega) | (simp; done)))))))))))); refine wpQuiet_nil ?_; intro w1 hw1; have hb1 := below_of_plus hw1; clear hw1; obtain ⟨⟨hc1, hf1, hs1⟩, hz1⟩ := after hb1; (try simp only [World.size_alloc, World.size_setCell, World.size_drew] at hz1))
  have HB0 : Below w.heap.size w w1 := by (repeat (first | exact Below.refl _ _ | refine Below.setCell ?_ (by first | omega | (simp; omega) | (simp; done)) _ | refine Below.alloc ?_ (by first | omega | (simp; omega) | (simp; done)) _ | refine Below.drew ?_ | refine below_drewN ?_ _ | refine Below.trans ?_ (Below.mono (by assumption) (by first | omega | (simp; omega) | (simp; done)))))
  have a1 : w1.cell? ⟨w.heap.size, 1, none⟩ = some (.slice rA ri.length rcap) := cell_keep hb1 (by simp [go_sem])
  have z1 : w.heap.size < w1.heap.size := cell_lt a1
  clear hc1 hf1 hs1 hb1 hz1 HE HR
  have HIW : Hid (IssuesAt w1 w1.heap.size rA rcap ri) := IssuesAt.to HI.out HB0
  obtain ⟨W, rfl⟩ : ∃ W : World, W = w1 := ⟨_, rfl⟩
  go_wp2_with fail
  go_loopw [7, 8] (fun u i wr => ∃ k : Nat, k ≤ ri.length ∧ i = .int .i64 k ∧ Below W.heap.size W wr ∧ wr.ownsRow W.heap.size 3 1 u (twinAll ri d k).length ((twinAll ri d k).map vi)) (fun _ i _ => ri.length - (intOf i).toNat)
  case atStart => exact ⟨0, Nat.zero_le _, rfl, Below.refl _ _, by simpa [twinAll] using World.ownsRow_nil _ _ _ _⟩
  obtain ⟨k, hk, rfl, hB, hown⟩ := hrel
  have hbs := hB.size
  have HBr : Below w.heap.size w wr := HB0.trans (hB.mono HB0.size)
  have a1r := cell_keep hB a1
  have za : w.heap.size < wr.heap.size := cell_lt a1r
  have htl := TLE.out k hk
  have htl2 : (twinAll ri d k).length ≤ 384 := by omega
  clear htl
  by_cases hlt : k < ri.length
  · obtain ⟨x, hx⟩ : ∃ x, ri[k]? = some x := ⟨_, List.getElem?_eq_getElem hlt⟩
    obtain ⟨bb, off, rfl, hbb, x0, x1, x2, x3⟩ := row4 HIW.out.row hx rfl
    have hXW := HIW.out.at_ hx
    have xc := hXW.cap
    have xl2 := hXW.len
    have xl24 := hn24.out x (List.mem_of_getElem? hx)
    have hST : twinAll ri d (k + 1) = (ri.take k).foldl (twinS d x) (twinAll ri d k) := twinAll_succ hx
    obtain ⟨T, hT⟩ : ∃ T, T = twinAll ri d k := ⟨_, rfl⟩
    rw [← hT] at hown hST htl2
    have ST := Lib.hid hST
    have FL : Hid (∀ m, m ≤ k → ((ri.take m).foldl (twinS d x) T).length ≤ 480) := fun m hm => by
      have := twinF_len (d := d) xl24 (ri.take m) T
      rw [List.length_take] at this
      have h3 : min m ri.length * 24 ≤ 4 * 24 := Nat.mul_le_mul_right _ (by omega)
      omega
    have hkI : (k : Int) < ri.length := by omega
    have h0k : (0 : Int) ≤ k := by omega
    clear hx hST hT
    obtain ⟨v1, hv1⟩ : ∃ v1, (decide (x.lo ≤ d) && decide (d ≤ x.hi)) = v1 := ⟨_, rfl⟩
    have HX1 : Hid (inUseQ d d x = v1) := by
      unfold Hid
      rw [← hv1, Bool.eq_iff_iff]
      simp only [inUseQ, meetB, Bool.and_eq_true, decide_eq_true_eq]
    obtain ⟨X, hXd⟩ : ∃ X : Issue, X = x := ⟨_, rfl⟩
    rw [← hXd] at ST FL HX1
    have HXD := Lib.hid hXd
    clear hXd
    obtain ⟨xlo, xhi, xhd, xA, xcap, xl⟩ := x
    simp only at x0 x1 x2 x3 xc xl2 xl24 hv1
    have HV1 := Lib.hid hv1
    have HXW : Hid (EntriesAt W W.heap.size xA xcap xl) := hXW
    clear hXW hv1
    have zbW : bb < W.heap.size := hbb
    have zaW : w.heap.size < W.heap.size := z1
    obtain ⟨A', c', rfl, -⟩ := own_ints hown rfl (by omega)
    obtain ⟨wo, rfl⟩ : ∃ wo : World, wo = wr := ⟨_, rfl⟩
    go_wp2_with fail
    go_loopw [7, 9] (fun u i w2 => ∃ m : Nat, m ≤ k ∧ i = .int .i64 m ∧ Below W.heap.size W w2 ∧ w2.ownsRow W.heap.size 3 1 u ((ri.take m).foldl (twinS d X) T).length (((ri.take m).foldl (twinS d X) T).map vi)) (fun _ i _ => k - (intOf i).toNat)
    case atStart => exact ⟨0, Nat.zero_le _, rfl, hB, by simpa using hown⟩
    clear hown hB HBr a1r za hbs
    obtain ⟨m, hm, rfl, hB, hown⟩ := hrel
    have hfl := FL.out m hm
    obtain ⟨U, hU⟩ : ∃ U, U = (ri.take m).foldl (twinS d X) T := ⟨_, rfl⟩
    rw [← hU] at hown hfl
    obtain ⟨A2, c2, rfl, -⟩ := own_ints hown rfl (by omega)
    have hbs := hB.size
    have a1r := cell_keep hB a1
    have za : w.heap.size < wr.heap.size := cell_lt a1r
    by_cases hmk : m < k
    · obtain ⟨y, hy⟩ : ∃ y, ri[m]? = some y := ⟨_, List.getElem?_eq_getElem (by omega)⟩
      obtain ⟨bb2, off2, hA2, hbb2, y0, y1, y2, y3⟩ := row4 HIW.out.row hy rfl
      simp only [Option.some.injEq, Addr.mk.injEq, and_true] at hA2
      obtain ⟨rfl, rfl⟩ := hA2
      have hYW := HIW.out.at_ hy
      have yc := hYW.cap
      have yl2 := hYW.len
      have hS2 : (ri.take (m + 1)).foldl (twinS d X) T = twinS d X U y := by rw [fold_succ hy, hU]
      have S2 := Lib.hid hS2
      have hmI : (m : Int) < ri.length := by omega
      have h0m : (0 : Int) ≤ m := by omega
      have hmkI : (m : Int) < k := by omega
      clear hy hS2 hU
      obtain ⟨v2, hv2⟩ : ∃ v2, (decide (y.lo ≤ d) && decide (d ≤ y.hi)) = v2 := ⟨_, rfl⟩
      have HX2 : Hid (inUseQ d d y = v2) := by
        unfold Hid
        rw [← hv2, Bool.eq_iff_iff]
        simp only [inUseQ, meetB, Bool.and_eq_true, decide_eq_true_eq]
      obtain ⟨Y, hYd⟩ : ∃ Y : Issue, Y = y := ⟨_, rfl⟩
      rw [← hYd] at S2 HX2
      have HYD := Lib.hid hYd
      clear hYd
      obtain ⟨ylo, yhi, yhd, yA, ycap, yl⟩ := y
      simp only at y0 y1 y2 y3 yc yl2 hv2
      have HV2 := Lib.hid hv2
      have HYW : Hid (EntriesAt W W.heap.size yA ycap yl) := hYW
      clear hYW hv2
      have x0r := cell_keep hB x0
      have x1r := cell_keep hB x1
      have zbr : bb < wr.heap.size := cell_lt x0r
      have SAME : Hid (twinS d X U Y = U → ∀ w' : World, Below wr.heap.size wr w' → ∃ m2 : Nat, m2 ≤ k ∧ Value.int .i64 ((m : Int) + 1) = .int .i64 m2 ∧ Below W.heap.size W w' ∧ w'.ownsRow W.heap.size 3 1 (.slice A2 U.length c2) ((ri.take m2).foldl (twinS d X) T).length (((ri.take m2).foldl (twinS d X) T).map vi)) :=
        fun hs w' hw' => ⟨m + 1, by omega, by simp, gr_trans hB hw', by rw [S2.out, hs]; exact own_keep hown hw'⟩
      rcases v1 with _ | _
      · have HS : Hid (twinS d X U Y = U) := by unfold Hid twinS; rw [HX1.out]; simp
        go_wp2_with fail
        refine (has_is' HV1.out _).mono ?_
        rintro e w3 ⟨rfl, hb3⟩
        go_wp2_with fail
        go_roundw
        case rel =>
          obtain ⟨m2, g1, g2, g3⟩ := SAME.out HS.out w3 hb3
          exact ⟨m2, g1, by rw [← g2], g3⟩
        case measure => simp [intOf]; omega
      · go_wp2_with fail
        refine (has_is' HV1.out _).mono ?_
        rintro e w3 ⟨rfl, hb3⟩
        have a13 := cell_keep hb3 a1r
        have x03 := cell_keep hb3 x0r
        have hB3 : Below W.heap.size W w3 := gr_trans hB hb3
        have y03 := cell_keep hB3 y0
        have y13 := cell_keep hB3 y1
        have za3 := cell_lt a13
        have zb3 := cell_lt x03
        clear a1r x0r x1r za zbr
        rcases v2 with _ | _
        · have HS : Hid (twinS d X U Y = U) := by unfold Hid twinS; rw [HX1.out, HX2.out]; simp
          go_wp2_with fail
          refine (has_is' HV2.out _).mono ?_
          rintro e w4 ⟨rfl, hb4⟩
          go_wp2_with fail
          go_roundw
          case rel =>
            obtain ⟨m2, g1, g2, g3⟩ := SAME.out HS.out w4 (gr_trans hb3 hb4)
            exact ⟨m2, g1, by rw [← g2], g3⟩
          case measure => simp [intOf]; omega
        · have HS : Hid (twinS d X U Y = clashF X Y U) := by unfold Hid twinS; rw [HX1.out, HX2.out]; simp
          go_wp2_with fail
          refine (has_is' HV2.out _).mono ?_
          rintro e w4 ⟨rfl, hb4⟩
          have hB4 : Below W.heap.size W w4 := gr_trans hB3 hb4
          have hown4 := own_keep (own_keep hown hb3) hb4
          clear hb3 hb4 a13 x03 y03 y13 za3 zb3 hB3 SAME hown
          go_upto_region 12 with fail
          refine' wp_region_box (fun w' => Below W.heap.size W w') (stays_below _) [0, 1, 2, 3, 4, 5, 6, 7, 8, 9, 10] 2 61 (by kernel_rfl) (by kernel_rfl) rfl (by kernel_rfl) (by kernel_rfl) rfl (by kernel_rfl) ?hl12 hB4 ?hq12 ?hr12
          case hl12 =>
            simp only [List.map_cons, List.map_nil, List.getD_cons_zero, List.getD_cons_succ]
            exact rfl
          case hq12 =>
            intro w0 hw0
            have u1 := cell_keep hw0 a1
            have p0 := cell_keep hw0 x0
            have p1 := cell_keep hw0 x1
            have p2 := cell_keep hw0 x2
            have p3 : w0.cell? ⟨bb, off + k * 4 + 3, none⟩ = some (.slice xA xl.length xcap) := cell_keep hw0 x3
            have q0 := cell_keep hw0 y0
            have q1 := cell_keep hw0 y1
            have q2 := cell_keep hw0 y2
            have q3 : w0.cell? ⟨bb, off + m * 4 + 3, none⟩ = some (.slice yA yl.length ycap) := cell_keep hw0 y3
            have v1 : w.heap.size < w0.heap.size := cell_lt u1
            have v2 : bb < w0.heap.size := cell_lt p0
            (repeat (go_big_quiet_step (fail)))
            exact wpQuiet_nil rfl
          refine wpUp_one (i := 11) (by kernel_rfl) rfl rfl (fun w5 h5 h6 K hK => ?_)
          go_simp
          refine (clash_run ⟨xlo, xhi, xhd, xA, xcap, xl⟩ ⟨ylo, yhi, yhd, yA, ycap, yl⟩ W.heap.size (.slice A2 U.length c2) U.length U w5 h6.size (HXW.out.below h6) (HYW.out.below h6) (own_keep hown4 h5) rfl (by simp only; omega)).mono ?_
          rintro e w6 ⟨v', rfl, hown6, hb6⟩
          simp only [Act.put, List.setIfInBounds_toArray, List.set_cons_zero, List.set_cons_succ]
          refine hK _ _ (h6.trans hb6) ?_
          refine wpUp_one (i := 12) (by kernel_rfl) rfl rfl (fun w7 h7 h8 K2 hK2 => ?_)
          go_simp
          refine hK2 _ _ h8 (wpUp_done (by kernel_rfl) (fun W9 h9 h10 => NoPanic.normal ?_))
          have hown9 := own_keep hown6 (gr_trans h7 h9)
          clear hown4 hown6 h5 h6 h7 h8 h9 hb6 hK hK2 hB4
          obtain ⟨A9, c9, rfl, -, -⟩ := own_form hown9
          go_wp2_with fail
          go_roundw
          case rel =>
            refine ⟨m + 1, by omega, by go_num, h10, ?_⟩
            rw [S2.out, HS.out, ← HXD.out, ← HYD.out] at *
            exact hown9
          case measure => simp [intOf]; omega
    · have hme : m = k := by omega
      have HU : Hid (twinAll ri d (k + 1) = U) := by unfold Hid; rw [ST.out, hU, hme]
      have hmkn : (k : Int) ≤ m := by omega
      clear hU hme
      go_wp2_with fail
      go_roundw
      case rel =>
        refine ⟨k + 1, by omega, by go_num, hB, ?_⟩
        rw [HU.out]
        exact hown
      case measure => simp [intOf]; omega
  · obtain rfl : k = ri.length := by omega
    obtain ⟨A', c', rfl, hi'⟩ := own_ints hown rfl (by omega)
    go_wp2_with fail
    refine (sorted_run A' c' (twinAll ri d ri.length) _ hi' TP.out TD.out (by omega)).mono ?_
    rintro e w5 ⟨A5, c5, rfl, h5, hb5⟩
    go_wp2_with fail
    go_ret2
    exact ⟨A5, c5, rfl, h5, HBr.trans (hb5.mono HBr.size)⟩
theorem rTwins_any (r : Rack) (d : Int) (w : World) (h : RackAt w w.heap.size r) :
    Calls Tryz.prog 14 #[r.val, vi d] w fun e w' => ∃ A cap, e = .returned (.tuple #[.slice A (twinsL r d).length cap, vi (twinsErr r d)]) ∧ IntsAt w' w'.heap.size A (twinsL r d).length (twinsL r d) ∧ Below w.heap.size w w' := by
  have nil : ∀ w' : World, IntsAt w' w'.heap.size none 0 [] := fun w' => ⟨Nat.le_refl _, by omega, fun hl => absurd hl (by simp)⟩
  by_cases hv : validB r = true
  · by_cases ha : limB 3 d = true
    · have hrs : twinsErr r d = 0 ∧ twinsL r d = twinsOn r d := by simp [twinsErr, twinsL, hv, ha]
      rw [hrs.1, hrs.2]
      exact rTwins_yes r d hv ha w h
    · have ha' : limB 3 d = false := by simpa using ha
      have hrs : twinsErr r d = 11 ∧ twinsL r d = [] := by simp [twinsErr, twinsL, hv, ha']
      rw [hrs.1, hrs.2]
      refine (rTwins_err r d 11 (by rw [ha']; simp [askedE, hv]) (.inr rfl) w h).mono ?_
      rintro e w' ⟨rfl, hb⟩
      exact ⟨none, 0, rfl, nil w', hb⟩
  · have hv' : validB r = false := by simpa using hv
    have hrs : twinsErr r d = 10 ∧ twinsL r d = [] := by simp [twinsErr, twinsL, hv']
    rw [hrs.1, hrs.2]
    refine (rTwins_err r d 10 (by simp [askedE, hv']) (.inl rfl) w h).mono ?_
    rintro e w' ⟨rfl, hb⟩
    exact ⟨none, 0, rfl, nil w', hb⟩
end Go.Proofs.YtpcajmkmmkmekaaGreatDoor

