/- Contract of the specification's Means. -/
import Derived.Test.YtpcajmkmmkmekaaGreatDoorXE5
import Derived.Test.YtpcajmkmmkmekaaGreatDoorXD7
set_option linter.unusedVariables false
set_option linter.unusedSimpArgs false
namespace Go.Proofs.YtpcajmkmmkmekaaGreatDoor
open Go Go.RowKit
set_option maxHeartbeats 4000000
theorem common_is {a b c d m n : Int} (hm : max a c = m) (hn : min b d = n) (w : World) :
    Calls Tryz.prog 33 #[.agg #[vi a, vi b], .agg #[vi c, vi d]] w fun e w' => e = .returned (.agg #[vi m, vi n]) ∧ Below w.heap.size w w' := by
  subst hm hn
  exact common_any a b c d w
theorem own_rows {w : World} {base n : Nat} {e : TypeId} {v : Value} {m : List (List Value)} (hsz : ∀ r ∈ m, r.length = 2) (h : w.ownsRow base e 2 v n m.flatten) (hn : m.length = n) (h24 : n ≤ 17592186044416) : ∃ A c, v = .slice A n c ∧ RowsAt w w.heap.size 2 A n m := by
  rcases h.2 with ⟨e1, h0⟩ | ⟨g, cap, cur, e1, _⟩
  · exact ⟨none, 0, by rw [e1, h0], by omega, h24, fun hl => by omega⟩
  · subst e1
    exact ⟨_, cap, rfl, by omega, h24, row_of_own hsz h⟩
theorem meantC_two (l : List (Int × Int)) : ∀ r ∈ l.map meantC, r.length = 2 := fun r hr => by
  obtain ⟨p, _, rfl⟩ := List.mem_map.1 hr
  rfl
theorem meant_step_no {n : Int} {l : List Issue} {q : Issue → Bool} {k : Nat} {x : Issue} (h : l[k]? = some x) (hq : q x = false ∨ numGood x n = none) : meantL n (bk l q (k + 1)) = meantL n (bk l q k) := by
  by_cases hx : q x = true
  · rw [bk_yes h hx]
    rcases hq with hq | hq
    · rw [hx] at hq; cases hq
    · exact meant_no hq
  · rw [bk_no h (by simpa using hx)]
theorem meant_step_yes {n g : Int} {l : List Issue} {q : Issue → Bool} {k : Nat} {x : Issue} (h : l[k]? = some x) (hq : q x = true) (hg : numGood x n = some g) : meantL n (bk l q (k + 1)) = meantL n (bk l q k) ++ [((k : Int), g)] := by
  rw [bk_yes h hq]
  exact meant_yes hg
theorem meant_short (n : Int) (l : List Issue) (q : Issue → Bool) (k : Nat) : (meantL n (bk l q k)).length ≤ k := Nat.le_trans (meant_len _ _) (bk_len _ _ _)
set_option maxRecDepth 100000 in
theorem rMeans_yes (r : Rack) (a b n : Int) (hv : validB r = true) (ha : meansAsk a b n = true) (w : World) (h : RackAt w w.heap.size r) :
    Calls Tryz.prog 7 #[r.val, .agg #[vi a, vi b], vi n] w fun e w' => ∃ A cap, e = .returned (.tuple #[.slice A (meantL n (bk r.issues (inUseQ a b) r.issues.length)).length cap, vi 0]) ∧ RowsAt w' w'.heap.size 2 A (meantL n (bk r.issues (inUseQ a b) r.issues.length)).length ((meantL n (bk r.issues (inUseQ a b) r.issues.length)).map meantC) ∧ Below w.heap.size w w' := by
  have he : askedE r true = 0 := by simp [askedE, hv]
  have HE := Lib.hid he
  have HR := Lib.hid h
  rw [meansAsk, Bool.and_eq_true] at ha
  have hab := (lim_days ha.1).2.1
  have Q1 := Lib.hid ha.1
  have Q2 := Lib.hid ha.2
  have hok := rack_ok hv
  have hn2 := hok.n2
  have OK : Hid (∀ x ∈ r.issues, IssueOk r x) := hok.issues
  have hcap := IssuesAt.cap h
  have hlen := IssuesAt.len h
  have HI : Hid (IssuesAt w w.heap.size r.ad r.cap r.issues) := h
  clear he ha hv hok h
  obtain ⟨rg, rA, rcap, ri⟩ := r
  simp only at hcap hlen hn2 HI OK
  obtain ⟨i0, hi, hy0, hy1, hy2⟩ := info_parts info_meant
  show Calls Tryz.prog 7 #[.agg #[vi rg, .slice rA ri.length rcap], .agg #[vi a, vi b], vi n] w fun e w' => ∃ A cap, e = .returned (.tuple #[.slice A (meantL n (bk ri (inUseQ a b) ri.length)).length cap, vi 0]) ∧ RowsAt w' w'.heap.size 2 A (meantL n (bk ri (inUseQ a b) ri.length)).length ((meantL n (bk ri (inUseQ a b) ri.length)).map meantC) ∧ Below w.heap.size w w'
  go_enter Tryz.func7, Tryz.ntmps7
  go_wp2_with fail
  (refine wp_region_grow_lit (by kernel_rfl) (by kernel_rfl) ?_; (repeat (go_big_quiet_step (first | (go_at_call 31; refine Calls.grow_of (risDays_is Q1.out _)) | (go_at_call 32; refine Calls.grow_same (risNumber_is Q2.out _)) | (go_at_call 30; refine Calls.grow_of (asked_is HE.out _ (HR.out.to (by (repeat (first | exact Below.refl _ _ | refine Below.setCell ?_ (by first | omega | (simp; omega) | (simp; done)) _ | refine Below.alloc ?_ (by first | omega | (simp; omega) | (simp; done)) _ | refine Below.drew ?_ | refine below_drewN ?_ _ | refine Below.trans ?_ (Below.mono (plus_below _ _) (by first | omega | (simp; omega) | (simp; done))) | refine Below.trans ?_ (Below.mono (by assumption) (by first | omega | (simp; omega) | (simp; done)))))))))))); refine wpQuiet_nil ?_; intro w1 hw1; have hb1 := below_of_plus hw1; clear hw1; obtain ⟨⟨hc1, hf1, hs1⟩, hz1⟩ := after hb1; (try simp only [World.size_alloc, World.size_setCell, World.size_drew] at hz1))
  have HB0 : Below w.heap.size w w1 := by (repeat (first | exact Below.refl _ _ | refine Below.setCell ?_ (by first | omega | (simp; omega) | (simp; done)) _ | refine Below.alloc ?_ (by first | omega | (simp; omega) | (simp; done)) _ | refine Below.drew ?_ | refine below_drewN ?_ _ | refine Below.trans ?_ (Below.mono (by assumption) (by first | omega | (simp; omega) | (simp; done)))))
  have a0 : w1.cell? ⟨w.heap.size, 0, none⟩ = some (vi rg) := cell_keep hb1 (by simp [go_sem])
  have a1 : w1.cell? ⟨w.heap.size, 1, none⟩ = some (.slice rA ri.length rcap) := cell_keep hb1 (by simp [go_sem])
  have b0 : w1.cell? ⟨w.heap.size + 1, 0, none⟩ = some (vi a) := cell_keep hb1 (by simp [go_sem])
  have b1 : w1.cell? ⟨w.heap.size + 1, 1, none⟩ = some (vi b) := cell_keep hb1 (by simp [go_sem])
  have z1 : w.heap.size < w1.heap.size := cell_lt a0
  have z2 : w.heap.size + 1 < w1.heap.size := cell_lt b0
  clear hc1 hf1 hs1 hb1 hz1 HE HR
  obtain ⟨W, rfl⟩ : ∃ W : World, W = w1 := ⟨_, rfl⟩
  go_wp2_with fail
  go_loopw [9, 10] (fun u i wr => ∃ k : Nat, k ≤ ri.length ∧ i = .int .i64 k ∧ Below W.heap.size W wr ∧ wr.ownsRow W.heap.size 70 2 u (meantL n (bk ri (inUseQ a b) k)).length ((meantL n (bk ri (inUseQ a b) k)).map meantC).flatten) (fun _ i _ => ri.length - (intOf i).toNat)
  case atStart => exact ⟨0, Nat.zero_le _, rfl, Below.refl _ _, by simpa [meantL, bk_zero] using World.ownsRow_nil _ _ _ _⟩
  obtain ⟨k, hk, rfl, hB, hown⟩ := hrel
  have hbs := hB.size
  have HBr : Below w.heap.size w wr := HB0.trans (hB.mono HB0.size)
  have a0r := cell_keep hB a0
  have a1r := cell_keep hB a1
  have b0r := cell_keep hB b0
  have b1r := cell_keep hB b1
  have za : w.heap.size < wr.heap.size := cell_lt a0r
  have zb : w.heap.size + 1 < wr.heap.size := cell_lt b0r
  have hml := meant_short n ri (inUseQ a b) k
  by_cases hlt : k < ri.length
  · obtain ⟨x, hx⟩ : ∃ x, ri[k]? = some x := ⟨_, List.getElem?_eq_getElem hlt⟩
    have hIr := IssuesAt.to HI.out HBr
    obtain ⟨bb, off, rfl, hbb, x0, x1, x2, x3⟩ := row4 hIr.row hx rfl
    have hX : IssueAt wr wr.heap.size x := hIr.at_ hx
    have xok := OK.out x (List.mem_of_getElem? hx)
    have xd2 := xok.d2
    have xc := hX.cap
    have xl2 := hX.len
    have SNO : Hid ((inUseQ a b x = false ∨ numGood x n = none) → meantL n (bk ri (inUseQ a b) (k + 1)) = meantL n (bk ri (inUseQ a b) k)) := fun hq => meant_step_no hx hq
    have SYES : Hid (∀ g, inUseQ a b x = true → numGood x n = some g → meantL n (bk ri (inUseQ a b) (k + 1)) = meantL n (bk ri (inUseQ a b) k) ++ [((k : Int), g)]) := fun g hq hg => meant_step_yes hx hq hg
    have hkI : (k : Int) < ri.length := by omega
    have h0k : (0 : Int) ≤ k := by omega
    clear hx xok hIr
    obtain ⟨xlo, xhi, xhd, xA, xcap, xl⟩ := x
    simp only at x0 x1 x2 x3 xc xl2 xd2
    have HX : Hid (IssueAt wr wr.heap.size ⟨xlo, xhi, xhd, xA, xcap, xl⟩) := hX
    have HXE : EntriesAt wr wr.heap.size xA xcap xl := hX
    clear hX
    obtain ⟨mx, hmx⟩ : ∃ mx, max xlo a = mx := ⟨_, rfl⟩
    obtain ⟨mn, hmn⟩ : ∃ mn, min xhi b = mn := ⟨_, rfl⟩
    have hUse : decide (mx ≤ mn) = inUseQ a b ⟨xlo, xhi, xhd, xA, xcap, xl⟩ := by
      rw [Bool.eq_iff_iff]
      simp only [inUseQ, meetB, Bool.and_eq_true, decide_eq_true_eq]
      omega
    have HMX := Lib.hid hmx
    have HMN := Lib.hid hmn
    have USE := Lib.hid hUse
    clear hmx hmn hUse
    obtain ⟨av, hav⟩ : ∃ av, atF xl n = av := ⟨_, rfl⟩
    have HAT := Lib.hid hav
    have zbb : bb < wr.heap.size := cell_lt x0
    obtain ⟨L, hL⟩ : ∃ L, L = meantL n (bk ri (inUseQ a b) k) := ⟨_, rfl⟩
    rw [← hL] at hown hml SNO SYES
    clear hL
    obtain ⟨A', c', rfl, -⟩ := own_rows (meantC_two _) hown (by simp) (by omega)
    go_wp2_with fail
    refine (common_is HMX.out HMN.out _).mono ?_
    rintro e w2 ⟨rfl, hb2⟩
    have HB2 : Below wr.heap.size wr w2 := by (repeat (first | exact Below.refl _ _ | refine Below.setCell ?_ (by first | omega | (simp; omega) | (simp; done)) _ | refine Below.alloc ?_ (by first | omega | (simp; omega) | (simp; done)) _ | refine Below.drew ?_ | refine below_drewN ?_ _ | refine Below.trans ?_ (Below.mono (by assumption) (by first | omega | (simp; omega) | (simp; done)))))
    have p0 : w2.cell? ⟨wr.heap.size, 0, none⟩ = some (vi xlo) := cell_keep hb2 (by simp [go_sem])
    have p1 : w2.cell? ⟨wr.heap.size, 1, none⟩ = some (vi xhi) := cell_keep hb2 (by simp [go_sem])
    have p2 : w2.cell? ⟨wr.heap.size, 2, none⟩ = some (vi xhd) := cell_keep hb2 (by simp [go_sem])
    have p3 : w2.cell? ⟨wr.heap.size, 3, none⟩ = some (.slice xA xl.length xcap) := cell_keep hb2 (by simp [go_sem])
    have zp : wr.heap.size < w2.heap.size := cell_lt p0
    clear hb2 x0 x1 x2 x3
    go_wp2_with fail
    refine (at_is (x := ⟨xlo, xhi, xhd, xA, xcap, xl⟩) HAT.out _ (HX.out.to (by (repeat (first | exact Below.refl _ _ | refine Below.setCell ?_ (by first | omega | (simp; omega) | (simp; done)) _ | refine Below.alloc ?_ (by first | omega | (simp; omega) | (simp; done)) _ | refine Below.drew ?_ | refine below_drewN ?_ _ | refine Below.trans ?_ (Below.mono (by assumption) (by first | omega | (simp; omega) | (simp; done)))))))).mono ?_
    rintro e w3 ⟨rfl, hb3⟩
    have HB3 : Below wr.heap.size wr w3 := by (repeat (first | exact Below.refl _ _ | refine Below.setCell ?_ (by first | omega | (simp; omega) | (simp; done)) _ | refine Below.alloc ?_ (by first | omega | (simp; omega) | (simp; done)) _ | refine Below.drew ?_ | refine below_drewN ?_ _ | refine Below.trans ?_ (Below.mono (by assumption) (by first | omega | (simp; omega) | (simp; done)))))
    have q3 : w3.cell? ⟨wr.heap.size, 2 + 1, none⟩ = some (.slice xA xl.length xcap) := cell_keep hb3 (cell_alloc p3 _)
    have q4 : w3.cell? ⟨wr.heap.size, 3, none⟩ = some (.slice xA xl.length xcap) := q3
    have m0 : w3.cell? ⟨w2.heap.size, 0, none⟩ = some (vi mx) := cell_keep hb3 (by simp [go_sem])
    have m1 : w3.cell? ⟨w2.heap.size, 1, none⟩ = some (vi mn) := cell_keep hb3 (by simp [go_sem])
    have zq : wr.heap.size < w3.heap.size := cell_lt q3
    have zm : w2.heap.size < w3.heap.size := cell_lt m0
    have hown3 := own_keep hown HB3
    have HBW3 : Below W.heap.size W w3 := gr_trans hB HB3
    have hE3 := HXE.to HB3
    obtain ⟨mb, hmb⟩ : ∃ mb, mb = w2.heap.size := ⟨_, rfl⟩
    rw [← hmb] at m0 m1 zm ⊢
    clear hmb hb3 HB2 p0 p1 p2 p3 zp a0r a1r b0r b1r HXE
    have SAME : Hid (meantL n (bk ri (inUseQ a b) (k + 1)) = L → ∃ k2 : Nat, k2 ≤ ri.length ∧ Value.int .i64 ((k : Int) + 1) = .int .i64 k2 ∧ Below W.heap.size W w3 ∧ w3.ownsRow W.heap.size 70 2 (.slice A' L.length c') (meantL n (bk ri (inUseQ a b) k2)).length ((meantL n (bk ri (inUseQ a b) k2)).map meantC).flatten) :=
      fun hs => ⟨k + 1, by omega, by simp, HBW3, by rw [hs]; exact hown3⟩
    by_cases hle : mx ≤ mn
    · have hled : decide (mx ≤ mn) = true := by simpa using hle
      have hU : inUseQ a b ⟨xlo, xhi, xhd, xA, xcap, xl⟩ = true := by rw [← USE.out]; exact hled
      have HU := Lib.hid hU
      rcases at_cases xl n with ⟨t1, t2⟩ | ⟨q, e, t1, t2, t3⟩
      · have hNG : numGood ⟨xlo, xhi, xhd, xA, xcap, xl⟩ n = none := by simp [numGood, t2]
        have HS := Lib.hid (SNO.out (.inr hNG))
        obtain rfl : av = -1 := hav.symm.trans t1
        clear t1 t2 hNG hav hU hle USE
        go_wp2_with fail
        go_roundw
        case rel =>
          obtain ⟨k2, g1, g2, g3⟩ := SAME.out HS.out
          exact ⟨k2, g1, by rw [← g2], g3⟩
        case measure => simp [intOf]; omega
      · have hNG : numGood ⟨xlo, xhi, xhd, xA, xcap, xl⟩ n = some e.good := by simp [numGood, t3]
        have HS := Lib.hid (SYES.out e.good hU hNG)
        obtain rfl : av = (q : Int) := hav.symm.trans t1
        have hqx := (List.getElem?_eq_some_iff.1 t2).1
        obtain ⟨eb, eo, rfl, heb, e0, e1, e2, e3⟩ := row4 hE3.row t2 rfl
        clear t1 t2 t3 hNG hav hU hle USE
        obtain ⟨en, eg, ec, eA, ecap, el⟩ := e
        simp only at e0 e1 e2 e3 HS
        have qI : (q : Int) < xl.length := by omega
        have q0 : (0 : Int) ≤ q := by omega
        have qd : decide (0 ≤ (q : Int)) = true := by simp
        have zeb : eb < w3.heap.size := cell_lt e0
        go_wp2_with (at_builtin; go_loud (refine wpList_append_own _ rfl _ _ 28 rfl W.heap.size 70 i0 (.agg #[vi 0, vi 0]) 2 16 Tryz.underlying28 hi hy0 hy1 hy2 rfl (by decide) _ _ _ rfl (hown3.alloc _) ⟨w3.heap.size, 0, none⟩ 1 1 [vi k, vi eg] rfl rfl (cells_new _ _ _) (by simp [Value.oneCell']) (by unfold maxLen; omega) (by omega) (by simp; omega) ?_; intro v5 w5 hown5 hgrow5 _))
        have HB5 : Below W.heap.size W w5 := Below.grown (HBW3.alloc (by omega) _) hgrow5 (by simp; omega) (fun j e => (hown3.lt j e).1)
        obtain ⟨A5, c5, rfl, -, -⟩ := own_form hown5
        go_roundw
        case rel =>
          refine ⟨k + 1, by omega, by go_num, HB5, ?_⟩
          rw [HS.out]
          simpa [meantC] using hown5
        case measure => simp [intOf]; omega
    · have hled : decide (mx ≤ mn) = false := by simpa using hle
      have HS := Lib.hid (SNO.out (.inl (by rw [← USE.out]; exact hled)))
      clear hle USE hav
      go_wp2_with fail
      go_roundw
      case rel =>
        obtain ⟨k2, g1, g2, g3⟩ := SAME.out HS.out
        exact ⟨k2, g1, by rw [← g2], g3⟩
      case measure => simp [intOf]; omega
  · obtain rfl : k = ri.length := by omega
    obtain ⟨A', c', rfl, hi'⟩ := own_rows (meantC_two _) hown (by simp) (by omega)
    go_wp2_with fail
    go_ret2
    exact ⟨A', c', rfl, hi', HBr⟩
theorem rMeans_any (r : Rack) (a b n : Int) (w : World) (h : RackAt w w.heap.size r) :
    Calls Tryz.prog 7 #[r.val, .agg #[vi a, vi b], vi n] w fun e w' => ∃ A cap, e = .returned (.tuple #[.slice A (meansL r a b n).length cap, vi (meansErr r a b n)]) ∧ RowsAt w' w'.heap.size 2 A (meansL r a b n).length ((meansL r a b n).map meantC) ∧ Below w.heap.size w w' := by
  have nil : ∀ w' : World, RowsAt w' w'.heap.size 2 none 0 [] := fun w' => ⟨Nat.le_refl _, by omega, fun hl => absurd hl (by simp)⟩
  by_cases hv : validB r = true
  · by_cases ha : meansAsk a b n = true
    · have hrs : meansErr r a b n = 0 ∧ meansL r a b n = meantL n (bk r.issues (inUseQ a b) r.issues.length) := by simp [meansErr, meansL, hv, ha]
      rw [hrs.1, hrs.2]
      exact rMeans_yes r a b n hv ha w h
    · have ha' : meansAsk a b n = false := by simpa using ha
      have hrs : meansErr r a b n = 11 ∧ meansL r a b n = [] := by simp [meansErr, meansL, hv, ha']
      rw [hrs.1, hrs.2]
      refine (rMeans_err r a b n 11 (by rw [show (limS 3 a b && limB 4 n) = meansAsk a b n from rfl, ha']; simp [askedE, hv]) (.inr rfl) w h).mono ?_
      rintro e w' ⟨rfl, hb⟩
      exact ⟨none, 0, rfl, nil w', hb⟩
  · have hv' : validB r = false := by simpa using hv
    have hrs : meansErr r a b n = 10 ∧ meansL r a b n = [] := by simp [meansErr, meansL, hv']
    rw [hrs.1, hrs.2]
    refine (rMeans_err r a b n 10 (by simp [askedE, hv']) (.inl rfl) w h).mono ?_
    rintro e w' ⟨rfl, hb⟩
    exact ⟨none, 0, rfl, nil w', hb⟩
end Go.Proofs.YtpcajmkmmkmekaaGreatDoor

