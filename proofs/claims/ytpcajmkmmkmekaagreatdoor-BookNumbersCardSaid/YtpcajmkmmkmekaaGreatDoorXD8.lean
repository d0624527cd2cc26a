/- Contract of the specification's Number. -/
import Derived.Test.YtpcajmkmmkmekaaGreatDoorXE5
import Derived.Test.YtpcajmkmmkmekaaGreatDoorXD7
set_option linter.unusedVariables false
set_option linter.unusedSimpArgs false
namespace Go.Proofs.YtpcajmkmmkmekaaGreatDoor
open Go Go.RowKit
set_option maxHeartbeats 4000000
set_option maxRecDepth 100000 in
theorem rNumber_any (r : Rack) (issue n other : Int) (w : World) (h : RackAt w w.heap.size r) :
    Calls Tryz.prog 12 #[r.val, vi issue, vi n, vi other] w fun e' w' => e' = .returned (.tuple #[vi (numV r issue n other), vi (numErr r issue n other)]) ∧ Below w.heap.size w w' := by
  have hask : ((decide (0 ≤ issue) && decide (issue ≤ (r.issues.length : Int) - 1)) && ((decide (0 ≤ other) && decide (other ≤ (r.issues.length : Int) - 1)) && limB 4 n)) = numAsk r issue n other := by
    rw [numAsk, issue_ref, issue_ref]
  by_cases hv : validB r = true
  · by_cases ha : numAsk r issue n other = true
    · have he : askedE r true = 0 := by simp [askedE, hv]
      have hask2 := hask.trans ha
      rw [Bool.and_eq_true] at hask2
      obtain ⟨q1, q23⟩ := hask2
      rw [Bool.and_eq_true] at q23
      obtain ⟨q2, q3⟩ := q23
      have hrs : numErr r issue n other = (if (numO r issue n other).isSome then 0 else 4) ∧ numV r issue n other = (numO r issue n other).getD 0 := by simp [numErr, numV, hv, ha]
      have i01 := q1
      have o01 := q2
      simp only [Bool.and_eq_true, decide_eq_true_eq] at i01 o01
      obtain ⟨i, rfl⟩ := Int.eq_ofNat_of_zero_le i01.1
      obtain ⟨o, rfl⟩ := Int.eq_ofNat_of_zero_le o01.1
      have hi : i < r.issues.length := by omega
      have ho : o < r.issues.length := by omega
      obtain ⟨x, hx⟩ : ∃ x, r.issues[i]? = some x := ⟨_, List.getElem?_eq_getElem hi⟩
      obtain ⟨y, hy⟩ : ∃ y, r.issues[o]? = some y := ⟨_, List.getElem?_eq_getElem ho⟩
      have hO : numO r i n o = (numGood x n).bind fun g => (y.entries.find? fun e => e.good == g).map Entry.number := by
        simp only [numO]
        rw [goodsF_at hx]
        simp [goodE, hy]
      rw [hrs.1, hrs.2, hO]
      have HE := Lib.hid he
      have Q1 := Lib.hid q1
      have Q2 := Lib.hid q2
      have Q3 := Lib.hid q3
      have HR := Lib.hid h
      have hcap := IssuesAt.cap h
      have hlen := IssuesAt.len h
      obtain ⟨rg, rA, rcap, ri⟩ := r
      simp only at hx hy hi ho hcap hlen
      obtain ⟨bb, off, hrA, hbb, x0, x1, x2, x3⟩ := row4 (IssuesAt.row h) hx rfl
      simp only at hrA
      subst hrA
      obtain ⟨bb2, off2, hrA2, hbb2, y0, y1, y2, y3⟩ := row4 (IssuesAt.row h) hy rfl
      simp only [Option.some.injEq, Addr.mk.injEq, and_true] at hrA2
      obtain ⟨rfl, rfl⟩ := hrA2
      have hxi : IssueAt w w.heap.size x := IssuesAt.at_ h hx
      have hyi : IssueAt w w.heap.size y := IssuesAt.at_ h hy
      have xc := hxi.cap
      have xl2 := hxi.len
      have yc := hyi.cap
      have yl2 := hyi.len
      have iI : (i : Int) < ri.length := by omega
      have oI : (o : Int) < ri.length := by omega
      have i0 : (0 : Int) ≤ i := by omega
      have o0 : (0 : Int) ≤ o := by omega
      clear hask he hrs hO hv ha q1 q2 q3 i01 o01 h hx hy
      obtain ⟨xlo, xhi, xhd, xA, xcap, xl⟩ := x
      obtain ⟨ylo, yhi, yhd, yA, ycap, yl⟩ := y
      simp only at x0 x1 x2 x3 y0 y1 y2 y3 xc xl2 yc yl2
      have HXI : Hid (IssueAt w w.heap.size ⟨xlo, xhi, xhd, xA, xcap, xl⟩) := hxi
      have HYI : Hid (IssueAt w w.heap.size ⟨ylo, yhi, yhd, yA, ycap, yl⟩) := hyi
      have xE : EntriesAt w w.heap.size xA xcap xl := hxi
      have yE : EntriesAt w w.heap.size yA ycap yl := hyi
      clear hxi hyi
      rcases at_cases xl n with ⟨t1, t2⟩ | ⟨k, e, t1, t2, t3⟩
      · have HAT := Lib.hid t1
        have hNG : numGood ⟨xlo, xhi, xhd, xA, xcap, xl⟩ n = none := by simp [numGood, t2]
        rw [hNG]
        clear t1 t2 hNG xE yE
        show Calls Tryz.prog 12 #[.agg #[vi rg, .slice (some ⟨bb, off, none⟩) ri.length rcap], vi i, vi n, vi o] w _
        go_enter Tryz.func12, Tryz.ntmps12
        go_wp2_with fail
        (refine wp_region_grow_lit (by kernel_rfl) (by kernel_rfl) ?_; (repeat (go_big_quiet_step (first | (go_at_call_of 36 i; refine Calls.grow_same (tween_is Q1.out _)) | (go_at_call_of 36 o; refine Calls.grow_same (tween_is Q2.out _)) | (go_at_call 32; refine Calls.grow_same (risNumber_is Q3.out _)) | (go_at_call 30; refine Calls.grow_of (asked_is HE.out _ (HR.out.to (by (repeat (first | exact Below.refl _ _ | refine Below.setCell ?_ (by first | omega | (simp; omega) | (simp; done)) _ | refine Below.alloc ?_ (by first | omega | (simp; omega) | (simp; done)) _ | refine Below.drew ?_ | refine below_drewN ?_ _ | refine Below.trans ?_ (Below.mono (plus_below _ _) (by first | omega | (simp; omega) | (simp; done))) | refine Below.trans ?_ (Below.mono (by assumption) (by first | omega | (simp; omega) | (simp; done)))))))))))); refine wpQuiet_nil ?_; intro w1 hw1; have hb1 := below_of_plus hw1; clear hw1; obtain ⟨⟨hc1, hf1, hs1⟩, hz1⟩ := after hb1; (try simp only [World.size_alloc, World.size_setCell, World.size_drew] at hz1))
        have HB1 : Below w.heap.size w w1 := by (repeat (first | exact Below.refl _ _ | refine Below.setCell ?_ (by first | omega | (simp; omega) | (simp; done)) _ | refine Below.alloc ?_ (by first | omega | (simp; omega) | (simp; done)) _ | refine Below.drew ?_ | refine below_drewN ?_ _ | refine Below.trans ?_ (Below.mono (by assumption) (by first | omega | (simp; omega) | (simp; done)))))
        have r0 : w1.cell? ⟨w.heap.size, 0, none⟩ = some (vi rg) := cell_keep hb1 (by simp [go_sem])
        have r1 : w1.cell? ⟨w.heap.size, 1, none⟩ = some (.slice (some ⟨bb, off, none⟩) ri.length rcap) := cell_keep hb1 (by simp [go_sem])
        have kx0 := cell_keep HB1 x0
        have kx1 := cell_keep HB1 x1
        have kx2 := cell_keep HB1 x2
        have kx3 : w1.cell? ⟨bb, off + i * 4 + 3, none⟩ = some (.slice xA xl.length xcap) := cell_keep HB1 x3
        have ky0 := cell_keep HB1 y0
        have ky1 := cell_keep HB1 y1
        have ky2 := cell_keep HB1 y2
        have ky3 : w1.cell? ⟨bb, off + o * 4 + 3, none⟩ = some (.slice yA yl.length ycap) := cell_keep HB1 y3
        have zr : w.heap.size < w1.heap.size := cell_lt r0
        have zb1 : bb < w1.heap.size := cell_lt kx0
        clear hc1 hf1 hs1 hb1 hz1
        go_wp2_with fail
        refine (at_is (x := ⟨xlo, xhi, xhd, xA, xcap, xl⟩) HAT.out _ (HXI.out.to (by (repeat (first | exact Below.refl _ _ | refine Below.setCell ?_ (by first | omega | (simp; omega) | (simp; done)) _ | refine Below.alloc ?_ (by first | omega | (simp; omega) | (simp; done)) _ | refine Below.drew ?_ | refine below_drewN ?_ _ | refine Below.trans ?_ (Below.mono (by assumption) (by first | omega | (simp; omega) | (simp; done)))))))).mono ?_
        rintro e w2 ⟨rfl, hb2⟩
        go_wp2_with fail
        go_ret2
        refine ⟨rfl, ?_⟩
        exact HB1.trans (hb2.mono HB1.size)
      · have HAT := Lib.hid t1
        have hNG : numGood ⟨xlo, xhi, xhd, xA, xcap, xl⟩ n = some e.good := by simp [numGood, t3]
        rw [hNG]
        have hkx := (List.getElem?_eq_some_iff.1 t2).1
        obtain ⟨eb, eo, rfl, heb, e0, e1, e2, e3⟩ := row4 xE.row t2 rfl
        clear t1 t2 t3 hNG xE
        obtain ⟨en, eg, ec, eA, ecap, el⟩ := e
        simp only at e0 e1 e2 e3
        have kI : (k : Int) < xl.length := by omega
        have k0 : (0 : Int) ≤ k := by omega
        simp only [Option.bind_some]
        rcases Option.eq_none_or_eq_some (yl.find? fun e => e.good == eg) with hf | ⟨z, hf⟩
        · simp only [hf, Option.map_none, Option.getD_none, Option.isSome_none, Bool.false_eq_true, if_false]
          have HOF := Lib.hid (of_none hf)
          clear hf yE
          show Calls Tryz.prog 12 #[.agg #[vi rg, .slice (some ⟨bb, off, none⟩) ri.length rcap], vi i, vi n, vi o] w _
          go_enter Tryz.func12, Tryz.ntmps12
          go_wp2_with fail
          (refine wp_region_grow_lit (by kernel_rfl) (by kernel_rfl) ?_; (repeat (go_big_quiet_step (first | (go_at_call_of 36 i; refine Calls.grow_same (tween_is Q1.out _)) | (go_at_call_of 36 o; refine Calls.grow_same (tween_is Q2.out _)) | (go_at_call 32; refine Calls.grow_same (risNumber_is Q3.out _)) | (go_at_call 30; refine Calls.grow_of (asked_is HE.out _ (HR.out.to (by (repeat (first | exact Below.refl _ _ | refine Below.setCell ?_ (by first | omega | (simp; omega) | (simp; done)) _ | refine Below.alloc ?_ (by first | omega | (simp; omega) | (simp; done)) _ | refine Below.drew ?_ | refine below_drewN ?_ _ | refine Below.trans ?_ (Below.mono (plus_below _ _) (by first | omega | (simp; omega) | (simp; done))) | refine Below.trans ?_ (Below.mono (by assumption) (by first | omega | (simp; omega) | (simp; done)))))))))))); refine wpQuiet_nil ?_; intro w1 hw1; have hb1 := below_of_plus hw1; clear hw1; obtain ⟨⟨hc1, hf1, hs1⟩, hz1⟩ := after hb1; (try simp only [World.size_alloc, World.size_setCell, World.size_drew] at hz1))
          have HB1 : Below w.heap.size w w1 := by (repeat (first | exact Below.refl _ _ | refine Below.setCell ?_ (by first | omega | (simp; omega) | (simp; done)) _ | refine Below.alloc ?_ (by first | omega | (simp; omega) | (simp; done)) _ | refine Below.drew ?_ | refine below_drewN ?_ _ | refine Below.trans ?_ (Below.mono (by assumption) (by first | omega | (simp; omega) | (simp; done)))))
          have r0 : w1.cell? ⟨w.heap.size, 0, none⟩ = some (vi rg) := cell_keep hb1 (by simp [go_sem])
          have r1 : w1.cell? ⟨w.heap.size, 1, none⟩ = some (.slice (some ⟨bb, off, none⟩) ri.length rcap) := cell_keep hb1 (by simp [go_sem])
          have kx0 := cell_keep HB1 x0
          have kx1 := cell_keep HB1 x1
          have kx2 := cell_keep HB1 x2
          have kx3 : w1.cell? ⟨bb, off + i * 4 + 3, none⟩ = some (.slice (some ⟨eb, eo, none⟩) xl.length xcap) := cell_keep HB1 x3
          have ky0 := cell_keep HB1 y0
          have ky1 := cell_keep HB1 y1
          have ky2 := cell_keep HB1 y2
          have ky3 : w1.cell? ⟨bb, off + o * 4 + 3, none⟩ = some (.slice yA yl.length ycap) := cell_keep HB1 y3
          have zr : w.heap.size < w1.heap.size := cell_lt r0
          have zb1 : bb < w1.heap.size := cell_lt kx0
          clear hc1 hf1 hs1 hb1 hz1
          have ee1 := cell_keep HB1 e1
          go_wp2_with fail
          refine (at_is (x := ⟨xlo, xhi, xhd, some ⟨eb, eo, none⟩, xcap, xl⟩) HAT.out _ (HXI.out.to (by (repeat (first | exact Below.refl _ _ | refine Below.setCell ?_ (by first | omega | (simp; omega) | (simp; done)) _ | refine Below.alloc ?_ (by first | omega | (simp; omega) | (simp; done)) _ | refine Below.drew ?_ | refine below_drewN ?_ _ | refine Below.trans ?_ (Below.mono (by assumption) (by first | omega | (simp; omega) | (simp; done)))))))).mono ?_
          rintro e w2 ⟨rfl, hb2⟩
          have HB2 : Below w.heap.size w w2 := HB1.trans (hb2.mono HB1.size)
          have r0' := cell_keep hb2 r0
          have r1' := cell_keep hb2 r1
          have x3' := cell_keep hb2 kx3
          have y0' := cell_keep hb2 ky0
          have y1' := cell_keep hb2 ky1
          have y2' := cell_keep hb2 ky2
          have y3' := cell_keep hb2 ky3
          have e1' := cell_keep hb2 ee1
          have zr2 : w.heap.size < w2.heap.size := cell_lt r0'
          have zb2 : bb < w2.heap.size := cell_lt y0'
          have zeb2 : eb < w2.heap.size := cell_lt e1'
          clear hb2
          go_wp2_with fail
          (refine wp_region_grow_lit (by kernel_rfl) (by kernel_rfl) ?_; (repeat (go_big_quiet_step ((go_at_call 43; refine Calls.grow_of (of_is (x := ⟨ylo, yhi, yhd, yA, ycap, yl⟩) HOF.out _ (HYI.out.to (HB2.trans (Below.mono (by (repeat (first | exact Below.refl _ _ | refine Below.setCell ?_ (by first | omega | (simp; omega) | (simp; done)) _ | refine Below.alloc ?_ (by first | omega | (simp; omega) | (simp; done)) _ | refine Below.drew ?_ | refine below_drewN ?_ _ | refine Below.trans ?_ (Below.mono (plus_below _ _) (by first | omega | (simp; omega) | (simp; done))) | refine Below.trans ?_ (Below.mono (by assumption) (by first | omega | (simp; omega) | (simp; done)))))) HB2.size)))))))); refine wpQuiet_nil ?_; intro w1 hw1; have hb1 := below_of_plus hw1; clear hw1; obtain ⟨⟨hc1, hf1, hs1⟩, hz1⟩ := after hb1; (try simp only [World.size_alloc, World.size_setCell, World.size_drew] at hz1))
          go_wp2_with fail
          go_ret2
          refine ⟨rfl, ?_⟩
          exact HB2.trans (hb1.mono HB2.size)
        · simp only [hf, Option.map_some, Option.isSome_some, Option.getD_some, if_true]
          obtain ⟨m, hm, hz⟩ := of_some hf
          have HOF := Lib.hid hm
          have hmy := (List.getElem?_eq_some_iff.1 hz).1
          obtain ⟨zb, zo, rfl, hzb, z0, z1, z2, z3⟩ := row4 yE.row hz rfl
          clear hf hm hz yE
          obtain ⟨zn, zg, zc, zA, zcap, zl⟩ := z
          simp only at z0 z1 z2 z3
          have mI : (m : Int) < yl.length := by omega
          have m0 : (0 : Int) ≤ m := by omega
          show Calls Tryz.prog 12 #[.agg #[vi rg, .slice (some ⟨bb, off, none⟩) ri.length rcap], vi i, vi n, vi o] w _
          go_enter Tryz.func12, Tryz.ntmps12
          go_wp2_with fail
          (refine wp_region_grow_lit (by kernel_rfl) (by kernel_rfl) ?_; (repeat (go_big_quiet_step (first | (go_at_call_of 36 i; refine Calls.grow_same (tween_is Q1.out _)) | (go_at_call_of 36 o; refine Calls.grow_same (tween_is Q2.out _)) | (go_at_call 32; refine Calls.grow_same (risNumber_is Q3.out _)) | (go_at_call 30; refine Calls.grow_of (asked_is HE.out _ (HR.out.to (by (repeat (first | exact Below.refl _ _ | refine Below.setCell ?_ (by first | omega | (simp; omega) | (simp; done)) _ | refine Below.alloc ?_ (by first | omega | (simp; omega) | (simp; done)) _ | refine Below.drew ?_ | refine below_drewN ?_ _ | refine Below.trans ?_ (Below.mono (plus_below _ _) (by first | omega | (simp; omega) | (simp; done))) | refine Below.trans ?_ (Below.mono (by assumption) (by first | omega | (simp; omega) | (simp; done)))))))))))); refine wpQuiet_nil ?_; intro w1 hw1; have hb1 := below_of_plus hw1; clear hw1; obtain ⟨⟨hc1, hf1, hs1⟩, hz1⟩ := after hb1; (try simp only [World.size_alloc, World.size_setCell, World.size_drew] at hz1))
          have HB1 : Below w.heap.size w w1 := by (repeat (first | exact Below.refl _ _ | refine Below.setCell ?_ (by first | omega | (simp; omega) | (simp; done)) _ | refine Below.alloc ?_ (by first | omega | (simp; omega) | (simp; done)) _ | refine Below.drew ?_ | refine below_drewN ?_ _ | refine Below.trans ?_ (Below.mono (by assumption) (by first | omega | (simp; omega) | (simp; done)))))
          have r0 : w1.cell? ⟨w.heap.size, 0, none⟩ = some (vi rg) := cell_keep hb1 (by simp [go_sem])
          have r1 : w1.cell? ⟨w.heap.size, 1, none⟩ = some (.slice (some ⟨bb, off, none⟩) ri.length rcap) := cell_keep hb1 (by simp [go_sem])
          have kx0 := cell_keep HB1 x0
          have kx1 := cell_keep HB1 x1
          have kx2 := cell_keep HB1 x2
          have kx3 : w1.cell? ⟨bb, off + i * 4 + 3, none⟩ = some (.slice (some ⟨eb, eo, none⟩) xl.length xcap) := cell_keep HB1 x3
          have ky0 := cell_keep HB1 y0
          have ky1 := cell_keep HB1 y1
          have ky2 := cell_keep HB1 y2
          have ky3 : w1.cell? ⟨bb, off + o * 4 + 3, none⟩ = some (.slice (some ⟨zb, zo, none⟩) yl.length ycap) := cell_keep HB1 y3
          have zr : w.heap.size < w1.heap.size := cell_lt r0
          have zb1 : bb < w1.heap.size := cell_lt kx0
          clear hc1 hf1 hs1 hb1 hz1
          have ee1 := cell_keep HB1 e1
          have zz0 := cell_keep HB1 z0
          go_wp2_with fail
          refine (at_is (x := ⟨xlo, xhi, xhd, some ⟨eb, eo, none⟩, xcap, xl⟩) HAT.out _ (HXI.out.to (by (repeat (first | exact Below.refl _ _ | refine Below.setCell ?_ (by first | omega | (simp; omega) | (simp; done)) _ | refine Below.alloc ?_ (by first | omega | (simp; omega) | (simp; done)) _ | refine Below.drew ?_ | refine below_drewN ?_ _ | refine Below.trans ?_ (Below.mono (by assumption) (by first | omega | (simp; omega) | (simp; done)))))))).mono ?_
          rintro e w2 ⟨rfl, hb2⟩
          have HB2 : Below w.heap.size w w2 := HB1.trans (hb2.mono HB1.size)
          have r0' := cell_keep hb2 r0
          have r1' := cell_keep hb2 r1
          have x3' := cell_keep hb2 kx3
          have y0' := cell_keep hb2 ky0
          have y1' := cell_keep hb2 ky1
          have y2' := cell_keep hb2 ky2
          have y3' := cell_keep hb2 ky3
          have e1' := cell_keep hb2 ee1
          have zr2 : w.heap.size < w2.heap.size := cell_lt r0'
          have zb2 : bb < w2.heap.size := cell_lt y0'
          have zeb2 : eb < w2.heap.size := cell_lt e1'
          have z0' := cell_keep hb2 zz0
          clear hb2
          have zzb : zb < w2.heap.size := cell_lt z0'
          go_wp2_with fail
          (refine wp_region_grow_lit (by kernel_rfl) (by kernel_rfl) ?_; (repeat (go_big_quiet_step ((go_at_call 43; refine Calls.grow_of (of_is (x := ⟨ylo, yhi, yhd, some ⟨zb, zo, none⟩, ycap, yl⟩) HOF.out _ (HYI.out.to (HB2.trans (Below.mono (by (repeat (first | exact Below.refl _ _ | refine Below.setCell ?_ (by first | omega | (simp; omega) | (simp; done)) _ | refine Below.alloc ?_ (by first | omega | (simp; omega) | (simp; done)) _ | refine Below.drew ?_ | refine below_drewN ?_ _ | refine Below.trans ?_ (Below.mono (plus_below _ _) (by first | omega | (simp; omega) | (simp; done))) | refine Below.trans ?_ (Below.mono (by assumption) (by first | omega | (simp; omega) | (simp; done)))))) HB2.size)))))))); refine wpQuiet_nil ?_; intro w1 hw1; have hb1 := below_of_plus hw1; clear hw1; obtain ⟨⟨hc1, hf1, hs1⟩, hz1⟩ := after hb1; (try simp only [World.size_alloc, World.size_setCell, World.size_drew] at hz1))
          have HB3 : Below w.heap.size w w1 := HB2.trans (hb1.mono HB2.size)
          have r1'' := cell_keep hb1 r1'
          have y3'' := cell_keep hb1 y3'
          have z0'' := cell_keep hb1 z0'
          have zr'' := cell_lt r1''
          have zy'' := cell_lt y3''
          have zz'' := cell_lt z0''
          clear hc1 hf1 hs1 hb1 hz1
          go_wp2_with fail
          go_ret2
          exact ⟨rfl, HB3⟩
    · have ha' : numAsk r issue n other = false := by simpa using ha
      have hrs : numErr r issue n other = 11 ∧ numV r issue n other = 0 := by simp [numErr, numV, hv, ha']
      rw [hrs.1, hrs.2]
      exact rNumber_err r issue n other 11 (by rw [hask, ha']; simp [askedE, hv]) (.inr rfl) w h
  · have hv' : validB r = false := by simpa using hv
    have hrs : numErr r issue n other = 10 ∧ numV r issue n other = 0 := by simp [numErr, numV, hv']
    rw [hrs.1, hrs.2]
    exact rNumber_err r issue n other 10 (by simp [askedE, hv']) (.inl rfl) w h
end Go.Proofs.YtpcajmkmmkmekaaGreatDoor

